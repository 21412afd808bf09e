/-
  The law 'NumOthers', plain: the forms of a small number, and what their normal forms tell.
-/
import Derived.Test.YtinjaopgnlpncaaGreatDoorNumLawB
namespace Go.Proofs.YtinjaopgnlpncaaGreatDoor
namespace Num
open Go.RowKit

def formL (v k : Nat) : List UInt8 :=
  match k with
  | 0 => digsL 10 7 v
  | 1 => digsL 10 7 v ++ [46, 48]
  | 2 => digsL 10 7 v ++ [48, 101, 45, 49]
  | 3 => 48 :: 120 :: digsL 16 7 v
  | _ => digsL 10 7 v ++ [110]

/-- The exponent of the normal form. -/
def expD (d : List UInt8) (f : Nat) (pw : Int) : Int := pw - f + ((d.length : Int) - (trimZ d).length)
def normT (d : List UInt8) (f : Nat) (pw : Int) : List UInt8 :=
  if aheadL (trimZ d) = [] then [48] else aheadL (trimZ d) ++ 101 :: (if expD d f pw = 0 then [48] else [49])
def canonT (p : Parts) : List UInt8 :=
  (if p.base = 10 then normT (collectL p.whole ++ collectL p.frac) (collectL p.frac).length (powI p) else normBas p.base (collectL p.whole)) ++ nT p.big
def okT (p : Parts) : Bool :=
  decide (p.base = 10 → expD (collectL p.whole ++ collectL p.frac) (collectL p.frac).length (powI p) = 0 ∨ expD (collectL p.whole ++ collectL p.frac) (collectL p.frac).length (powI p) = 1)
theorem itoa_0 : Lib.itoa 0 = [48] := by
  rw [show (0 : Int) = ((0 : Nat) : Int) from rfl, Lib.itoa_nonneg 0, Lib.decDigits_one (by decide)]
  rfl
theorem itoa_1 : Lib.itoa 1 = [49] := by
  rw [show (1 : Int) = ((1 : Nat) : Int) from rfl, Lib.itoa_nonneg 1, Lib.decDigits_one (by decide)]
  rfl
theorem canon_T (p : Parts) (h : okT p = true) : canonL p = canonT p := by
  unfold canonL canonT
  by_cases hb : p.base = 10
  · rw [if_pos hb, if_pos hb]
    have h := (of_decide_eq_true h) hb
    congr 1
    unfold normDec normT
    split
    · rfl
    · change expD _ _ _ = 0 ∨ expD _ _ _ = 1 at h
      show _ ++ 101 :: Lib.itoa (expD _ _ _) = _
      rcases h with h | h
      · rw [h, itoa_0]; rfl
      · rw [h, itoa_1]; rfl
  · rw [if_neg hb, if_neg hb]

def canonC (l : List UInt8) : List UInt8 := match ofL l with
  | some p => canonT p
  | none => []
def num16 : Nat → List UInt8 → Nat
  | p, [] => p
  | p, c :: t => num16 (16 * p + valN c) t
def num10 : Nat → List UInt8 → Nat
  | p, [] => p
  | p, c :: t => if c = 101 then (if t.head? = some 49 then 10 * p else p) else num10 (10 * p + valN c) t
/-- What a normal form tells: the number, the kind. -/
def tellC : List UInt8 → Nat × Nat
  | 48 :: 120 :: t => (num16 0 t, 3)
  | l => (num10 0 l, if l.getLast? = some 110 then 4 else 2)
def goodC (v k : Nat) : Bool := match ofL (formL v k) with
  | some p => okT p && canonT p == canonC (formL v (max k 2)) && tellC (canonT p) == (v, max k 2)
  | none => false
set_option maxRecDepth 100000 in
theorem good_all : (List.range 64).all (fun v => (List.range 5).all (fun k => goodC (v + 1) k)) = true := by decide +kernel

theorem good_at (v k : Nat) (h0 : v ≠ 0) (hv : v < 65) (hk : k < 5) : goodC v k = true := by
  have h := List.all_eq_true.1 (List.all_eq_true.1 good_all (v - 1) (List.mem_range.2 (by omega))) k (List.mem_range.2 hk)
  rw [show v - 1 + 1 = v from by omega] at h
  exact h
theorem forms_canon (v k : Nat) (h0 : v ≠ 0) (hv : v < 65) (hk : k < 5) :
    okN (formL v k) = 0 ∧ canonS (formL v k) = ⟨(canonC (formL v (max k 2))).toArray⟩ ∧ tellC (canonC (formL v (max k 2))) = (v, max k 2) := by
  have h := good_at v k h0 hv hk
  unfold goodC at h
  cases hp : ofL (formL v k) with
  | none => rw [hp] at h; cases h
  | some p =>
    rw [hp] at h
    simp only [Bool.and_eq_true, beq_iff_eq] at h
    obtain ⟨⟨h1, h2⟩, h3⟩ := h
    rw [okN, canonS, hp]
    refine ⟨rfl, ?_, by rw [← h2]; exact h3⟩
    show (⟨(canonL p).toArray⟩ : ByteArray) = _
    rw [canon_T p h1, h2]
theorem forms_same (v v' k k' : Nat) (h0 : v ≠ 0) (hv : v < 65) (hk : k < 5) (h0' : v' ≠ 0) (hv' : v' < 65) (hk' : k' < 5) :
    canonS (formL v k) = canonS (formL v' k') ↔ v = v' ∧ max k 2 = max k' 2 := by
  obtain ⟨_, a2, a3⟩ := forms_canon v k h0 hv hk
  obtain ⟨_, b2, b3⟩ := forms_canon v' k' h0' hv' hk'
  rw [a2, b2]
  constructor
  · intro h
    have h := congrArg (fun t : ByteArray => tellC t.data.toList) h
    simp only [] at h
    rw [a3, b3] at h
    exact ⟨congrArg Prod.fst h, congrArg Prod.snd h⟩
  · rintro ⟨rfl, h⟩
    rw [h]
theorem forms_size (v k : Nat) : (formL v k).length ≤ 11 := by
  have h1 := digs_len 10 7 v
  have h2 := digs_len 16 7 v
  unfold formL
  split <;> simp <;> omega

end Num
end Go.Proofs.YtinjaopgnlpncaaGreatDoor
