/-
  Numbers by their digits; a quantifier's braces.
-/
import Derived.Test.YtjoohpdohdehgaaGreatDoorRegAwake
import Derived.Test.YtjoohpdohdehgaaGreatDoorRegRead
namespace Go.Proofs.YtjoohpdohdehgaaGreatDoor
namespace Reg
open Go.RowKit
open Str (lenL runeL hexV)

def DigL (l : List UInt8) : Prop := ∀ x ∈ l, 48 ≤ x.toNat ∧ x.toNat ≤ 57
theorem DigL.app {a b : List UInt8} (ha : DigL a) (hb : DigL b) : DigL (a ++ b) := fun x hx => (List.mem_append.1 hx).elim (ha x) (hb x)
theorem DigL.tail {x : UInt8} {a : List UInt8} (h : DigL (x :: a)) : DigL a := fun y hy => h y (List.mem_cons_of_mem _ hy)
theorem DigL.head {x : UInt8} {a : List UInt8} (h : DigL (x :: a)) : 48 ≤ x.toNat ∧ x.toNat ≤ 57 := h x List.mem_cons_self
theorem DigL.lop {a : List UInt8} (h : DigL a) : DigL (lop a) := fun x hx => h x ((List.dropWhile_sublist _).mem hx)

/-- What the digits say. -/
def digV (v : Nat) (l : List UInt8) : Nat := l.foldl (fun v x => v * 10 + (x.toNat - 48)) v
theorem digV_nil (v : Nat) : digV v [] = v := List.foldl_nil
theorem digV_cons (v : Nat) (x : UInt8) (l : List UInt8) : digV v (x :: l) = digV (v * 10 + (x.toNat - 48)) l := List.foldl_cons ..
theorem val_app (a b : List UInt8) (v : Nat) : digV v (a ++ b) = digV (digV v a) b := by
  induction a generalizing v with
  | nil => rfl
  | cons x a ih => rw [List.cons_append, digV_cons, digV_cons, ih]
theorem val_lop : ∀ (a : List UInt8), digV 0 (lop a) = digV 0 a
  | [] => rfl
  | x :: a => by
    by_cases e : x = 48
    · subst e
      have h1 : lop (48 :: a) = lop a := by simp [lop]
      rw [h1, val_lop a]; rfl
    · have h1 : lop (x :: a) = x :: a := by simp [lop, e]
      rw [h1]
theorem lop_head (a : List UInt8) : lop a = [] ∨ ∃ x t, lop a = x :: t ∧ x ≠ 48 := by
  induction a with
  | nil => exact .inl rfl
  | cons x a ih =>
    by_cases e : x = 48
    · subst e
      have h1 : lop (48 :: a) = lop a := by simp [lop]
      rw [h1]; exact ih
    · exact .inr ⟨x, a, by simp [lop, e], e⟩

theorem val_low : ∀ (a : List UInt8) (v : Nat), v * 10 ^ a.length ≤ digV v a
  | [], v => by simp [digV_nil]
  | x :: a, v => by
    have h := val_low a (v * 10 + (x.toNat - 48))
    rw [digV_cons, List.length_cons, Nat.pow_succ]
    refine Nat.le_trans ?_ h
    rw [show v * (10 ^ a.length * 10) = (v * 10) * 10 ^ a.length from by rw [Nat.mul_comm (10 ^ a.length) 10, Nat.mul_assoc]]
    exact Nat.mul_le_mul_right _ (by omega)
theorem val_high : ∀ (a : List UInt8) (v : Nat), DigL a → digV v a < (v + 1) * 10 ^ a.length
  | [], v, _ => by simp [digV_nil]
  | x :: a, v, hd => by
    have h := val_high a (v * 10 + (x.toNat - 48)) hd.tail
    have hx := hd.head
    rw [digV_cons, List.length_cons, Nat.pow_succ]
    refine Nat.lt_of_lt_of_le h ?_
    rw [show (v + 1) * (10 ^ a.length * 10) = ((v + 1) * 10) * 10 ^ a.length from by rw [Nat.mul_comm (10 ^ a.length) 10, Nat.mul_assoc]]
    exact Nat.mul_le_mul_right _ (by omega)

theorem val_same : ∀ (a b : List UInt8) (v w : Nat), DigL a → DigL b → a.length = b.length → (digV v a < digV w b ↔ v < w ∨ (v = w ∧ Op.bytesLess a b = true))
  | [], [], v, w, _, _, _ => by simp [digV_nil, Op.bytesLess]
  | x :: a, y :: b, v, w, ha, hb, hl => by
    have hx := ha.head; have hy := hb.head
    have ih := val_same a b (v * 10 + (x.toNat - 48)) (w * 10 + (y.toNat - 48)) ha.tail hb.tail (by simpa using hl)
    rw [digV_cons, digV_cons, ih]
    have e1 : (Op.bytesLess (x :: a) (y :: b) = true) ↔ (x.toNat < y.toNat ∨ (x = y ∧ Op.bytesLess a b = true)) := by
      rw [Op.bytesLess]
      simp [UInt8.lt_iff_toNat_lt]
    have e2 : x = y ↔ x.toNat = y.toNat := UInt8.toNat_inj.symm
    rw [e1, e2]
    generalize (Op.bytesLess a b = true) = p
    constructor
    · rintro (h | ⟨h, hp⟩)
      · omega
      · by_cases e : v = w
        · exact .inr ⟨e, .inr ⟨by omega, hp⟩⟩
        · omega
    · rintro (h | ⟨h, h2 | ⟨h2, hp⟩⟩)
      · omega
      · omega
      · exact .inr ⟨by omega, hp⟩
  | [], _ :: _, _, _, _, _, hl => by simp at hl
  | _ :: _, [], _, _, _, _, hl => by simp at hl

theorem less_short {a b : List UInt8} (ha : DigL a) (hb : DigL b) (hz : ∃ x t, b = x :: t ∧ x ≠ 48) (hl : a.length < b.length) : digV 0 a < digV 0 b := by
  obtain ⟨x, t, rfl, hx⟩ := hz
  have h1 := val_high a 0 ha
  have h2 := val_low t (x.toNat - 48)
  have h3 := hb.head
  have h4 : 1 ≤ x.toNat - 48 := by
    have : x.toNat ≠ 48 := fun e => hx (UInt8.toNat_inj.1 e)
    omega
  have h5 : digV 0 (x :: t) = digV (x.toNat - 48) t := by rw [digV_cons]; simp
  have h6 : 10 ^ a.length ≤ 10 ^ t.length := Nat.pow_le_pow_right (by decide) (by simp only [List.length_cons] at hl; omega)
  have h7 : 1 * 10 ^ t.length ≤ (x.toNat - 48) * 10 ^ t.length := Nat.mul_le_mul_right _ h4
  rw [h5]
  omega
theorem less_val {a b : List UInt8} (ha : DigL a) (hb : DigL b) : lessB (lop a) (lop b) = decide (digV 0 a < digV 0 b) := by
  have la := ha.lop; have lb := hb.lop
  rw [← val_lop a, ← val_lop b]
  have za := lop_head a; have zb := lop_head b
  generalize lop a = A at *
  generalize lop b = B at *
  unfold lessB
  by_cases e : A.length = B.length
  · rw [if_pos e, Bool.eq_iff_iff, decide_eq_true_eq, val_same A B 0 0 la lb e]
    simp
  · rw [if_neg e]
    by_cases e2 : A.length < B.length
    · rw [decide_eq_true e2, decide_eq_true]
      refine less_short la lb ?_ e2
      rcases zb with h | h
      · rw [h] at e2; simp at e2
      · exact h
    · rw [decide_eq_false e2, decide_eq_false]
      have e3 : B.length < A.length := by omega
      have : digV 0 B < digV 0 A := by
        refine less_short lb la ?_ e3
        rcases za with h | h
        · rw [h] at e3; simp at e3
        · exact h
      omega

theorem dig_ofNat (k : Nat) (h : k < 10) : (UInt8.ofNat (48 + k)).toNat = 48 + k := by rw [UInt8.toNat_ofNat']; omega
theorem decF_dig : ∀ (f n : Nat), DigL (decF f n)
  | 0, _ => fun x hx => by cases hx
  | f + 1, n => by
    rw [decF]
    split
    · intro x hx
      rw [List.mem_singleton.1 hx, dig_ofNat _ (by omega)]; omega
    · exact (decF_dig f _).app (fun x hx => by rw [List.mem_singleton.1 hx, dig_ofNat _ (by omega)]; omega)
theorem decF_val : ∀ (f n : Nat), n < 10 ^ f → 0 < f → digV 0 (decF f n) = n
  | 0, _, _, h => absurd h (by decide)
  | f + 1, n, hn, _ => by
    rw [decF]
    split
    · rw [digV_cons, digV_nil, dig_ofNat _ (by omega)]; omega
    · rename_i hge
      have hf : 0 < f := by
        rcases Nat.eq_zero_or_pos f with rfl | h
        · simp at hn; omega
        · exact h
      rw [val_app, decF_val f (n / 10) (by rw [Nat.pow_succ] at hn; omega) hf, digV_cons, digV_nil, dig_ofNat _ (by omega)]; omega
theorem decF_ne (f n : Nat) (h : 0 < f) : decF f n ≠ [] := by
  cases f with
  | zero => omega
  | succ f => rw [decF]; split <;> simp

theorem digs_of {a m : List UInt8} (ha : DigL a) (hm : digB (hd m) = false) : digsL (a ++ m) = a := by
  induction a with
  | nil =>
    cases m with
    | nil => rfl
    | cons x m =>
      have e : digB (x.toNat : Int) = false := hm
      show List.takeWhile _ (x :: m) = []
      rw [List.takeWhile_cons, if_neg (by rw [e]; decide)]
  | cons x a ih =>
    have hx := ha.head
    have e : digB (x.toNat : Int) = true := decide_eq_true (by omega)
    show List.takeWhile _ (x :: (a ++ m)) = _
    rw [List.takeWhile_cons, if_pos e]
    exact congrArg _ (ih ha.tail)
theorem num_of {a m : List UInt8} (ha : DigL a) (hne : a ≠ []) (hm : digB (hd m) = false) : numP (a ++ m) = .ok (lop a, m) := by
  have h1 : digB (hd (a ++ m)) = true := by
    cases a with
    | nil => exact absurd rfl hne
    | cons x a => have := ha.head; exact decide_eq_true (by show 48 ≤ (x.toNat : Int) ∧ (x.toNat : Int) ≤ 57; omega)
  unfold numP
  rw [if_pos h1, digs_of ha hm, List.drop_left]

theorem hd_dig {b m : List UInt8} (hb : DigL b) (hne : b ≠ []) : hd (b ++ m) ≠ 125 ∧ hd (b ++ m) ≠ 44 := by
  cases b with
  | nil => exact absurd rfl hne
  | cons x b =>
    have := hb.head
    show (x.toNat : Int) ≠ 125 ∧ (x.toNat : Int) ≠ 44
    omega

/-- Two numbers in braces. -/
theorem quan_two {a b : List UInt8} (ha : DigL a) (hb : DigL b) (na : a ≠ []) (nb : b ≠ []) (m : List UInt8) :
    quanP (123 :: (a ++ 44 :: (b ++ 125 :: m))) = if digV 0 b < digV 0 a then .error ((123 :: (a ++ 44 :: (b ++ 125 :: m)) : List UInt8).length, 403) else .ok (tak 63 m) := by
  unfold quanP
  rw [if_neg (by simp [hd]), if_pos (by simp [hd])]
  have h1 : repP (123 :: (a ++ 44 :: (b ++ 125 :: m))) = if digV 0 b < digV 0 a then .error ((123 :: (a ++ 44 :: (b ++ 125 :: m)) : List UInt8).length, 403) else .ok m := by
    unfold repP
    rw [List.tail_cons, num_of ha na (by simp [hd, digB])]
    simp only
    rw [if_pos ⟨by simp [hd], (hd_dig hb nb).1⟩, List.tail_cons, num_of hb nb (by simp [hd, digB])]
    simp only
    have e : expP 125 (125 :: m) = .ok m := by unfold expP; rw [if_pos (by simp [hd])]; rfl
    rw [e]
    simp only
    rw [less_val hb ha]
    by_cases h : digV 0 b < digV 0 a
    · rw [if_pos (decide_eq_true h), if_pos h]
    · rw [if_neg (by rw [decide_eq_false h]; decide), if_neg h]
  rw [h1]
  by_cases h : digV 0 b < digV 0 a
  · rw [if_pos h, if_pos h]
  · rw [if_neg h, if_neg h]
theorem less_irr (a : List UInt8) (ha : DigL a) : lessB (lop a) (lop a) = false := by
  rw [less_val ha ha, decide_eq_false (by omega)]
/-- One number in braces. -/
theorem quan_one {a : List UInt8} (ha : DigL a) (na : a ≠ []) (m : List UInt8) : quanP (123 :: (a ++ 125 :: m)) = .ok (tak 63 m) ∧ quanP (123 :: (a ++ 44 :: 125 :: m)) = .ok (tak 63 m) := by
  have e : expP 125 (125 :: m) = .ok m := by unfold expP; rw [if_pos (by simp [hd])]; rfl
  constructor
  · unfold quanP
    rw [if_neg (by simp [hd]), if_pos (by simp [hd])]
    unfold repP
    rw [List.tail_cons, num_of ha na (by simp [hd, digB])]
    simp only
    rw [if_neg (fun h => absurd (show (125 : Int) = 44 from h.1) (by decide)), tak_no (by simp [hd])]
    simp only
    rw [e]
    simp only
    rw [less_irr a ha, if_neg (by decide)]
  · unfold quanP
    rw [if_neg (by simp [hd]), if_pos (by simp [hd])]
    unfold repP
    rw [List.tail_cons, num_of ha na (by simp [hd, digB])]
    simp only
    rw [if_neg (fun h => h.2 (show (125 : Int) = 125 from rfl)), tak_yes (by simp [hd]), List.tail_cons]
    simp only
    rw [e]
    simp only
    rw [less_irr a ha, if_neg (by decide)]

/-- The letter a. -/
theorem piece_a (u : Bool) (q : List UInt8) : pieceP u (patV u) ⟨97 :: q, 0, [], []⟩ = .ok (true, ⟨q, 0, [], []⟩) := by
  have h : chrP anyP (97 :: q) = .ok (97, q) := by
    unfold chrP
    rcases Str.lenL_cons 97 q with ⟨-, h⟩ | ⟨h1, -, h3⟩ | ⟨-, h, -⟩
    · exact absurd h (by decide)
    · rw [h1, h3, if_neg (by decide)]; rfl
    · exact absurd h (by decide)
  unfold pieceP
  rw [if_neg (by simp [hd]), if_neg (by simp [hd]), if_neg (by simp [hd]), if_neg (by simp [hd]),
    if_neg (by simp [hd])]
  rw [h]
  rfl
/-- A letter and its quantifier, which is all. -/
theorem body_bad (u : Bool) (q : List UInt8) (e : Nat × Nat) (h : quanP q = .error e) : bodyP u (97 :: q) = .error e := by
  have h2 : termP u (patV u) ⟨97 :: q, 0, [], []⟩ = .error e := by unfold termP; rw [piece_a]; simp only; rw [if_pos True.intro, h]
  have h3 : altV u ⟨97 :: q, 0, [], []⟩ = .error e := by rw [alt_eq, if_neg (by simp [hd]), h2]
  have h4 : patV u ⟨97 :: q, 0, [], []⟩ = .error e := by rw [pat_eq, h3]
  unfold bodyP
  rw [if_neg (by simp)]
  show (match patV u ⟨97 :: q, 0, [], []⟩ with
    | .error e => .error e
    | .ok st => if hd st.rest = -1 then lookP st.groups st.names st.refs else wrong st.rest : Except (Nat × Nat) Unit) = _
  rw [h4]
theorem body_good (u : Bool) (q : List UInt8) (h : quanP q = .ok []) : bodyP u (97 :: q) = .ok () := by
  have h2 : termP u (patV u) ⟨97 :: q, 0, [], []⟩ = .ok ⟨[], 0, [], []⟩ := by unfold termP; rw [piece_a]; simp only; rw [if_pos True.intro, h]; rfl
  have h0 : altV u ⟨[], 0, [], []⟩ = .ok ⟨[], 0, [], []⟩ := by rw [alt_eq, if_pos (.inl rfl)]
  have h3 : altV u ⟨97 :: q, 0, [], []⟩ = .ok ⟨[], 0, [], []⟩ := by rw [alt_eq, if_neg (by simp [hd]), h2]; exact h0
  have h4 : patV u ⟨97 :: q, 0, [], []⟩ = .ok ⟨[], 0, [], []⟩ := by rw [pat_eq, h3]; rfl
  unfold bodyP
  rw [if_neg (by simp)]
  show (match patV u ⟨97 :: q, 0, [], []⟩ with
    | .error e => .error e
    | .ok st => if hd st.rest = -1 then lookP st.groups st.names st.refs else wrong st.rest : Except (Nat × Nat) Unit) = _
  rw [h4]; rfl

end Reg
end Go.Proofs.YtjoohpdohdehgaaGreatDoor
