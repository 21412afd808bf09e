/-
  Plain mathematics of numeric literals: where the library's cuts cut a literal; its normal form, its print.
-/
import Derived.Test.YtinjaopgnlpncaaGreatDoorNumLit
import Derived.Lib.Strings
import Derived.Lib.IndexAny
import Derived.Lib.Bytealg
import Derived.Lib.Case
import Derived.Lib.ItoaNum
import Derived.Lib.SlTrimSet
namespace Go.Proofs.YtinjaopgnlpncaaGreatDoor
namespace Num

theorem suffix_yes (body : List UInt8) (c : UInt8) : Lib.hasSuffix (body ++ [c]) [c] = true ∧ Lib.trimSuffix (body ++ [c]) [c] = body := by
  have h : Lib.hasSuffix (body ++ [c]) [c] = true := by
    unfold Lib.hasSuffix
    rw [List.isSuffixOf_iff_suffix]
    exact List.suffix_append _ _
  refine ⟨h, ?_⟩
  rw [Lib.trimSuffix, if_pos h]
  simp
theorem suffix_no (l : List UInt8) (c : UInt8) (h : c ∉ l) : Lib.hasSuffix l [c] = false ∧ Lib.trimSuffix l [c] = l := by
  have h : Lib.hasSuffix l [c] = false := by
    unfold Lib.hasSuffix
    rw [Bool.eq_false_iff]
    intro hs
    rw [List.isSuffixOf_iff_suffix] at hs
    exact h (hs.subset (by simp))
  refine ⟨h, ?_⟩
  rw [Lib.trimSuffix, if_neg (by rw [h]; decide)]

theorem cut_n (body : List UInt8) (big : Bool) (h : (110 : UInt8) ∉ body) : Lib.hasSuffix (body ++ nT big) [110] = big ∧ Lib.trimSuffix (body ++ nT big) [110] = body := by
  cases big
  · rw [nT, if_neg (by decide), List.append_nil]; exact suffix_no body 110 h
  · rw [nT, if_pos rfl]; exact suffix_yes body 110

theorem index_miss (a : List UInt8) (cs : List UInt8) (h : ∀ c ∈ a, cs.contains c = false) : Lib.indexAny a cs = -1 := by
  induction a with
  | nil => rfl
  | cons c t ih =>
    rw [Lib.indexAny, h c (by simp), ih (fun d hd => h d (by simp [hd]))]
    rfl
theorem index_hit (a : List UInt8) (c : UInt8) (t : List UInt8) (cs : List UInt8) (h : ∀ c ∈ a, cs.contains c = false) (hc : cs.contains c = true) : Lib.indexAny (a ++ c :: t) cs = a.length := by
  induction a with
  | nil => rw [List.nil_append, Lib.indexAny, if_pos hc]; rfl
  | cons d a ih =>
    rw [List.cons_append, Lib.indexAny, h d (by simp), ih (fun d hd => h d (by simp [hd]))]
    have : ((a.length : Int) == -1) = false := beq_eq_false_iff_ne.2 (by omega)
    rw [this]
    simp
theorem byte_miss (a : List UInt8) (x : UInt8) (h : x ∉ a) : Lib.indexByte a x = -1 := by
  induction a with
  | nil => rfl
  | cons c t ih =>
    rw [Lib.indexByte, if_neg (by intro e; exact h (by rw [beq_iff_eq.1 e]; simp)), ih (fun hd => h (by simp [hd]))]
    rfl
theorem byte_hit (a : List UInt8) (x : UInt8) (t : List UInt8) (h : x ∉ a) : Lib.indexByte (a ++ x :: t) x = a.length := by
  induction a with
  | nil => rw [List.nil_append, Lib.indexByte, if_pos (by simp)]; rfl
  | cons d a ih =>
    rw [List.cons_append, Lib.indexByte, if_neg (by intro e; exact h (by rw [beq_iff_eq.1 e]; simp)), ih (fun hd => h (by simp [hd]))]
    have : ((a.length : Int) == -1) = false := beq_eq_false_iff_ne.2 (by omega)
    rw [this]
    simp

theorem run_not (b : Nat) (ds : List UInt8) (h : Run b ds) (x : UInt8) (h1 : ¬ valN x < b) (h2 : x ≠ 95) : x ∉ ds := by
  intro hx
  rcases run_mem b ds false h x hx with h | h
  · exact h1 h
  · exact h2 h

def mantL (p : Parts) : List UInt8 := p.whole ++ dotT p
def bodyL (e : UInt8) (p : Parts) : List UInt8 := mantL p ++ expT' e p
theorem decText_body (e : UInt8) (p : Parts) : decText e p = bodyL e p ++ nT p.big := by simp [decText, bodyL, mantL]

theorem mant_not (p : Parts) (d : Dec p) (x : UInt8) (h1 : ¬ valN x < 10) (h2 : x ≠ 95) (h3 : x ≠ 46) : x ∉ mantL p := by
  unfold mantL dotT
  intro hx
  rcases List.mem_append.1 hx with h | h
  · exact run_not 10 _ d.whole x h1 h2 h
  · cases hd : p.dot with
    | false => rw [hd] at h; cases h
    | true =>
      rw [hd] at h
      rcases List.mem_cons.1 h with h | h
      · exact h3 h
      · exact run_not 10 _ d.frac x h1 h2 h
theorem body_n (e : UInt8) (he : e = 101 ∨ e = 69) (p : Parts) (d : Dec p) : (110 : UInt8) ∉ bodyL e p := by
  unfold bodyL
  intro hx
  rcases List.mem_append.1 hx with h | h
  · exact mant_not p d 110 (by decide) (by decide) (by decide) h
  · unfold expT' at h
    cases hd : p.exp with
    | false => rw [hd] at h; cases h
    | true =>
      rw [hd] at h
      obtain ⟨a1, _, _, a4⟩ := d.pow hd
      rcases List.mem_cons.1 h with h | h
      · rcases he with rfl | rfl <;> exact absurd h (by decide)
      · rcases List.mem_append.1 h with h | h
        · rcases a4 with a4 | a4 | a4 <;> rw [a4] at h <;> simp at h
        · exact run_not 10 _ a1 110 (by decide) (by decide) h
theorem bas_n (b : UInt8) (p : Parts) (d : Bas p) (hb : radN (lowN b) = p.base) : (110 : UInt8) ∉ (48 :: b :: p.whole) := by
  intro hx
  rcases List.mem_cons.1 hx with h | h
  · exact absurd h (by decide)
  · rcases List.mem_cons.1 h with h | h
    · subst h
      have := d.base
      rw [← hb] at this
      exact absurd this (by decide)
    · exact run_not _ _ d.whole 110 (by rw [show valN 110 = 99 from by decide]; have := d.base; omega) (by decide) h

theorem body_e (e : UInt8) (he : e = 101 ∨ e = 69) (p : Parts) (d : Dec p) : Lib.indexAny (bodyL e p) [101, 69] = if p.exp then ((mantL p).length : Int) else -1 := by
  have hm : ∀ c ∈ mantL p, ([101, 69] : List UInt8).contains c = false := by
    intro c hc
    have h1 : c ≠ 101 := by intro h; subst h; exact mant_not p d 101 (by decide) (by decide) (by decide) hc
    have h2 : c ≠ 69 := by intro h; subst h; exact mant_not p d 69 (by decide) (by decide) (by decide) hc
    simp [h1, h2]
  unfold bodyL expT'
  cases hd : p.exp with
  | false => simp; exact index_miss _ _ hm
  | true =>
    rw [if_pos rfl, if_pos rfl]
    exact index_hit _ _ _ _ hm (by rcases he with rfl | rfl <;> rfl)
theorem mant_dot (p : Parts) (d : Dec p) : Lib.indexByte (mantL p) 46 = if p.dot then (p.whole.length : Int) else -1 := by
  have hm : (46 : UInt8) ∉ p.whole := run_not 10 _ d.whole 46 (by decide) (by decide)
  unfold mantL dotT
  cases hd : p.dot with
  | false => simp; exact byte_miss _ _ hm
  | true => rw [if_pos rfl, if_pos rfl]; exact byte_hit _ _ _ hm

/-- The letter of a base. -/
def letN (b : Nat) : UInt8 := if b = 16 then 120 else if b = 8 then 111 else if b = 2 then 98 else 0
theorem let_of (c : UInt8) (b : Nat) (h : radN c = b) (hb : b = 16 ∨ b = 8 ∨ b = 2) : c = letN b := by
  unfold radN at h
  split at h
  · subst h; rename_i h; exact h
  · split at h
    · subst h; rename_i h; exact h
    · split at h
      · subst h; rename_i h; exact h
      · omega

/-! ### The normal form -/

def collectL (t : List UInt8) : List UInt8 := (plainL t).map lowN
/-- Without noughts behind. -/
def trimZ (l : List UInt8) : List UInt8 := (l.reverse.dropWhile (fun c => c == 48)).reverse
/-- The number that the digits tell. -/
def numL : Nat → List UInt8 → Nat
  | p, [] => p
  | p, c :: t => if digN c then numL (10 * p + (c.toNat - 48)) t else numL p t

def powI (p : Parts) : Int := if p.sgn = [45] then -(numL 0 p.pow : Int) else (numL 0 p.pow : Int)

/-- The normal form of the digits d, the last f of which stand behind the point. -/
def normDec (d : List UInt8) (f : Nat) (pw : Int) : List UInt8 :=
  if aheadL (trimZ d) = [] then [48] else aheadL (trimZ d) ++ 101 :: Lib.itoa (pw - f + ((d.length : Int) - (trimZ d).length))
def normBas (b : Nat) (d : List UInt8) : List UInt8 := 48 :: letN b :: (if aheadL d = [] then [48] else aheadL d)

def canonL (p : Parts) : List UInt8 :=
  (if p.base = 10 then normDec (collectL p.whole ++ collectL p.frac) (collectL p.frac).length (powI p) else normBas p.base (collectL p.whole)) ++ nT p.big

/-- The fraction as it is printed. -/
def fracL (f : List UInt8) : List UInt8 := (f.reverse.dropWhile (fun c => c == 48 || c == 95)).reverse
def printDec (p : Parts) : List UInt8 :=
  (if p.whole = [] then [48] else []) ++ p.whole ++ (if fracL p.frac = [] then [] else 46 :: fracL p.frac) ++ (if p.exp then 101 :: ((if p.sgn = [45] then [45] else []) ++ p.pow) else [])
def printL (p : Parts) : List UInt8 :=
  (if p.base = 10 then printDec p else 48 :: letN p.base :: Lib.toUpperA p.whole) ++ nT p.big

end Num
end Go.Proofs.YtinjaopgnlpncaaGreatDoor
