/-
  The law 'NumRuns': digits with _ between any two are the same number; a _ elsewhere is none.
-/
import Derived.Test.YtinjaopgnlpncaaGreatDoorNumLawA
import Derived.Test.YtinjaopgnlpncaaGreatDoorNumDigits
namespace Go.Proofs.YtinjaopgnlpncaaGreatDoor
namespace Num
open Go.RowKit

theorem and_low (n : Int) (k m : Nat) (hk : k < 63) (hm : m = 2 ^ k - 1) : bits .and .i64 n (m : Int) = n % ((2 ^ k : Nat) : Int) := by
  have hlt : 2 ^ k < 2 ^ 63 := Nat.pow_lt_pow_right (by decide) hk
  have hpos : 0 < 2 ^ k := Nat.two_pow_pos k
  have h127 : (BitVec.ofInt 64 (m : Int)).toNat = 2 ^ k - 1 := by
    rw [BitVec.toNat_ofInt, hm]
    omega
  have hdvd : (2 : Nat) ^ 64 = 2 ^ k * 2 ^ (64 - k) := by rw [← Nat.pow_add]; congr 1; omega
  have key : (BitVec.ofInt 64 n &&& BitVec.ofInt 64 (m : Int)).toNat = (n % ((2 ^ 64 : Nat) : Int)).toNat % 2 ^ k := by
    rw [BitVec.toNat_and, BitVec.toNat_ofInt, h127, Nat.and_two_pow_sub_one_eq_mod]
  show IntKind.i64.wrap ((BitVec.ofInt 64 n &&& BitVec.ofInt 64 (m : Int)).toNat : Nat) = _
  rw [key, IntKind.wrap_i64]
  have e : (((n % ((2 ^ 64 : Nat) : Int)).toNat % 2 ^ k : Nat) : Int) = n % ((2 ^ k : Nat) : Int) := by
    rw [Int.natCast_emod, Int.toNat_of_nonneg (Int.emod_nonneg _ (by decide)), Int.emod_emod_of_dvd _ (Int.natCast_dvd_natCast.2 ⟨_, hdvd⟩)]
  rw [e]
  have h0 := Int.emod_nonneg n (show ((2 ^ k : Nat) : Int) ≠ 0 by omega)
  have h1 := Int.emod_lt_of_pos n (show (0 : Int) < ((2 ^ k : Nat) : Int) by omega)
  omega
theorem and_24 (n : Int) : ∃ m : Nat, m < 16777216 ∧ bits .and .i64 n 16777215 = (m : Int) := by
  have h := and_low n 24 16777215 (by decide) (by decide)
  refine ⟨(n % 16777216).toNat, by omega, ?_⟩
  rw [show (16777215 : Int) = ((16777215 : Nat) : Int) from rfl, h]
  simp only [Nat.reducePow]
  omega
theorem and_6 (n : Int) : ∃ m : Nat, m < 64 ∧ bits .and .i64 n 63 = (m : Int) := by
  have h := and_low n 6 63 (by decide) (by decide)
  refine ⟨(n % 64).toNat, by omega, ?_⟩
  rw [show (63 : Int) = ((63 : Nat) : Int) from rfl, h]
  simp only [Nat.reducePow]
  omega
theorem mod_cut (x : Int) (n : Nat) : ∃ k : Nat, k ≤ n ∧ (IntKind.u64.wrap x).tmod ((n : Int) + 1) = k := by
  have h : 0 ≤ IntKind.u64.wrap x := by rw [IntKind.wrap_u64]; omega
  have h1 := Int.emod_nonneg (IntKind.u64.wrap x) (by omega : ((n : Int) + 1) ≠ 0)
  have h2 := Int.emod_lt_of_pos (IntKind.u64.wrap x) (by omega : 0 < ((n : Int) + 1))
  refine ⟨((IntKind.u64.wrap x) % ((n : Int) + 1)).toNat, by omega, ?_⟩
  rw [Int.tmod_eq_emod_of_nonneg h]
  omega

/-! ### Digits with _ between two -/

theorem runL_digs (b : Nat) : ∀ (c : List UInt8) (prev : Bool), (∀ d ∈ c, valN d < b) → runL b prev c = some c.length := by
  intro c
  induction c with
  | nil => intro prev _; simp [runL]
  | cons d t ih =>
    intro prev h
    rw [runL, if_pos (h d (by simp)), ih true (fun x hx => h x (by simp [hx]))]
    rfl
theorem runL_mid (b : Nat) (hb : b ≤ 16) (c : List UInt8) (hc : c ≠ []) (hcb : ∀ d ∈ c, valN d < b) : ∀ (a : List UInt8) (prev : Bool), (a ≠ [] ∨ prev = true) → (∀ d ∈ a, valN d < b) →
    runL b prev (a ++ 95 :: c) = some (a ++ 95 :: c).length := by
  intro a
  induction a with
  | nil =>
    intro prev hp _
    have hp : prev = true := by rcases hp with h | h; exact absurd rfl h; exact h
    have hd : headDig b c = true := by
      cases c with
      | nil => exact absurd rfl hc
      | cons d t => simpa [headDig] using hcb d (by simp)
    rw [List.nil_append, runL, if_neg (by rw [val_under]; omega), if_pos rfl, if_pos ⟨hp, hd⟩, runL_digs b c false hcb]
    rfl
  | cons d t ih =>
    intro prev _ h
    rw [List.cons_append, runL, if_pos (h d (by simp)), ih true (Or.inr rfl) (fun x hx => h x (by simp [hx]))]
    rfl
theorem runL_front (b : Nat) (hb : b ≤ 16) (c : List UInt8) : runL b false (95 :: c) = none := by
  rw [runL, if_neg (by rw [val_under]; omega), if_pos rfl, if_neg (by simp)]
theorem runL_end (b : Nat) (hb : b ≤ 16) : ∀ (c : List UInt8) (prev : Bool), (∀ d ∈ c, valN d < b) → runL b prev (c ++ [95]) = none := by
  intro c
  induction c with
  | nil => intro prev _; rw [List.nil_append, runL, if_neg (by rw [val_under]; omega), if_pos rfl, if_neg (by simp [headDig])]
  | cons d t ih =>
    intro prev h
    rw [List.cons_append, runL, if_pos (h d (by simp)), ih true (fun x hx => h x (by simp [hx]))]
    rfl

theorem ofL_dec (l : List UInt8) (h : l.head? ≠ some 48) : ofL l = decOf l := by
  match l, h with
  | [], _ => rfl
  | [_], _ => rfl
  | a :: b :: t, h => rw [ofL, if_neg (fun x => h (by rw [x.1]; rfl))]

/-- The mark of the base at its place in the law's list. -/
def markL : Nat → List UInt8
  | 0 => []
  | 1 => [48, 120]
  | 2 => [48, 79]
  | _ => [48, 98]
def baseN : Nat → Nat
  | 0 => 10
  | 1 => 16
  | 2 => 8
  | _ => 2

theorem of_mark (i : Nat) (l : List UInt8) (h : 0 < i) (hi : i < 4) : ofL (markL i ++ l) = baseOf (baseN i) l := by
  match i, h with
  | 1, _ => show ofL (48 :: 120 :: l) = baseOf 16 l; rw [ofL, if_pos ⟨rfl, by decide⟩]; rfl
  | 2, _ => show ofL (48 :: 79 :: l) = baseOf 8 l; rw [ofL, if_pos ⟨rfl, by decide⟩]; rfl
  | 3, _ => show ofL (48 :: 98 :: l) = baseOf 2 l; rw [ofL, if_pos ⟨rfl, by decide⟩]; rfl

theorem out_front (i : Nat) (hi : i < 4) (D : List UInt8) : ofL (markL i ++ 95 :: D) = none := by
  by_cases h : 0 < i
  · rw [of_mark i _ h hi, baseOf, runL_front _ (by match i with | 0 | 1 | 2 | 3 => decide)]
  · obtain rfl : i = 0 := by omega
    show ofL (95 :: D) = none
    rw [ofL_dec _ (by simp), decOf, runL_front _ (by decide)]
theorem out_end (i : Nat) (hi : i < 4) (D : List UInt8) (hD : ∀ d ∈ D, valN d < baseN i) (h48 : D.head? ≠ some 48) (hne : D ≠ []) : ofL (markL i ++ (D ++ [95])) = none := by
  by_cases h : 0 < i
  · rw [of_mark i _ h hi, baseOf, runL_end _ (by match i with | 0 | 1 | 2 | 3 => decide) _ _ hD]
  · obtain rfl : i = 0 := by omega
    show ofL (D ++ [95]) = none
    rw [ofL_dec, decOf, runL_end 10 (by decide) D false hD]
    cases D with
    | nil => exact absurd rfl hne
    | cons c t => simpa using h48

theorem whole_dec (l : List UInt8) (h : Run 10 l) (h48 : l.head? ≠ some 48) (hne : l ≠ []) : ofL l = some ⟨10, l, false, [], false, [], [], false⟩ := by
  have d : Dec ⟨10, l, false, [], false, [], [], false⟩ := ⟨rfl, h, fun e => absurd e hne, fun _ => h48, rfl, fun _ => rfl, (fun e => by cases e), (fun e => by cases e), fun _ => ⟨rfl, rfl⟩⟩
  have := of_dec 101 _ (Or.inl rfl) d
  rw [show decText 101 (⟨10, l, false, [], false, [], [], false⟩ : Parts) = l from by simp [decText, dotT, expT', nT]] at this
  exact this
theorem whole_bas (i : Nat) (h0 : 0 < i) (hi : i < 4) (l : List UInt8) (h : Run (baseN i) l) (hne : l ≠ []) : ofL (markL i ++ l) = some ⟨baseN i, l, false, [], false, [], [], false⟩ := by
  have hb : baseN i = 16 ∨ baseN i = 8 ∨ baseN i = 2 := by match i, h0 with | 1, _ | 2, _ | 3, _ => decide
  have d : Bas ⟨baseN i, l, false, [], false, [], [], false⟩ := ⟨hb, h, hne, rfl, rfl, rfl, rfl, rfl⟩
  have := of_baseOf _ d
  rw [of_mark i _ h0 hi]
  simpa [nT] using this

theorem canon_whole (b : Nat) (l m : List UInt8) (h : collectL l = collectL m) : canonL ⟨b, l, false, [], false, [], [], false⟩ = canonL ⟨b, m, false, [], false, [], [], false⟩ := by
  simp only [canonL, h, powI]

theorem mid_same (i : Nat) (hi : i < 4) (a c : List UInt8) (ha : a ≠ []) (hc : c ≠ []) (hD : ∀ d ∈ a ++ c, valN d < baseN i) (h48 : (a ++ c).head? ≠ some 48) :
    okN (markL i ++ (a ++ 95 :: c)) = 0 ∧ okN (markL i ++ (a ++ c)) = 0 ∧ canonS (markL i ++ (a ++ 95 :: c)) = canonS (markL i ++ (a ++ c)) := by
  have hb : baseN i ≤ 16 := by match i with | 0 | 1 | 2 | 3 => decide
  have r1 : Run (baseN i) (a ++ 95 :: c) := runL_mid _ hb c hc (fun d hd => hD d (by simp [hd])) a false (Or.inl ha) (fun d hd => hD d (by simp [hd]))
  have r2 : Run (baseN i) (a ++ c) := runL_digs _ _ _ hD
  have hcol : collectL (a ++ 95 :: c) = collectL (a ++ c) := by simp [collectL, plainL]
  have n1 : a ++ 95 :: c ≠ [] := by simp
  have n2 : a ++ c ≠ [] := by simp [ha]
  have key : ∃ b, ofL (markL i ++ (a ++ 95 :: c)) = some ⟨b, a ++ 95 :: c, false, [], false, [], [], false⟩ ∧ ofL (markL i ++ (a ++ c)) = some ⟨b, a ++ c, false, [], false, [], [], false⟩ := by
    by_cases h : 0 < i
    · exact ⟨_, whole_bas i h hi _ r1 n1, whole_bas i h hi _ r2 n2⟩
    · obtain rfl : i = 0 := by omega
      refine ⟨10, whole_dec _ r1 ?_ n1, whole_dec _ r2 h48 n2⟩
      cases a with
      | nil => exact absurd rfl ha
      | cons x t => simpa [markL] using h48
  obtain ⟨b, k1, k2⟩ := key
  rw [okN, okN, canonS, canonS, k1, k2]
  refine ⟨rfl, rfl, ?_⟩
  show (⟨(canonL _).toArray⟩ : ByteArray) = ⟨(canonL _).toArray⟩
  rw [canon_whole b _ _ hcol]

end Num
end Go.Proofs.YtinjaopgnlpncaaGreatDoor
