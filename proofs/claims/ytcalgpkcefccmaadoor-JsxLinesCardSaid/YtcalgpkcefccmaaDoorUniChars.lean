/-
  Whole characters of a text, found in two ways, are the same; where a text first goes wrong: no program is named here.
-/
import Derived.Test.YtcalgpkcefccmaaDoorUniBits
namespace Go.Proofs.YtcalgpkcefccmaaDoor
namespace Uni
open Go.RowKit

theorem size_cut (s : ByteArray) (i : Nat) : (s.extract i s.size).size = s.size - i := by simp

/-- The length, if the character is one that may be, in its shortest form; else 0. -/
def keepN (x least size : Nat) : Nat := if x < least then 0 else if 1114111 < x then 0 else if 55296 ≤ x ∧ x ≤ 57343 then 0 else size

theorem compose_cut (s : ByteArray) (i r size least : Nat) (h : i < s.size) (h2 : 2 ≤ size) (h4 : size ≤ 4) :
    composeN (s.extract i s.size) r size least =
      if tailB s (i + 1) = true ∧ (3 ≤ size → tailB s (i + 2) = true) ∧ (4 ≤ size → tailB s (i + 3) = true) then
        keepN (foldN (s.extract i s.size) r size) least size
      else 0 := by
  have hsz := size_cut s i
  have cut : ∀ k, k < s.size - i → byteN (s.extract i s.size) k = byteN s (i + k) := fun k hk => byteN_cut s i k (by omega) hk
  rw [composeN, hsz]
  generalize foldN (s.extract i s.size) r size = x
  by_cases hl : s.size - i < size
  · rw [if_pos hl]
    by_cases h : tailB s (i + 1) = true ∧ (3 ≤ size → tailB s (i + 2) = true) ∧ (4 ≤ size → tailB s (i + 3) = true)
    · exfalso
      obtain ⟨a, b, c⟩ := h
      simp only [tailB, decide_eq_true_eq] at a b c
      omega
    · rw [if_neg h]
  · rw [if_neg hl]
    have c1 := cut 1 (by omega)
    have key : (contsN (s.extract i s.size) size = true) ↔ (tailB s (i + 1) = true ∧ (3 ≤ size → tailB s (i + 2) = true) ∧ (4 ≤ size → tailB s (i + 3) = true)) := by
      obtain rfl | rfl | rfl : size = 2 ∨ size = 3 ∨ size = 4 := by omega
      · simp [contsN, c1, tailB_div s (i + 1) (by omega)]
      · have c2 := cut 2 (by omega)
        simp [contsN, c1, c2, tailB_div s (i + 1) (by omega), tailB_div s (i + 2) (by omega)]
      · have c2 := cut 2 (by omega)
        have c3 := cut 3 (by omega)
        simp [contsN, c1, c2, c3, tailB_div s (i + 1) (by omega), tailB_div s (i + 2) (by omega), tailB_div s (i + 3) (by omega), and_assoc]
    by_cases h : tailB s (i + 1) = true ∧ (3 ≤ size → tailB s (i + 2) = true) ∧ (4 ≤ size → tailB s (i + 3) = true)
    · rw [if_pos h, if_neg (by rw [key.2 h]; decide)]; rfl
    · rw [if_neg h, if_pos (by cases e : contsN (s.extract i s.size) size with
        | true => exact absurd (key.1 e) h
        | false => rfl)]

theorem compose_cut2 (s : ByteArray) (i r least : Nat) (h : i < s.size) :
    composeN (s.extract i s.size) r 2 least = if tailB s (i + 1) = true then keepN (foldN (s.extract i s.size) r 2) least 2 else 0 := by
  rw [compose_cut s i r 2 least h (by omega) (by omega)]
  by_cases a : tailB s (i + 1) = true
  · rw [if_pos a, if_pos ⟨a, by omega, by omega⟩]
  · rw [if_neg a, if_neg (fun x => a x.1)]
theorem compose_cut3 (s : ByteArray) (i r least : Nat) (h : i < s.size) :
    composeN (s.extract i s.size) r 3 least = if tailB s (i + 1) = true ∧ tailB s (i + 2) = true then keepN (foldN (s.extract i s.size) r 3) least 3 else 0 := by
  rw [compose_cut s i r 3 least h (by omega) (by omega)]
  by_cases a : tailB s (i + 1) = true ∧ tailB s (i + 2) = true
  · rw [if_pos a, if_pos ⟨a.1, fun _ => a.2, by omega⟩]
  · rw [if_neg a, if_neg (fun x => a ⟨x.1, x.2.1 (Nat.le_refl _)⟩)]
theorem compose_cut4 (s : ByteArray) (i r least : Nat) (h : i < s.size) :
    composeN (s.extract i s.size) r 4 least = if tailB s (i + 1) = true ∧ tailB s (i + 2) = true ∧ tailB s (i + 3) = true then keepN (foldN (s.extract i s.size) r 4) least 4 else 0 := by
  rw [compose_cut s i r 4 least h (by omega) (by omega)]
  by_cases a : tailB s (i + 1) = true ∧ tailB s (i + 2) = true ∧ tailB s (i + 3) = true
  · rw [if_pos a, if_pos ⟨a.1, fun _ => a.2.1, fun _ => a.2.2⟩]
  · rw [if_neg a, if_neg (fun x => a ⟨x.1, x.2.1 (by omega), x.2.2 (Nat.le_refl _)⟩)]

theorem complete_cut (s : ByteArray) (i : Nat) (h : i < s.size) : completeN (s.extract i s.size) = lenN s i := by
  have cut : ∀ k, k < s.size - i → byteN (s.extract i s.size) k = byteN s (i + k) := fun k hk => byteN_cut s i k (by omega) hk
  have c0 : byteN (s.extract i s.size) 0 = byteN s i := cut 0 (by omega)
  have b0 := byteN_lt s i
  rw [completeN, lenN, c0, compose_cut2 s i _ _ h, compose_cut3 s i _ _ h, compose_cut4 s i _ _ h]
  have f2 : ∀ t r, foldN t r 2 = r * 64 + byteN t 1 % 64 := fun _ _ => rfl
  have f3 : ∀ t r, foldN t r 3 = (r * 64 + byteN t 1 % 64) * 64 + byteN t 2 % 64 := fun _ _ => rfl
  have f4 : ∀ t r, foldN t r 4 = ((r * 64 + byteN t 1 % 64) * 64 + byteN t 2 % 64) * 64 + byteN t 3 % 64 := fun _ _ => rfl
  rw [f2, f3, f4]
  by_cases a1 : byteN s i < 128
  · rw [if_pos a1, if_pos a1]
  rw [if_neg a1, if_neg a1]
  by_cases t1 : tailB s (i + 1) = true
  · have l1 : i + 1 < s.size ∧ 128 ≤ byteN s (i + 1) ∧ byteN s (i + 1) < 192 := by simpa [tailB] using t1
    rw [cut 1 (by omega)]
    by_cases t2 : tailB s (i + 2) = true
    · have l2 : i + 2 < s.size ∧ 128 ≤ byteN s (i + 2) ∧ byteN s (i + 2) < 192 := by simpa [tailB] using t2
      rw [cut 2 (by omega)]
      by_cases t3 : tailB s (i + 3) = true
      · have l3 : i + 3 < s.size ∧ 128 ≤ byteN s (i + 3) ∧ byteN s (i + 3) < 192 := by simpa [tailB] using t3
        rw [cut 3 (by omega)]
        simp only [t1, t2, t3, and_true, if_true, keepN]
        clear t1 t2 t3 c0 cut f2 f3 f4
        repeat' split
        all_goals omega
      · have t3' : tailB s (i + 3) = false := by simpa using t3
        simp only [t1, t2, t3', and_true, if_true, keepN, Bool.false_eq_true, and_false, if_false]
        clear t1 t2 t3 t3' c0 cut f2 f3 f4
        repeat' split
        all_goals omega
    · have t2' : tailB s (i + 2) = false := by simpa using t2
      simp only [t1, t2', and_true, if_true, keepN, Bool.false_eq_true, and_false, false_and, if_false]
      clear t1 t2 t2' c0 cut f2 f3 f4
      repeat' split
      all_goals omega
  · have t1' : tailB s (i + 1) = false := by simpa using t1
    simp only [t1', keepN, Bool.false_eq_true, and_false, false_and, if_false]
    clear t1 t1' c0 cut f2 f3 f4
    repeat' split
    all_goals omega

theorem lenN_le (s : ByteArray) (i : Nat) (h : i < s.size) : i + lenN s i ≤ s.size := by
  rw [lenN]
  by_cases a1 : byteN s i < 128
  · rw [if_pos a1]; omega
  rw [if_neg a1]
  by_cases a2 : 194 ≤ byteN s i ∧ byteN s i < 224 ∧ tailB s (i + 1) = true
  · rw [if_pos a2]
    have := a2.2.2
    simp only [tailB, decide_eq_true_eq] at this
    omega
  rw [if_neg a2]
  by_cases a3 : 224 ≤ byteN s i ∧ byteN s i < 240 ∧ tailB s (i + 1) = true ∧ tailB s (i + 2) = true
  · rw [if_pos a3]
    have := a3.2.2.2
    simp only [tailB, decide_eq_true_eq] at this
    split <;> omega
  rw [if_neg a3]
  by_cases a4 : 240 ≤ byteN s i ∧ byteN s i < 245 ∧ tailB s (i + 1) = true ∧ tailB s (i + 2) = true ∧ tailB s (i + 3) = true
  · rw [if_pos a4]
    have := a4.2.2.2.2
    simp only [tailB, decide_eq_true_eq] at this
    split <;> omega
  rw [if_neg a4]; omega

theorem lenN_four (s : ByteArray) (i : Nat) : lenN s i ≤ 4 := by
  rw [lenN]
  repeat' split
  all_goals omega

/-- The first place, from i on, at which no whole character stands. -/
def badN (s : ByteArray) : Nat → Nat → Option Nat
  | 0, _ => none
  | f + 1, i => if i < s.size then (if lenN s i = 0 then some i else badN s f (i + lenN s i)) else none

theorem badN_fuel (s : ByteArray) : ∀ f g i, s.size - i ≤ f → s.size - i ≤ g → badN s f i = badN s g i := by
  intro f
  induction f with
  | zero =>
    intro g i hf _
    match g with
    | 0 => rfl
    | g + 1 => rw [badN, badN, if_neg (by omega)]
  | succ f ih =>
    intro g i hf hg
    match g with
    | 0 => rw [badN, badN, if_neg (by omega)]
    | g + 1 =>
      rw [badN, badN]
      by_cases h : i < s.size
      · rw [if_pos h, if_pos h]
        by_cases e : lenN s i = 0
        · rw [if_pos e, if_pos e]
        · rw [if_neg e, if_neg e]
          exact ih g (i + lenN s i) (by omega) (by omega)
      · rw [if_neg h, if_neg h]

def badFrom (s : ByteArray) (i : Nat) : Option Nat := badN s s.size i

theorem bad_step (s : ByteArray) (i : Nat) (h : i < s.size) (e : lenN s i ≠ 0) : badFrom s i = badFrom s (i + lenN s i) := by
  unfold badFrom
  rw [badN_fuel s s.size (s.size - i - 1 + 1) i (by omega) (by omega), badN, if_pos h, if_neg e]
  exact badN_fuel s _ _ _ (by omega) (by omega)
theorem bad_here (s : ByteArray) (i : Nat) (h : i < s.size) (e : lenN s i = 0) : badFrom s i = some i := by
  unfold badFrom
  rw [badN_fuel s s.size (s.size - i - 1 + 1) i (by omega) (by omega), badN, if_pos h, if_pos e]
theorem bad_end (s : ByteArray) (i : Nat) (h : ¬ i < s.size) : badFrom s i = none := by
  unfold badFrom
  rw [badN_fuel s s.size 0 i (by omega) (by omega), badN]

/-- What the check answers: a place, an error's number. -/
def badAt (s : ByteArray) : Nat := match badFrom s 0 with | some i => i | none => 0
def badCode (s : ByteArray) : Nat := match badFrom s 0 with | some _ => 100 | none => 0

end Uni
end Go.Proofs.YtcalgpkcefccmaaDoor
