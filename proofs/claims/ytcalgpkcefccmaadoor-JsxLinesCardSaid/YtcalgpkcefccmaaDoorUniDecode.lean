/-
  What the model's own reading of a character gives: no program is named here.
-/
import Derived.Test.YtcalgpkcefccmaaDoorUniChars
import Derived.Test.YtcalgpkcefccmaaDoorUniPlain
namespace Go.Proofs.YtcalgpkcefccmaaDoor
namespace Uni
open Go.RowKit

/-- The character at a place at which a whole one stands. -/
def runeN (s : ByteArray) (i : Nat) : Nat :=
  if lenN s i = 2 then byteN s i % 32 * 64 + byteN s (i + 1) % 64
  else if lenN s i = 3 then (byteN s i % 16 * 64 + byteN s (i + 1) % 64) * 64 + byteN s (i + 2) % 64
  else if lenN s i = 4 then ((byteN s i % 8 * 64 + byteN s (i + 1) % 64) * 64 + byteN s (i + 2) % 64) * 64 + byteN s (i + 3) % 64
  else byteN s i

theorem decode_form (s : ByteArray) (i : Nat) : Utf8.decode s i =
    if byteN s i < 128 then (byteN s i, 1)
    else if (byteN s i / 32 == 6 && (decide (i + 1 < s.size) && byteN s (i + 1) / 64 == 2)) = true then
      (if byteN s i % 32 * 64 + byteN s (i + 1) % 64 ≥ 128 then (byteN s i % 32 * 64 + byteN s (i + 1) % 64, 2) else (65533, 1))
    else if (byteN s i / 16 == 14 && (decide (i + 1 < s.size) && byteN s (i + 1) / 64 == 2) && (decide (i + 2 < s.size) && byteN s (i + 2) / 64 == 2)) = true then
      (if (decide (byteN s i % 16 * 4096 + byteN s (i + 1) % 64 * 64 + byteN s (i + 2) % 64 ≥ 2048) && Utf8.valid ((byteN s i % 16 * 4096 + byteN s (i + 1) % 64 * 64 + byteN s (i + 2) % 64 : Nat) : Int)) = true then (byteN s i % 16 * 4096 + byteN s (i + 1) % 64 * 64 + byteN s (i + 2) % 64, 3) else (65533, 1))
    else if (byteN s i / 8 == 30 && (decide (i + 1 < s.size) && byteN s (i + 1) / 64 == 2) && (decide (i + 2 < s.size) && byteN s (i + 2) / 64 == 2) && (decide (i + 3 < s.size) && byteN s (i + 3) / 64 == 2)) = true then
      (if (decide (byteN s i % 8 * 262144 + byteN s (i + 1) % 64 * 4096 + byteN s (i + 2) % 64 * 64 + byteN s (i + 3) % 64 ≥ 65536) && Utf8.valid ((byteN s i % 8 * 262144 + byteN s (i + 1) % 64 * 4096 + byteN s (i + 2) % 64 * 64 + byteN s (i + 3) % 64 : Nat) : Int)) = true then (byteN s i % 8 * 262144 + byteN s (i + 1) % 64 * 4096 + byteN s (i + 2) % 64 * 64 + byteN s (i + 3) % 64, 4) else (65533, 1))
    else (65533, 1) := rfl

theorem valid_iff (n : Nat) : Utf8.valid (n : Int) = decide (n < 55296 ∨ 57344 ≤ n ∧ n ≤ 1114111) := by
  rw [Bool.eq_iff_iff]
  simp [Utf8.valid]
  omega

theorem and_tail (s : ByteArray) (j : Nat) : (decide (j < s.size) && byteN s j / 64 == 2) = tailB s j := by
  rw [Bool.eq_iff_iff]; simp [tailB]; omega

theorem decode_eq (s : ByteArray) (i : Nat) : Utf8.decode s i = if lenN s i = 0 then (65533, 1) else (runeN s i, lenN s i) := by
  have b0 := byteN_lt s i
  have hl := lenN.eq_1 s i
  have hr := runeN.eq_1 s i
  rw [decode_form, and_tail, and_tail, and_tail, valid_iff, valid_iff]
  generalize lenN s i = n at *
  generalize runeN s i = r at *
  have l1 : tailB s (i + 1) = true → 128 ≤ byteN s (i + 1) ∧ byteN s (i + 1) < 192 := by intro h; simp [tailB] at h; omega
  have l2 : tailB s (i + 2) = true → 128 ≤ byteN s (i + 2) ∧ byteN s (i + 2) < 192 := by intro h; simp [tailB] at h; omega
  have l3 : tailB s (i + 3) = true → 128 ≤ byteN s (i + 3) ∧ byteN s (i + 3) < 192 := by intro h; simp [tailB] at h; omega
  generalize tailB s (i + 1) = t1 at *
  generalize tailB s (i + 2) = t2 at *
  generalize tailB s (i + 3) = t3 at *
  generalize byteN s i = c0 at *
  generalize byteN s (i + 1) = c1 at *
  generalize byteN s (i + 2) = c2 at *
  generalize byteN s (i + 3) = c3 at *
  simp only [Bool.and_eq_true, beq_iff_eq, decide_eq_true_eq]
  by_cases a1 : c0 < 128
  · rw [if_pos a1] at hl
    subst hl
    rw [if_pos a1, if_neg (by omega), hr]; simp
  rw [if_neg a1] at hl ⊢
  by_cases a2 : c0 < 192
  · rw [if_neg (by omega), if_neg (by omega), if_neg (by omega)] at hl
    subst hl
    rw [if_neg (by omega), if_neg (by omega), if_neg (by omega)]; rfl
  by_cases a3 : c0 < 224
  · rw [if_neg (by omega : ¬ (224 ≤ c0 ∧ _)), if_neg (by omega : ¬ (240 ≤ c0 ∧ _))] at hl
    rw [if_neg (by omega : ¬ ((c0 / 16 = 14 ∧ _) ∧ _)), if_neg (by omega : ¬ (((c0 / 8 = 30 ∧ _) ∧ _) ∧ _))]
    cases t1
    · rw [if_neg (by simp)] at hl ⊢
      subst hl; rfl
    · have := l1 rfl
      rw [if_pos (by simp; omega)]
      by_cases a4 : c0 < 194
      · rw [if_neg (by omega)] at hl
        subst hl
        rw [if_neg (by omega)]; rfl
      · rw [if_pos (by simp; omega)] at hl
        subst hl
        rw [if_pos (by omega), hr]; rfl
  rw [if_neg (by omega : ¬ (194 ≤ c0 ∧ _))] at hl
  rw [if_neg (by omega : ¬ (c0 / 32 = 6 ∧ _))]
  by_cases a5 : c0 < 240
  · rw [if_neg (by omega : ¬ (240 ≤ c0 ∧ _))] at hl
    rw [if_neg (by omega : ¬ (((c0 / 8 = 30 ∧ _) ∧ _) ∧ _))]
    cases t1
    · rw [if_neg (by simp)] at hl ⊢
      subst hl; rfl
    cases t2
    · rw [if_neg (by simp)] at hl ⊢
      subst hl; rfl
    have h1 := l1 rfl
    have h2 := l2 rfl
    clear l1 l2 l3
    rw [if_pos (by simp; omega)] at hl ⊢
    by_cases b : c0 = 224 ∧ c1 < 160 ∨ c0 = 237 ∧ 160 ≤ c1
    · rw [if_pos b] at hl
      subst hl
      rw [if_neg (by omega)]; rfl
    · rw [if_neg b] at hl
      subst hl
      rw [if_pos (by omega), hr]
      simp; omega
  rw [if_neg (by omega : ¬ (224 ≤ c0 ∧ _))] at hl
  rw [if_neg (by omega : ¬ ((c0 / 16 = 14 ∧ _) ∧ _))]
  cases t1
  · rw [if_neg (by simp)] at hl ⊢
    subst hl; rfl
  cases t2
  · rw [if_neg (by simp)] at hl ⊢
    subst hl; rfl
  cases t3
  · rw [if_neg (by simp)] at hl ⊢
    subst hl; rfl
  have h1 := l1 rfl
  have h2 := l2 rfl
  have h3 := l3 rfl
  clear l1 l2 l3
  by_cases a6 : c0 < 245
  · rw [if_pos (by simp; omega)] at hl ⊢
    by_cases b : c0 = 240 ∧ c1 < 144 ∨ c0 = 244 ∧ 144 ≤ c1
    · rw [if_pos b] at hl
      subst hl
      rw [if_neg (by omega)]; rfl
    · rw [if_neg b] at hl
      subst hl
      rw [if_pos (by omega), hr]
      simp; omega
  · rw [if_neg (by omega)] at hl
    subst hl
    by_cases a7 : c0 / 8 = 30
    · rw [if_pos (by simp; omega), if_neg (by omega)]; rfl
    · rw [if_neg (by simp; omega)]; rfl

/-- How many columns the character at a place takes. -/
def wN (s : ByteArray) (i : Nat) : Nat := if wideB ((Utf8.decode s i).1 : Int) = true then 2 else 1

theorem narrow (r : Int) (h : r < 4352) : wideB r = false := anyB_low r wideL 4352 (by decide) h
theorem broken_narrow : wideB 65533 = false := by decide

theorem step_pos (s : ByteArray) (i : Nat) : 1 ≤ (Utf8.decode s i).2 ∧ (Utf8.decode s i).2 ≤ 4 := by
  have := lenN_four s i
  rw [decode_eq]
  split
  · exact ⟨Nat.le_refl _, by omega⟩
  · exact ⟨by show 1 ≤ lenN s i; omega, by show lenN s i ≤ 4; omega⟩

theorem step_le (s : ByteArray) (i : Nat) (h : i < s.size) : i + (Utf8.decode s i).2 ≤ s.size := by
  have := lenN_le s i h
  rw [decode_eq]
  split
  · show i + 1 ≤ s.size; omega
  · exact this

theorem w_step (s : ByteArray) (i : Nat) : 1 ≤ wN s i ∧ wN s i ≤ (Utf8.decode s i).2 := by
  rw [wN, decode_eq]
  have hb := byteN_lt s i
  by_cases e : lenN s i = 0
  · rw [if_pos e]
    rw [show (((65533, 1) : Nat × Nat).1 : Int) = 65533 from rfl, broken_narrow]; decide
  rw [if_neg e]
  show 1 ≤ (if wideB (runeN s i : Int) = true then 2 else 1) ∧ (if wideB (runeN s i : Int) = true then 2 else 1) ≤ lenN s i
  have hr := runeN.eq_1 s i
  by_cases e1 : lenN s i = 1
  · rw [narrow _ (by rw [hr, if_neg (by omega), if_neg (by omega), if_neg (by omega)]; omega)]
    exact ⟨by decide, by rw [e1]; decide⟩
  by_cases e2 : lenN s i = 2
  · rw [narrow _ (by rw [hr, if_pos e2]; omega)]
    exact ⟨by decide, by rw [e2]; decide⟩
  split <;> omega

/-- How many columns the text takes from a place on. -/
def widthN (s : ByteArray) : Nat → Nat → Nat
  | 0, _ => 0
  | f + 1, i => if i < s.size then wN s i + widthN s f (i + (Utf8.decode s i).2) else 0

theorem widthN_fuel (s : ByteArray) : ∀ f g i, s.size - i ≤ f → s.size - i ≤ g → widthN s f i = widthN s g i := by
  intro f
  induction f with
  | zero =>
    intro g i hf _
    match g with
    | 0 => rfl
    | g + 1 => rw [widthN, widthN, if_neg (by omega)]
  | succ f ih =>
    intro g i hf hg
    match g with
    | 0 => rw [widthN, widthN, if_neg (by omega)]
    | g + 1 =>
      rw [widthN, widthN]
      have := step_pos s i
      by_cases h : i < s.size
      · rw [if_pos h, if_pos h, ih g (i + (Utf8.decode s i).2) (by omega) (by omega)]
      · rw [if_neg h, if_neg h]

def widthFrom (s : ByteArray) (i : Nat) : Nat := widthN s s.size i

theorem width_step (s : ByteArray) (i : Nat) (h : i < s.size) : widthFrom s i = wN s i + widthFrom s (i + (Utf8.decode s i).2) := by
  unfold widthFrom
  have := step_pos s i
  rw [widthN_fuel s s.size (s.size - i - 1 + 1) i (by omega) (by omega), widthN, if_pos h, widthN_fuel s _ s.size _ (by omega) (by omega)]
theorem width_end (s : ByteArray) (i : Nat) (h : ¬ i < s.size) : widthFrom s i = 0 := by
  unfold widthFrom
  rw [widthN_fuel s s.size 0 i (by omega) (by omega), widthN]

end Uni
end Go.Proofs.YtcalgpkcefccmaaDoor
