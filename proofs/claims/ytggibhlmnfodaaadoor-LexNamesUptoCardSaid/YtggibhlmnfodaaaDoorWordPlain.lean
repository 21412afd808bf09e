/-
  Names, reserved words and operators as plain mathematics: no program is named here.
-/
import Derived.Test.YtggibhlmnfodaaaDoorUniDecode
import Derived.Lib.Strings
namespace Go.Proofs.YtggibhlmnfodaaaDoor
namespace Word
open Go.RowKit
open Uni (lenN runeN startB partB)

/-- Do all characters from a place on go on in a name? -/
def goesN (s : ByteArray) : Nat → Nat → Bool
  | 0, _ => true
  | f + 1, i => if i < s.size then partB ((Utf8.decode s i).1 : Int) && goesN s f (i + (Utf8.decode s i).2) else true
theorem goes_fuel (s : ByteArray) : ∀ f g i, s.size - i ≤ f → s.size - i ≤ g → goesN s f i = goesN s g i := by
  intro f
  induction f with
  | zero =>
    intro g i hf _
    match g with
    | 0 => rfl
    | g + 1 => rw [goesN, goesN, if_neg (by omega)]
  | succ f ih =>
    intro g i hf hg
    match g with
    | 0 => rw [goesN, goesN, if_neg (by omega)]
    | g + 1 =>
      rw [goesN, goesN]
      have := Uni.step_pos s i
      by_cases h : i < s.size
      · rw [if_pos h, if_pos h, ih g (i + (Utf8.decode s i).2) (by omega) (by omega)]
      · rw [if_neg h, if_neg h]
def goes (s : ByteArray) (i : Nat) : Bool := goesN s s.size i
theorem goes_step (s : ByteArray) (i : Nat) (h : i < s.size) : goes s i = (partB ((Utf8.decode s i).1 : Int) && goes s (i + (Utf8.decode s i).2)) := by
  unfold goes
  have := Uni.step_pos s i
  rw [goes_fuel s s.size (s.size - i - 1 + 1) i (by omega) (by omega), goesN, if_pos h, goes_fuel s _ s.size _ (by omega) (by omega)]
theorem goes_end (s : ByteArray) (i : Nat) (h : ¬ i < s.size) : goes s i = true := by
  unfold goes
  rw [goes_fuel s s.size 0 i (by omega) (by omega), goesN]
theorem goes_no (s : ByteArray) (i : Nat) (h : i < s.size) (hp : partB ((Utf8.decode s i).1 : Int) = false) : goes s i = false := by rw [goes_step s i h, hp]; rfl
theorem goes_on (s : ByteArray) (i : Nat) (h : i < s.size) (hp : partB ((Utf8.decode s i).1 : Int) = true) : goes s i = goes s (i + (Utf8.decode s i).2) := by rw [goes_step s i h, hp]; rfl

/-- Is a text a name? -/
def nameB (s : ByteArray) : Bool := decide (0 < s.size) && (startB ((Utf8.decode s 0).1 : Int) && goes s 0)
theorem name_empty (s : ByteArray) (h : ¬ 0 < s.size) : nameB s = false := by rw [nameB, decide_eq_false h]; rfl
theorem name_no (s : ByteArray) (h : startB ((Utf8.decode s 0).1 : Int) = false) : nameB s = false := by rw [nameB, h]; simp
theorem name_yes (s : ByteArray) (h0 : 0 < s.size) (h : startB ((Utf8.decode s 0).1 : Int) = true) : nameB s = goes s 0 := by rw [nameB, decide_eq_true h0, h]; rfl
theorem broken_part : partB 65533 = false := by decide
theorem broken_start : startB 65533 = false := by decide
theorem none_part (s : ByteArray) (i : Nat) (h : lenN s i = 0) : partB ((Utf8.decode s i).1 : Int) = false := by
  rw [Uni.decode_eq, if_pos h]; exact broken_part

theorem of_list (s : ByteArray) : (⟨s.data.toList.toArray⟩ : ByteArray) = s := by apply ByteArray.ext; simp
theorem of_toList {s : ByteArray} {l : List UInt8} (h : s.toList = l) : s = ⟨l.toArray⟩ := by
  rw [Lib.toList_data] at h
  rw [← of_list s, h]
/-- Is a text in a list? -/
def hasB (l : List (List UInt8)) (x : List UInt8) : Bool := l.elem x
theorem elem_no {l : List (List UInt8)} {x : List UInt8} (h : ∀ y ∈ l, x ≠ y) : hasB l x = false := by
  cases e : hasB l x with
  | false => rfl
  | true => exact absurd rfl (h x (List.elem_iff.1 e))

def awaitL : List UInt8 := [97, 119, 97, 105, 116]
/-- The reserved words. -/
def resL : List (List UInt8) := [[98, 114, 101, 97, 107], [99, 97, 115, 101], [99, 97, 116, 99, 104], [99, 108, 97, 115, 115], [99, 111, 110, 115, 116], [99, 111, 110, 116, 105, 110, 117, 101], [100, 101, 98, 117, 103, 103, 101, 114], [100, 101, 102, 97, 117, 108, 116], [100, 101, 108, 101, 116, 101], [100, 111], [101, 108, 115, 101], [101, 110, 117, 109], [101, 120, 112, 111, 114, 116], [101, 120, 116, 101, 110, 100, 115], [102, 97, 108, 115, 101], [102, 105, 110, 97, 108, 108, 121], [102, 111, 114], [102, 117, 110, 99, 116, 105, 111, 110], [105, 102], [105, 109, 112, 108, 101, 109, 101, 110, 116, 115], [105, 109, 112, 111, 114, 116], [105, 110], [105, 110, 115, 116, 97, 110, 99, 101, 111, 102], [105, 110, 116, 101, 114, 102, 97, 99, 101], [108, 101, 116], [110, 101, 119], [110, 117, 108, 108], [112, 97, 99, 107, 97, 103, 101], [112, 114, 105, 118, 97, 116, 101], [112, 114, 111, 116, 101, 99, 116, 101, 100], [112, 117, 98, 108, 105, 99], [114, 101, 116, 117, 114, 110], [115, 116, 97, 116, 105, 99], [115, 117, 112, 101, 114], [115, 119, 105, 116, 99, 104], [116, 104, 105, 115], [116, 104, 114, 111, 119], [116, 114, 117, 101], [116, 114, 121], [116, 121, 112, 101, 111, 102], [118, 97, 114], [118, 111, 105, 100], [119, 104, 105, 108, 101], [119, 105, 116, 104], [121, 105, 101, 108, 100]]
/-- The operators, row by row. -/
def rowsL : List (List (List UInt8)) := [[[63, 63]], [[124, 124]], [[38, 38]], [[124]], [[94]], [[38]], [[61, 61], [33, 61], [61, 61, 61], [33, 61, 61]], [[60], [62], [60, 61], [62, 61], [105, 110], [105, 110, 115, 116, 97, 110, 99, 101, 111, 102]], [[60, 60], [62, 62], [62, 62, 62]], [[43], [45]], [[42], [47], [37]], [[42, 42]]]

def resB (s : ByteArray) (m : Bool) : Bool := if s.data.toList = awaitL then m else hasB resL s.data.toList
/-- The first row that holds a text, counted from k + 1. -/
def levF : List (List (List UInt8)) → Nat → List UInt8 → Nat
  | [], _, _ => 0
  | r :: t, k, x => if hasB r x = true then k + 1 else levF t (k + 1) x
def levL (x : List UInt8) : Nat := levF rowsL 0 x
def levN (s : ByteArray) : Nat := levL s.data.toList
theorem lev_le : ∀ (t : List (List (List UInt8))) (k : Nat) (x : List UInt8), levF t k x ≤ k + t.length
  | [], k, x => by simp [levF]
  | r :: t, k, x => by
    rw [levF]
    have := lev_le t (k + 1) x
    split
    · simp
    · simp only [List.length_cons]; omega
theorem lev_zero : ∀ (t : List (List (List UInt8))) (k : Nat) (x : List UInt8), (∀ r ∈ t, ∀ y ∈ r, x ≠ y) → levF t k x = 0
  | [], _, _, _ => rfl
  | r :: t, k, x, h => by
    rw [levF, elem_no (h r List.mem_cons_self), if_neg (by decide)]
    exact lev_zero t (k + 1) x (fun q hq => h q (List.mem_cons_of_mem _ hq))
def rightB (s : ByteArray) : Bool := decide (s.data.toList = [42, 42])

end Word
end Go.Proofs.YtggibhlmnfodaaaDoor
