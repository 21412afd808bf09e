/-
  What the bits of the flags say.
-/
import Derived.Test.YtjoohpdohdehgaaGreatDoorRegAwake
namespace Go.Proofs.YtjoohpdohdehgaaGreatDoor
namespace Reg
open Go.RowKit

/-- Behind the flags d: is each of these a flag, that stands there once? -/
def goodB : List UInt8 → List UInt8 → Bool
  | _, [] => true
  | d, x :: l => flagsL.elem x && !d.elem x && goodB (d ++ [x]) l
/-- The bits of these flags. -/
def maskL (d : List UInt8) : Nat := d.foldl (fun m x => m ||| bitN x) 0
theorem mask_snoc (d : List UInt8) (x : UInt8) : maskL (d ++ [x]) = maskL d ||| bitN x := by simp [maskL]

theorem bit_of_mem {x : UInt8} (h : x ∈ flagsL) : bitN x = 2 ^ flagsL.idxOf x := by unfold bitN; rw [if_pos (by simpa using h)]
theorem bit_pos {x : UInt8} (h : x ∈ flagsL) : bitN x ≠ 0 := by rw [bit_of_mem h]; exact Nat.pos_iff_ne_zero.1 (Nat.pow_pos (by decide))
theorem bit_none {x : UInt8} (h : ¬ x ∈ flagsL) : bitN x = 0 := by unfold bitN; rw [if_neg (by simpa using h)]
theorem idx_inj : ∀ x ∈ flagsL, ∀ y ∈ flagsL, flagsL.idxOf x = flagsL.idxOf y → x = y := by decide
theorem and_pow (m k : Nat) : (m &&& 2 ^ k ≠ 0) ↔ m.testBit k = true := by
  constructor
  · intro h
    cases hb : m.testBit k with
    | true => rfl
    | false =>
      exfalso
      apply h
      apply Nat.eq_of_testBit_eq
      intro i
      rw [Nat.testBit_and, Nat.testBit_two_pow, Nat.zero_testBit]
      by_cases e : k = i
      · subst e; rw [hb]; rfl
      · rw [decide_eq_false e]; simp
  · intro h e
    have := congrArg (fun n => n.testBit k) e
    simp only [Nat.testBit_and, Nat.testBit_two_pow, Nat.zero_testBit, h] at this
    simp at this
theorem mask_bit (x : UInt8) (hx : x ∈ flagsL) : ∀ d : List UInt8, (∀ y ∈ d, y ∈ flagsL) → ∀ m, (d.foldl (fun m x => m ||| bitN x) m).testBit (flagsL.idxOf x) = (m.testBit (flagsL.idxOf x) || d.elem x)
  | [], _, m => by simp
  | y :: d, hd, m => by
    rw [List.foldl_cons, mask_bit x hx d (fun z hz => hd z (List.mem_cons_of_mem _ hz)), Nat.testBit_or, bit_of_mem (hd y List.mem_cons_self), Nat.testBit_two_pow]
    by_cases e : x = y
    · subst e; simp
    · have : ¬ flagsL.idxOf y = flagsL.idxOf x := fun h => e (idx_inj _ (hd y List.mem_cons_self) _ hx h).symm
      rw [decide_eq_false this, Bool.or_false, List.elem_cons, beq_eq_false_iff_ne.2 e]
theorem mask_mem (x : UInt8) (hx : x ∈ flagsL) (d : List UInt8) (hd : ∀ y ∈ d, y ∈ flagsL) : maskL d &&& bitN x ≠ 0 ↔ x ∈ d := by
  rw [bit_of_mem hx, and_pow, maskL, mask_bit x hx d hd 0]
  simp

theorem bits_good : ∀ (l d : List UInt8), (∀ y ∈ d, y ∈ flagsL) → bitsP (maskL d) l = if goodB d l = true then some (maskL (d ++ l)) else none
  | [], d, _ => by simp [bitsP, goodB]
  | x :: l, d, hd => by
    rw [bitsP, goodB]
    by_cases h1 : x ∈ flagsL
    · by_cases h2 : x ∈ d
      · rw [if_pos (.inr ((mask_mem x h1 d hd).2 h2))]
        rw [if_neg (by simp [h2])]
      · rw [if_neg (by
          rintro (h | h)
          · exact bit_pos h1 h
          · exact h2 ((mask_mem x h1 d hd).1 h))]
        rw [← mask_snoc, bits_good l (d ++ [x]) (fun y hy => by
          rcases List.mem_append.1 hy with h | h
          · exact hd y h
          · rw [List.mem_singleton.1 h]; exact h1)]
        have e1 : flagsL.elem x = true := by simpa using h1
        have e2 : d.elem x = false := by simpa using h2
        rw [e1, e2, List.append_assoc]
        rfl
    · rw [if_pos (.inl (bit_none h1))]
      have e1 : flagsL.elem x = false := by simpa using h1
      rw [e1]
      rfl
theorem good_snoc (c : UInt8) : ∀ (l d : List UInt8), goodB d (l ++ [c]) = (goodB d l && flagsL.elem c && !(d ++ l).elem c)
  | [], d => by simp [goodB]
  | x :: l, d => by
    rw [List.cons_append, goodB, good_snoc c l (d ++ [x]), goodB, List.append_assoc]
    simp only [List.singleton_append, Bool.and_assoc]

theorem end_flags (body flags : ByteArray) : endP body flags = if goodB [] flags.data.toList = true then (if 4096 < body.size then (0, 405) else runP (maskL flags.data.toList &&& 32 != 0) body) else (0, 401) := by
  have h := bits_good flags.data.toList [] (fun y hy => by cases hy)
  have h0 : maskL [] = 0 := rfl
  rw [h0] at h
  unfold endP
  rw [h]
  by_cases e : goodB [] flags.data.toList = true
  · rw [if_pos e, if_pos e]; rfl
  · rw [if_neg e, if_neg e]

end Reg
end Go.Proofs.YtjoohpdohdehgaaGreatDoor
