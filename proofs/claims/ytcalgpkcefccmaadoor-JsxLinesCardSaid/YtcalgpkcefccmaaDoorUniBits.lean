/-
  Bits of small numbers, and bytes of a text: no program is named here.
-/
import Derived.WalkKit
import Derived.Laws.BitsAllLaws
import Derived.Laws.RangeAny
namespace Go.Proofs.YtcalgpkcefccmaaDoor
namespace Uni
open Go.RowKit

theorem ofInt_i64 (a : Nat) (ha : a < 9223372036854775808) : (BitVec.ofInt 64 (a : Int)).toNat = a := by
  rw [BitVec.ofInt_natCast, BitVec.toNat_ofNat]; exact Nat.mod_eq_of_lt (by omega)
theorem i64_and_nat (a b : Nat) (ha : a < 9223372036854775808) (hb : b < 9223372036854775808) : bits .and .i64 (a : Int) (b : Int) = ((a &&& b : Nat) : Int) := by
  have hx : a &&& b < 2 ^ 63 := Nat.and_lt_two_pow _ (by omega)
  show IntKind.i64.wrap ((BitVec.ofInt 64 (a : Int) &&& BitVec.ofInt 64 (b : Int)).toNat : Int) = _
  rw [BitVec.toNat_and, ofInt_i64 a ha, ofInt_i64 b hb, IntKind.wrap_i64]
  omega
theorem i64_or_nat (a b : Nat) (ha : a < 9223372036854775808) (hb : b < 9223372036854775808) : bits .or .i64 (a : Int) (b : Int) = ((a ||| b : Nat) : Int) := by
  have hx : a ||| b < 2 ^ 63 := Nat.or_lt_two_pow (by omega) (by omega)
  show IntKind.i64.wrap ((BitVec.ofInt 64 (a : Int) ||| BitVec.ofInt 64 (b : Int)).toNat : Int) = _
  rw [BitVec.toNat_or, ofInt_i64 a ha, ofInt_i64 b hb, IntKind.wrap_i64]
  omega

theorem and192 : ∀ b : Nat, b < 256 → b &&& 192 = b / 64 * 64 := by decide +kernel
theorem tail_bits (b : Nat) (hb : b < 256) : (bits .and .u8 (b : Int) 192 != 128) = !(b / 64 == 2) := by
  rw [show (192 : Int) = ((192 : Nat) : Int) from rfl, u8_and_nat b 192 hb (by decide), and192 b hb]
  by_cases h : b / 64 = 2
  · rw [h]; rfl
  · rw [beq_eq_false_iff_ne.2 h]
    show (((b / 64 * 64 : Nat) : Int) != 128) = true
    rw [bne_iff_ne]; omega
theorem low_bits (b : Nat) (hb : b < 256) : wrap64 (bits .and .u8 (b : Int) 63) = ((b % 64 : Nat) : Int) := by
  rw [show (63 : Int) = ((63 : Nat) : Int) from rfl, u8_and_nat b 63 hb (by decide), nat_mask6]
  exact IntWalk.wrap64_in _ ⟨by omega, by omega⟩
theorem join_bits (x b : Nat) (hx : x < 16777216) : bits .or .i64 ((x : Int) * 64) ((b % 64 : Nat) : Int) = ((x * 64 + b % 64 : Nat) : Int) := by
  rw [show (x : Int) * 64 = ((x * 64 : Nat) : Int) from by omega, i64_or_nat _ _ (by omega) (by omega), nat_join 6 (x * 64) (b % 64) (by omega) (by omega)]
theorem mask31 (c : Nat) (hc : c < 256) : bits .and .i64 (c : Int) 31 = ((c % 32 : Nat) : Int) := by
  rw [show (31 : Int) = ((31 : Nat) : Int) from rfl, i64_and_nat c 31 (by omega) (by decide), nat_mask5]
theorem mask15 (c : Nat) (hc : c < 256) : bits .and .i64 (c : Int) 15 = ((c % 16 : Nat) : Int) := by
  rw [show (15 : Int) = ((15 : Nat) : Int) from rfl, i64_and_nat c 15 (by omega) (by decide), nat_mask4]
theorem mask7 (c : Nat) (hc : c < 256) : bits .and .i64 (c : Int) 7 = ((c % 8 : Nat) : Int) := by
  rw [show (7 : Int) = ((7 : Nat) : Int) from rfl, i64_and_nat c 7 (by omega) (by decide), nat_mask3]

/-- The byte at a place, as a number. -/
def byteN (t : ByteArray) (k : Nat) : Nat := (t.get! k).toNat
/-- The bits of the bytes up to a place, shifted into r. -/
def foldN (t : ByteArray) (r : Nat) : Nat → Nat
  | 0 => r
  | 1 => r
  | k + 2 => foldN t r (k + 1) * 64 + byteN t (k + 1) % 64
/-- Are the bytes from the second on, up to a place, such as go on? -/
def contsN (t : ByteArray) : Nat → Bool
  | 0 => true
  | 1 => true
  | k + 2 => contsN t (k + 1) && (byteN t (k + 1) / 64 == 2)
def composeN (t : ByteArray) (r size least : Nat) : Nat :=
  if t.size < size then 0 else if contsN t size = false then 0 else if foldN t r size < least then 0 else if 1114111 < foldN t r size then 0 else if 55296 ≤ foldN t r size ∧ foldN t r size ≤ 57343 then 0 else size

theorem byteN_lt (t : ByteArray) (k : Nat) : byteN t k < 256 := (t.get! k).toNat_lt
theorem byteN_at (t : ByteArray) (k : Nat) (h : k < t.size) : (t[k]'h).toNat = byteN t k := by
  show _ = (t.get! (k + 0)).toNat
  rw [get_at t k h]
theorem conts_le (t : ByteArray) (k : Nat) (h : contsN t k = false) : ∀ m, k ≤ m → contsN t m = false := by
  intro m hm
  induction m with
  | zero => obtain rfl : k = 0 := by omega
            exact h
  | succ m ih =>
    by_cases e : k = m + 1
    · rw [← e]; exact h
    · have := ih (by omega)
      match m, this with
      | m + 1, hm => rw [contsN, hm]; rfl

/-- Does the byte at a place go on with a character? -/
def tailB (s : ByteArray) (j : Nat) : Bool := decide (j < s.size ∧ 128 ≤ byteN s j ∧ byteN s j < 192)
def completeN (t : ByteArray) : Nat :=
  if byteN t 0 < 128 then 1
  else if 192 ≤ byteN t 0 ∧ byteN t 0 ≤ 223 then composeN t (byteN t 0 % 32) 2 128
  else if 224 ≤ byteN t 0 ∧ byteN t 0 ≤ 239 then composeN t (byteN t 0 % 16) 3 2048
  else if 240 ≤ byteN t 0 ∧ byteN t 0 ≤ 247 then composeN t (byteN t 0 % 8) 4 65536
  else 0
/-- How many bytes the character at a place has; 0: none stands there. -/
def lenN (s : ByteArray) (i : Nat) : Nat :=
  if byteN s i < 128 then 1
  else if 194 ≤ byteN s i ∧ byteN s i < 224 ∧ tailB s (i + 1) = true then 2
  else if 224 ≤ byteN s i ∧ byteN s i < 240 ∧ tailB s (i + 1) = true ∧ tailB s (i + 2) = true then
    (if byteN s i = 224 ∧ byteN s (i + 1) < 160 ∨ byteN s i = 237 ∧ 160 ≤ byteN s (i + 1) then 0 else 3)
  else if 240 ≤ byteN s i ∧ byteN s i < 245 ∧ tailB s (i + 1) = true ∧ tailB s (i + 2) = true ∧ tailB s (i + 3) = true then
    (if byteN s i = 240 ∧ byteN s (i + 1) < 144 ∨ byteN s i = 244 ∧ 144 ≤ byteN s (i + 1) then 0 else 4)
  else 0

theorem byteN_cut (s : ByteArray) (i k : Nat) (_h : i ≤ s.size) (hk : k < s.size - i) : byteN (s.extract i s.size) k = byteN s (i + k) := by
  have h1 : k < (s.extract i s.size).size := by simp; omega
  rw [← byteN_at (s.extract i s.size) k h1, ← byteN_at s (i + k) (by omega)]
  rw [ByteArray.getElem_extract h1]

theorem tailB_div (s : ByteArray) (j : Nat) (h : j < s.size) : tailB s j = (byteN s j / 64 == 2) := by
  rw [Bool.eq_iff_iff]; simp [tailB, h]; omega

end Uni
end Go.Proofs.YtcalgpkcefccmaaDoor
