/-
  The contracts of the two functions that tell how wide a text is.
-/
import Derived.Test.YtggibhlmnfodaaaUniValid
import Derived.Test.YtggibhlmnfodaaaUniDecode
import Derived.Lib.OthersKept
namespace Go.Proofs.Ytggibhlmnfodaaa
namespace Uni
open Go.RowKit

theorem below_iterAt {B : Nat} {a wr : World} (h : Below B a wr) (k : Nat) (hk : B ≤ k) (s : ByteArray) (p : Nat) : Below B a (wr.iterAt k s p) :=
  h.trans ⟨rfl, rfl, rfl, by simp [World.iterAt], fun j hj => by simp only [World.iterAt, Array.getElem?_setIfInBounds]; rw [if_neg (by omega)]⟩

/-- The bits of the bytes behind a place, shifted into r. -/
def foldAt (s : ByteArray) (i r : Nat) : Nat → Nat
  | 0 => r
  | 1 => r
  | j + 2 => foldAt s i r (j + 1) * 64 + byteN s (i + (j + 1)) % 64

set_option maxHeartbeats 1000000 in
set_option maxRecDepth 20000 in
theorem rune_2 (s : ByteArray) (i : Nat) (w : World) (hs : s.size ≤ maxLen) (h0 : i < s.size) (hk : lenN s i = 2) :
    Calls Try.prog 25 #[.string s, .int .i64 i] w fun e w' => e = .returned (.tuple #[.int .i64 (foldAt s i (byteN s i % 32) 2 : Nat), .int .i64 2]) ∧ w = w' := by
  have hm := hs
  unfold maxLen at hs
  have hle := lenN_le s i h0
  have hi : i + 2 ≤ s.size := by omega
  have Hb := Lib.hid (byteN_at s i h0)
  have hb : ((s[i]'h0).toNat : Int) < 256 := by have := byteN_lt s i; rw [Hb.out]; omega
  have Hk : Hid (((lenN s i : Nat) : Int) = 2) := Lib.hid (by omega)
  clear hk hle
  go_enter Try.func25, Try.ntmps25
  go_wp2_with fail
  refine (length_any s i w hm h0).mono ?_
  rintro e w1 ⟨rfl, rfl⟩
  rw [Hk.out]
  go_wp2_with fail
  go_loop [7, 8] (fun v j' => ∃ j x : Nat, 1 ≤ j ∧ j ≤ 2 ∧ j' = .int .i64 j ∧ v = .int .i64 x ∧ x = foldAt s i (byteN s i % 32) j ∧ (j = 1 → x < 64) ∧ (j = 2 → x < 4096)) (fun _ j' => 2 - (intOf j').toNat)
  case atStart => exact ⟨1, byteN s i % 32, by omega, by omega, rfl, by rw [Hb.out]; go_num, rfl, by omega, by omega⟩
  case round =>
    obtain ⟨j, x, hj1, hj2, rfl, rfl, hx, hbd⟩ := hrel
    have Hx := Lib.hid hx; clear hx
    have hxb : x < 4096 := by omega
    by_cases hlt : j < 2
    · have Hbj := Lib.hid (byteN_at s (i + j) (by omega))
      have hbj : ((s[i + j]'(by omega)).toNat : Int) < 256 := by have := byteN_lt s (i + j); rw [Hbj.out]; omega
      go_wp2_with fail
      go_round
      case rel =>
        have ex : foldAt s i (byteN s i % 32) (j + 1) = x * 64 + byteN s (i + j) % 64 := by
          match j, hj1, Hx with
          | j + 1, _, Hx => rw [foldAt, ← Hx.out]
        refine ⟨j + 1, x * 64 + byteN s (i + j) % 64, by omega, by omega, by go_num, by rw [Hbj.out]; go_num, ex.symm, by omega, by omega⟩
      case measure => simp [intOf]; omega
    · obtain rfl : j = 2 := by omega
      go_wp2_with fail
      go_ret2
      exact ⟨ret_two (by rw [← Hx.out]) rfl, rfl⟩

set_option maxHeartbeats 1000000 in
set_option maxRecDepth 20000 in
theorem rune_3 (s : ByteArray) (i : Nat) (w : World) (hs : s.size ≤ maxLen) (h0 : i < s.size) (hk : lenN s i = 3) :
    Calls Try.prog 25 #[.string s, .int .i64 i] w fun e w' => e = .returned (.tuple #[.int .i64 (foldAt s i (byteN s i % 16) 3 : Nat), .int .i64 3]) ∧ w = w' := by
  have hm := hs
  unfold maxLen at hs
  have hle := lenN_le s i h0
  have hi : i + 3 ≤ s.size := by omega
  have Hb := Lib.hid (byteN_at s i h0)
  have hb : ((s[i]'h0).toNat : Int) < 256 := by have := byteN_lt s i; rw [Hb.out]; omega
  have Hk : Hid (((lenN s i : Nat) : Int) = 3) := Lib.hid (by omega)
  clear hk hle
  go_enter Try.func25, Try.ntmps25
  go_wp2_with fail
  refine (length_any s i w hm h0).mono ?_
  rintro e w1 ⟨rfl, rfl⟩
  rw [Hk.out]
  go_wp2_with fail
  go_loop [7, 8] (fun v j' => ∃ j x : Nat, 1 ≤ j ∧ j ≤ 3 ∧ j' = .int .i64 j ∧ v = .int .i64 x ∧ x = foldAt s i (byteN s i % 16) j ∧ (j = 1 → x < 64) ∧ (j = 2 → x < 4096) ∧ (j = 3 → x < 262144)) (fun _ j' => 3 - (intOf j').toNat)
  case atStart => exact ⟨1, byteN s i % 16, by omega, by omega, rfl, by rw [Hb.out]; go_num, rfl, by omega, by omega, by omega⟩
  case round =>
    obtain ⟨j, x, hj1, hj2, rfl, rfl, hx, hbd⟩ := hrel
    have Hx := Lib.hid hx; clear hx
    have hxb : x < 262144 := by omega
    by_cases hlt : j < 3
    · have Hbj := Lib.hid (byteN_at s (i + j) (by omega))
      have hbj : ((s[i + j]'(by omega)).toNat : Int) < 256 := by have := byteN_lt s (i + j); rw [Hbj.out]; omega
      go_wp2_with fail
      go_round
      case rel =>
        have ex : foldAt s i (byteN s i % 16) (j + 1) = x * 64 + byteN s (i + j) % 64 := by
          match j, hj1, Hx with
          | j + 1, _, Hx => rw [foldAt, ← Hx.out]
        refine ⟨j + 1, x * 64 + byteN s (i + j) % 64, by omega, by omega, by go_num, by rw [Hbj.out]; go_num, ex.symm, by omega, by omega, by omega⟩
      case measure => simp [intOf]; omega
    · obtain rfl : j = 3 := by omega
      go_wp2_with fail
      go_ret2
      exact ⟨ret_two (by rw [← Hx.out]) rfl, rfl⟩

set_option maxHeartbeats 1000000 in
set_option maxRecDepth 20000 in
theorem rune_4 (s : ByteArray) (i : Nat) (w : World) (hs : s.size ≤ maxLen) (h0 : i < s.size) (hk : lenN s i = 4) :
    Calls Try.prog 25 #[.string s, .int .i64 i] w fun e w' => e = .returned (.tuple #[.int .i64 (foldAt s i (byteN s i % 8) 4 : Nat), .int .i64 4]) ∧ w = w' := by
  have hm := hs
  unfold maxLen at hs
  have hle := lenN_le s i h0
  have hi : i + 4 ≤ s.size := by omega
  have Hb := Lib.hid (byteN_at s i h0)
  have hb : ((s[i]'h0).toNat : Int) < 256 := by have := byteN_lt s i; rw [Hb.out]; omega
  have Hk : Hid (((lenN s i : Nat) : Int) = 4) := Lib.hid (by omega)
  clear hk hle
  go_enter Try.func25, Try.ntmps25
  go_wp2_with fail
  refine (length_any s i w hm h0).mono ?_
  rintro e w1 ⟨rfl, rfl⟩
  rw [Hk.out]
  go_wp2_with fail
  go_loop [7, 8] (fun v j' => ∃ j x : Nat, 1 ≤ j ∧ j ≤ 4 ∧ j' = .int .i64 j ∧ v = .int .i64 x ∧ x = foldAt s i (byteN s i % 8) j ∧ (j = 1 → x < 64) ∧ (j = 2 → x < 4096) ∧ (j = 3 → x < 262144) ∧ (j = 4 → x < 16777216)) (fun _ j' => 4 - (intOf j').toNat)
  case atStart => exact ⟨1, byteN s i % 8, by omega, by omega, rfl, by rw [Hb.out]; go_num, rfl, by omega, by omega, by omega, by omega⟩
  case round =>
    obtain ⟨j, x, hj1, hj2, rfl, rfl, hx, hbd⟩ := hrel
    have Hx := Lib.hid hx; clear hx
    have hxb : x < 16777216 := by omega
    by_cases hlt : j < 4
    · have Hbj := Lib.hid (byteN_at s (i + j) (by omega))
      have hbj : ((s[i + j]'(by omega)).toNat : Int) < 256 := by have := byteN_lt s (i + j); rw [Hbj.out]; omega
      go_wp2_with fail
      go_round
      case rel =>
        have ex : foldAt s i (byteN s i % 8) (j + 1) = x * 64 + byteN s (i + j) % 64 := by
          match j, hj1, Hx with
          | j + 1, _, Hx => rw [foldAt, ← Hx.out]
        refine ⟨j + 1, x * 64 + byteN s (i + j) % 64, by omega, by omega, by go_num, by rw [Hbj.out]; go_num, ex.symm, by omega, by omega, by omega, by omega⟩
      case measure => simp [intOf]; omega
    · obtain rfl : j = 4 := by omega
      go_wp2_with fail
      go_ret2
      exact ⟨ret_two (by rw [← Hx.out]) rfl, rfl⟩

set_option maxHeartbeats 1000000 in
theorem rune_1 (s : ByteArray) (i : Nat) (w : World) (hs : s.size ≤ maxLen) (h0 : i < s.size) (hk : lenN s i = 1) :
    Calls Try.prog 25 #[.string s, .int .i64 i] w fun e w' => e = .returned (.tuple #[.int .i64 (byteN s i), .int .i64 1]) ∧ w = w' := by
  have hm := hs
  unfold maxLen at hs
  have Hb := Lib.hid (byteN_at s i h0)
  have hb : ((s[i]'h0).toNat : Int) < 256 := by have := byteN_lt s i; rw [Hb.out]; omega
  have Hk : Hid (((lenN s i : Nat) : Int) = 1) := Lib.hid (by omega)
  clear hk
  go_enter Try.func25, Try.ntmps25
  go_wp2_with fail
  refine (length_any s i w hm h0).mono ?_
  rintro e w1 ⟨rfl, rfl⟩
  rw [Hk.out]
  go_wp2_with fail
  go_loop [7, 8] (fun v j' => v = .int .i64 (byteN s i) ∧ j' = .int .i64 1) (fun _ _ => 0)
  case atStart => exact ⟨by rw [Hb.out], rfl⟩
  case round =>
    obtain ⟨rfl, rfl⟩ := hrel
    go_wp2_with fail
    go_ret2
    exact ⟨rfl, rfl⟩

set_option maxHeartbeats 1000000 in
theorem rune_0 (s : ByteArray) (i : Nat) (w : World) (hs : s.size ≤ maxLen) (h0 : i < s.size) (hk : lenN s i = 0) :
    Calls Try.prog 25 #[.string s, .int .i64 i] w fun e w' => e = .returned (.tuple #[.int .i64 (-1), .int .i64 1]) ∧ w = w' := by
  have hm := hs
  unfold maxLen at hs
  have Hk : Hid (((lenN s i : Nat) : Int) = 0) := Lib.hid (by omega)
  clear hk
  go_enter Try.func25, Try.ntmps25
  go_wp2_with fail
  refine (length_any s i w hm h0).mono ?_
  rintro e w1 ⟨rfl, rfl⟩
  rw [Hk.out]
  go_wp2_with fail
  go_ret2
  exact ⟨rfl, rfl⟩

/-- What the document's own reading answers: the character, or -1. -/
def runeI (s : ByteArray) (i : Nat) : Int := if lenN s i = 0 then -1 else runeN s i

theorem rune_any (s : ByteArray) (i : Nat) (w : World) (hs : s.size ≤ maxLen) (h0 : i < s.size) :
    Calls Try.prog 25 #[.string s, .int .i64 i] w fun e w' => e = .returned (.tuple #[.int .i64 (runeI s i), .int .i64 (Utf8.decode s i).2]) ∧ w = w' := by
  have h4 := lenN_four s i
  have hd := decode_eq s i
  obtain e | e | e | e | e : lenN s i = 0 ∨ lenN s i = 1 ∨ lenN s i = 2 ∨ lenN s i = 3 ∨ lenN s i = 4 := by omega
  · refine (rune_0 s i w hs h0 e).mono fun _ _ ⟨he, hw⟩ => ⟨he.trans (ret_two ?_ ?_), hw⟩
    · rw [runeI, if_pos e]
    · rw [hd, if_pos e]; rfl
  · refine (rune_1 s i w hs h0 e).mono fun _ _ ⟨he, hw⟩ => ⟨he.trans (ret_two ?_ ?_), hw⟩
    · rw [runeI, if_neg (by omega), runeN, if_neg (by omega), if_neg (by omega), if_neg (by omega)]
    · rw [hd, if_neg (by omega)]; show (1 : Int) = (lenN s i : Int); omega
  · refine (rune_2 s i w hs h0 e).mono fun _ _ ⟨he, hw⟩ => ⟨he.trans (ret_two ?_ ?_), hw⟩
    · rw [runeI, if_neg (by omega), runeN, if_pos e]; rfl
    · rw [hd, if_neg (by omega)]; show (2 : Int) = (lenN s i : Int); omega
  · refine (rune_3 s i w hs h0 e).mono fun _ _ ⟨he, hw⟩ => ⟨he.trans (ret_two ?_ ?_), hw⟩
    · rw [runeI, if_neg (by omega), runeN, if_neg (by omega), if_pos e]; rfl
    · rw [hd, if_neg (by omega)]; show (3 : Int) = (lenN s i : Int); omega
  · refine (rune_4 s i w hs h0 e).mono fun _ _ ⟨he, hw⟩ => ⟨he.trans (ret_two ?_ ?_), hw⟩
    · rw [runeI, if_neg (by omega), runeN, if_neg (by omega), if_neg (by omega), if_pos e]; rfl
    · rw [hd, if_neg (by omega)]; show (4 : Int) = (lenN s i : Int); omega

theorem wide_same (s : ByteArray) (i : Nat) : anyB (runeI s i) wideL = wideB ((Utf8.decode s i).1 : Int) := by
  rw [runeI, decode_eq]
  by_cases e : lenN s i = 0
  · rw [if_pos e, if_pos e]; decide
  · rw [if_neg e, if_neg e]; rfl

end Uni
end Go.Proofs.Ytggibhlmnfodaaa
