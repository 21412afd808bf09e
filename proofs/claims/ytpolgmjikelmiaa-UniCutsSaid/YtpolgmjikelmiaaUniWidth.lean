/-
  The contracts of the two functions that tell how wide a text is.
-/
import Derived.Test.YtpolgmjikelmiaaUniValid
import Derived.Test.YtpolgmjikelmiaaUniDecode
import Derived.Lib.OthersKept
namespace Go.Proofs.Ytpolgmjikelmiaa
namespace Uni
open Go.RowKit

theorem below_iterAt {B : Nat} {a wr : World} (h : Below B a wr) (k : Nat) (hk : B ≤ k) (s : ByteArray) (p : Nat) : Below B a (wr.iterAt k s p) :=
  h.trans ⟨rfl, rfl, rfl, by simp [World.iterAt], fun j hj => by simp only [World.iterAt, Array.getElem?_setIfInBounds]; rw [if_neg (by omega)]⟩

set_option maxHeartbeats 400000 in
theorem width_any (s : ByteArray) (w : World) (hs : s.size ≤ maxLen) :
    Calls Try.prog 22 #[.string s] w fun e w' => e = .returned (.int .i64 (widthFrom s 0)) ∧ Below w.heap.size w w' := by
  have hm := hs
  unfold maxLen at hs
  go_enter Try.func22, Try.ntmps22
  go_wp2
  go_loopw [3, 5] (fun c _ wr => ∃ i x : Nat, i ≤ s.size ∧ c = .int .i64 x ∧ x ≤ i ∧ widthFrom s 0 = x + widthFrom s i ∧ wr.heap[w.heap.size]? = some (.stringIter s i) ∧ Below w.heap.size w wr) (fun _ _ wr => s.size - wr.iterPos w.heap.size)
  case atStart => exact ⟨0, 0, by omega, rfl, by omega, by omega, World.iter_heap w s 0, (Below.refl _ _).alloc (Nat.le_refl _) _⟩
  case round =>
    obtain ⟨i, x, hi, rfl, hx, he, hk, hw⟩ := hrel
    have He := Lib.hid he; clear he
    have Hk := Lib.hid hk
    have Hp := Lib.hid (iterPos_of hk)
    by_cases hlt : i < s.size
    · have hn := fun ty => Lib.run_next_any_at (P := Try.prog) wr w.heap.size s i ty hk hlt
      clear hk
      have hd := decode_le s i
      have hp := step_pos s i
      have hl := step_le s i hlt
      have hws := w_step s i
      have Hs := Lib.hid (width_step s i hlt)
      have Hit := Lib.hid (Lib.iterAt_heap wr w.heap.size s i (i + (Utf8.decode s i).2) Hk.out)
      have Hbi := below_iterAt hw w.heap.size (Nat.le_refl _) s (i + (Utf8.decode s i).2)
      have hszw : w.heap.size < (wr.iterAt w.heap.size s (i + (Utf8.decode s i).2)).heap.size := (Array.getElem?_eq_some_iff.1 Hit.out).1
      have Hw2 := Lib.hid hszw; clear hszw
      go_wp2_with fail
      generalize wr.iterAt w.heap.size s (i + (Utf8.decode s i).2) = w2 at *
      refine (wide_any _ _).mono ?_
      rintro e w3 ⟨rfl, hb3⟩
      have Hk3 : Hid (w3.heap[w.heap.size]? = some (.stringIter s (i + (Utf8.decode s i).2))) := Lib.hid ((hb3.block _ Hw2.out).trans Hit.out)
      have Hb3 := Hbi.trans (hb3.mono (Nat.le_of_lt Hw2.out))
      have Hp3 := Lib.hid (iterPos_of Hk3.out)
      cases hwd : wideB ((Utf8.decode s i).1 : Int)
      · have hw1 : wN s i = 1 := by rw [wN, hwd]; rfl
        have Hw1 := Lib.hid hw1; clear hw1
        go_wp2_with fail
        go_roundw
        case rel => exact ⟨i + (Utf8.decode s i).2, x + 1, hl, by go_num, by omega, by rw [He.out, Hs.out, Hw1.out]; omega, Hk3.out, Hb3⟩
        case measure => rw [Hp3.out, Hp.out]; omega
      · have hw1 : wN s i = 2 := by rw [wN, hwd]; rfl
        have h2 : 2 ≤ (Utf8.decode s i).2 := by omega
        have Hw1 := Lib.hid hw1; clear hw1
        go_wp2_with fail
        go_roundw
        case rel => exact ⟨i + (Utf8.decode s i).2, x + 2, hl, by go_num, by omega, by rw [He.out, Hs.out, Hw1.out]; omega, Hk3.out, Hb3⟩
        case measure => rw [Hp3.out, Hp.out]; omega
    · have hn := fun ty => Lib.run_next_end_at (P := Try.prog) wr w.heap.size s i ty hk hlt
      clear hk
      go_wp2_with fail
      go_ret
      exact ⟨ret_int (by rw [He.out, width_end s i hlt]; rfl), hw⟩

/-- The bits of the bytes behind a place, shifted into r. -/
def foldAt (s : ByteArray) (i r : Nat) : Nat → Nat
  | 0 => r
  | 1 => r
  | j + 2 => foldAt s i r (j + 1) * 64 + byteN s (i + (j + 1)) % 64

set_option maxHeartbeats 1000000 in
set_option maxRecDepth 20000 in
theorem rune_2 (s : ByteArray) (i : Nat) (w : World) (hs : s.size ≤ maxLen) (h0 : i < s.size) (hk : lenN s i = 2) :
    Calls Try.prog 29 #[.string s, .int .i64 i] w fun e w' => e = .returned (.tuple #[.int .i64 (foldAt s i (byteN s i % 32) 2 : Nat), .int .i64 2]) ∧ w = w' := by
  have hm := hs
  unfold maxLen at hs
  have hle := lenN_le s i h0
  have hi : i + 2 ≤ s.size := by omega
  have Hb := Lib.hid (byteN_at s i h0)
  have hb : ((s[i]'h0).toNat : Int) < 256 := by have := byteN_lt s i; rw [Hb.out]; omega
  have Hk : Hid (((lenN s i : Nat) : Int) = 2) := Lib.hid (by omega)
  clear hk hle
  go_enter Try.func29, Try.ntmps29
  go_wp2_with fail
  refine (length_any s i w hm h0).mono ?_
  rintro e w1 ⟨rfl, rfl⟩
  rw [Hk.out]
  go_wp2_with fail
  go_loop [7, 8] (fun v j' => ∃ j x : Nat, 1 ≤ j ∧ j ≤ 2 ∧ j' = .int .i64 j ∧ v = .int .i64 x ∧ x = foldAt s i (byteN s i % 32) j ∧ (j = 1 → x < 64) ∧ (j = 2 → x < 4096)) (fun _ j' => 2 - (intOf j').toNat)
  case atStart => exact ⟨1, byteN s i % 32, by omega, by omega, rfl, by rw [Hb.out]; go_num, rfl, by omega, by omega⟩
  case round =>
    obtain ⟨j, x, hj1, hj2, rfl, rfl, hx, hbd⟩ := hrel
    have Hx := Lib.hid hx; clear hx
    have hxb : x < 4096 := by omega
    by_cases hlt : j < 2
    · have Hbj := Lib.hid (byteN_at s (i + j) (by omega))
      have hbj : ((s[i + j]'(by omega)).toNat : Int) < 256 := by have := byteN_lt s (i + j); rw [Hbj.out]; omega
      go_wp2_with fail
      go_round
      case rel =>
        have ex : foldAt s i (byteN s i % 32) (j + 1) = x * 64 + byteN s (i + j) % 64 := by
          match j, hj1, Hx with
          | j + 1, _, Hx => rw [foldAt, ← Hx.out]
        refine ⟨j + 1, x * 64 + byteN s (i + j) % 64, by omega, by omega, by go_num, by rw [Hbj.out]; go_num, ex.symm, by omega, by omega⟩
      case measure => simp [intOf]; omega
    · obtain rfl : j = 2 := by omega
      go_wp2_with fail
      go_ret2
      exact ⟨ret_two (by rw [← Hx.out]) rfl, rfl⟩

set_option maxHeartbeats 1000000 in
set_option maxRecDepth 20000 in
theorem rune_3 (s : ByteArray) (i : Nat) (w : World) (hs : s.size ≤ maxLen) (h0 : i < s.size) (hk : lenN s i = 3) :
    Calls Try.prog 29 #[.string s, .int .i64 i] w fun e w' => e = .returned (.tuple #[.int .i64 (foldAt s i (byteN s i % 16) 3 : Nat), .int .i64 3]) ∧ w = w' := by
  have hm := hs
  unfold maxLen at hs
  have hle := lenN_le s i h0
  have hi : i + 3 ≤ s.size := by omega
  have Hb := Lib.hid (byteN_at s i h0)
  have hb : ((s[i]'h0).toNat : Int) < 256 := by have := byteN_lt s i; rw [Hb.out]; omega
  have Hk : Hid (((lenN s i : Nat) : Int) = 3) := Lib.hid (by omega)
  clear hk hle
  go_enter Try.func29, Try.ntmps29
  go_wp2_with fail
  refine (length_any s i w hm h0).mono ?_
  rintro e w1 ⟨rfl, rfl⟩
  rw [Hk.out]
  go_wp2_with fail
  go_loop [7, 8] (fun v j' => ∃ j x : Nat, 1 ≤ j ∧ j ≤ 3 ∧ j' = .int .i64 j ∧ v = .int .i64 x ∧ x = foldAt s i (byteN s i % 16) j ∧ (j = 1 → x < 64) ∧ (j = 2 → x < 4096) ∧ (j = 3 → x < 262144)) (fun _ j' => 3 - (intOf j').toNat)
  case atStart => exact ⟨1, byteN s i % 16, by omega, by omega, rfl, by rw [Hb.out]; go_num, rfl, by omega, by omega, by omega⟩
  case round =>
    obtain ⟨j, x, hj1, hj2, rfl, rfl, hx, hbd⟩ := hrel
    have Hx := Lib.hid hx; clear hx
    have hxb : x < 262144 := by omega
    by_cases hlt : j < 3
    · have Hbj := Lib.hid (byteN_at s (i + j) (by omega))
      have hbj : ((s[i + j]'(by omega)).toNat : Int) < 256 := by have := byteN_lt s (i + j); rw [Hbj.out]; omega
      go_wp2_with fail
      go_round
      case rel =>
        have ex : foldAt s i (byteN s i % 16) (j + 1) = x * 64 + byteN s (i + j) % 64 := by
          match j, hj1, Hx with
          | j + 1, _, Hx => rw [foldAt, ← Hx.out]
        refine ⟨j + 1, x * 64 + byteN s (i + j) % 64, by omega, by omega, by go_num, by rw [Hbj.out]; go_num, ex.symm, by omega, by omega, by omega⟩
      case measure => simp [intOf]; omega
    · obtain rfl : j = 3 := by omega
      go_wp2_with fail
      go_ret2
      exact ⟨ret_two (by rw [← Hx.out]) rfl, rfl⟩

set_option maxHeartbeats 1000000 in
set_option maxRecDepth 20000 in
theorem rune_4 (s : ByteArray) (i : Nat) (w : World) (hs : s.size ≤ maxLen) (h0 : i < s.size) (hk : lenN s i = 4) :
    Calls Try.prog 29 #[.string s, .int .i64 i] w fun e w' => e = .returned (.tuple #[.int .i64 (foldAt s i (byteN s i % 8) 4 : Nat), .int .i64 4]) ∧ w = w' := by
  have hm := hs
  unfold maxLen at hs
  have hle := lenN_le s i h0
  have hi : i + 4 ≤ s.size := by omega
  have Hb := Lib.hid (byteN_at s i h0)
  have hb : ((s[i]'h0).toNat : Int) < 256 := by have := byteN_lt s i; rw [Hb.out]; omega
  have Hk : Hid (((lenN s i : Nat) : Int) = 4) := Lib.hid (by omega)
  clear hk hle
  go_enter Try.func29, Try.ntmps29
  go_wp2_with fail
  refine (length_any s i w hm h0).mono ?_
  rintro e w1 ⟨rfl, rfl⟩
  rw [Hk.out]
  go_wp2_with fail
  go_loop [7, 8] (fun v j' => ∃ j x : Nat, 1 ≤ j ∧ j ≤ 4 ∧ j' = .int .i64 j ∧ v = .int .i64 x ∧ x = foldAt s i (byteN s i % 8) j ∧ (j = 1 → x < 64) ∧ (j = 2 → x < 4096) ∧ (j = 3 → x < 262144) ∧ (j = 4 → x < 16777216)) (fun _ j' => 4 - (intOf j').toNat)
  case atStart => exact ⟨1, byteN s i % 8, by omega, by omega, rfl, by rw [Hb.out]; go_num, rfl, by omega, by omega, by omega, by omega⟩
  case round =>
    obtain ⟨j, x, hj1, hj2, rfl, rfl, hx, hbd⟩ := hrel
    have Hx := Lib.hid hx; clear hx
    have hxb : x < 16777216 := by omega
    by_cases hlt : j < 4
    · have Hbj := Lib.hid (byteN_at s (i + j) (by omega))
      have hbj : ((s[i + j]'(by omega)).toNat : Int) < 256 := by have := byteN_lt s (i + j); rw [Hbj.out]; omega
      go_wp2_with fail
      go_round
      case rel =>
        have ex : foldAt s i (byteN s i % 8) (j + 1) = x * 64 + byteN s (i + j) % 64 := by
          match j, hj1, Hx with
          | j + 1, _, Hx => rw [foldAt, ← Hx.out]
        refine ⟨j + 1, x * 64 + byteN s (i + j) % 64, by omega, by omega, by go_num, by rw [Hbj.out]; go_num, ex.symm, by omega, by omega, by omega, by omega⟩
      case measure => simp [intOf]; omega
    · obtain rfl : j = 4 := by omega
      go_wp2_with fail
      go_ret2
      exact ⟨ret_two (by rw [← Hx.out]) rfl, rfl⟩

set_option maxHeartbeats 1000000 in
theorem rune_1 (s : ByteArray) (i : Nat) (w : World) (hs : s.size ≤ maxLen) (h0 : i < s.size) (hk : lenN s i = 1) :
    Calls Try.prog 29 #[.string s, .int .i64 i] w fun e w' => e = .returned (.tuple #[.int .i64 (byteN s i), .int .i64 1]) ∧ w = w' := by
  have hm := hs
  unfold maxLen at hs
  have Hb := Lib.hid (byteN_at s i h0)
  have hb : ((s[i]'h0).toNat : Int) < 256 := by have := byteN_lt s i; rw [Hb.out]; omega
  have Hk : Hid (((lenN s i : Nat) : Int) = 1) := Lib.hid (by omega)
  clear hk
  go_enter Try.func29, Try.ntmps29
  go_wp2_with fail
  refine (length_any s i w hm h0).mono ?_
  rintro e w1 ⟨rfl, rfl⟩
  rw [Hk.out]
  go_wp2_with fail
  go_loop [7, 8] (fun v j' => v = .int .i64 (byteN s i) ∧ j' = .int .i64 1) (fun _ _ => 0)
  case atStart => exact ⟨by rw [Hb.out], rfl⟩
  case round =>
    obtain ⟨rfl, rfl⟩ := hrel
    go_wp2_with fail
    go_ret2
    exact ⟨rfl, rfl⟩

set_option maxHeartbeats 1000000 in
theorem rune_0 (s : ByteArray) (i : Nat) (w : World) (hs : s.size ≤ maxLen) (h0 : i < s.size) (hk : lenN s i = 0) :
    Calls Try.prog 29 #[.string s, .int .i64 i] w fun e w' => e = .returned (.tuple #[.int .i64 (-1), .int .i64 1]) ∧ w = w' := by
  have hm := hs
  unfold maxLen at hs
  have Hk : Hid (((lenN s i : Nat) : Int) = 0) := Lib.hid (by omega)
  clear hk
  go_enter Try.func29, Try.ntmps29
  go_wp2_with fail
  refine (length_any s i w hm h0).mono ?_
  rintro e w1 ⟨rfl, rfl⟩
  rw [Hk.out]
  go_wp2_with fail
  go_ret2
  exact ⟨rfl, rfl⟩

/-- What the document's own reading answers: the character, or -1. -/
def runeI (s : ByteArray) (i : Nat) : Int := if lenN s i = 0 then -1 else runeN s i

theorem rune_any (s : ByteArray) (i : Nat) (w : World) (hs : s.size ≤ maxLen) (h0 : i < s.size) :
    Calls Try.prog 29 #[.string s, .int .i64 i] w fun e w' => e = .returned (.tuple #[.int .i64 (runeI s i), .int .i64 (Utf8.decode s i).2]) ∧ w = w' := by
  have h4 := lenN_four s i
  have hd := decode_eq s i
  obtain e | e | e | e | e : lenN s i = 0 ∨ lenN s i = 1 ∨ lenN s i = 2 ∨ lenN s i = 3 ∨ lenN s i = 4 := by omega
  · refine (rune_0 s i w hs h0 e).mono fun _ _ ⟨he, hw⟩ => ⟨he.trans (ret_two ?_ ?_), hw⟩
    · rw [runeI, if_pos e]
    · rw [hd, if_pos e]; rfl
  · refine (rune_1 s i w hs h0 e).mono fun _ _ ⟨he, hw⟩ => ⟨he.trans (ret_two ?_ ?_), hw⟩
    · rw [runeI, if_neg (by omega), runeN, if_neg (by omega), if_neg (by omega), if_neg (by omega)]
    · rw [hd, if_neg (by omega)]; show (1 : Int) = (lenN s i : Int); omega
  · refine (rune_2 s i w hs h0 e).mono fun _ _ ⟨he, hw⟩ => ⟨he.trans (ret_two ?_ ?_), hw⟩
    · rw [runeI, if_neg (by omega), runeN, if_pos e]; rfl
    · rw [hd, if_neg (by omega)]; show (2 : Int) = (lenN s i : Int); omega
  · refine (rune_3 s i w hs h0 e).mono fun _ _ ⟨he, hw⟩ => ⟨he.trans (ret_two ?_ ?_), hw⟩
    · rw [runeI, if_neg (by omega), runeN, if_neg (by omega), if_pos e]; rfl
    · rw [hd, if_neg (by omega)]; show (3 : Int) = (lenN s i : Int); omega
  · refine (rune_4 s i w hs h0 e).mono fun _ _ ⟨he, hw⟩ => ⟨he.trans (ret_two ?_ ?_), hw⟩
    · rw [runeI, if_neg (by omega), runeN, if_neg (by omega), if_neg (by omega), if_pos e]; rfl
    · rw [hd, if_neg (by omega)]; show (4 : Int) = (lenN s i : Int); omega

theorem wide_same (s : ByteArray) (i : Nat) : anyB (runeI s i) wideL = wideB ((Utf8.decode s i).1 : Int) := by
  rw [runeI, decode_eq]
  by_cases e : lenN s i = 0
  · rw [if_pos e, if_pos e]; decide
  · rw [if_neg e, if_neg e]; rfl

set_option maxHeartbeats 400000 in
theorem rwidth_any (s : ByteArray) (w : World) (hs : s.size ≤ maxLen) :
    Calls Try.prog 23 #[.string s] w fun e w' => e = .returned (.int .i64 (widthFrom s 0)) ∧ Below w.heap.size w w' := by
  have hm := hs
  unfold maxLen at hs
  go_enter Try.func23, Try.ntmps23
  go_wp2
  go_loopw [3, 4, 5, 6] (fun c p _ _ wr => ∃ i x : Nat, i ≤ s.size ∧ p = .int .i64 i ∧ c = .int .i64 x ∧ x ≤ i ∧ widthFrom s 0 = x + widthFrom s i ∧ Below w.heap.size w wr) (fun _ p _ _ _ => s.size - (intOf p).toNat)
  case atStart => exact ⟨0, 0, by omega, rfl, rfl, by omega, by omega, Below.refl _ _⟩
  case round =>
    obtain ⟨i, x, hi, rfl, rfl, hx, he, hw⟩ := hrel
    have He := Lib.hid he; clear he
    by_cases hlt : i < s.size
    · have hp := step_pos s i
      have hl := step_le s i hlt
      have hws := w_step s i
      have Hs := Lib.hid (width_step s i hlt)
      have Hsame := Lib.hid (wide_same s i)
      go_wp2_with fail
      refine (rune_any s i wr hm hlt).mono ?_
      rintro e w1 ⟨rfl, rfl⟩
      go_wp2_with fail
      refine (rwithin_built _ wideL wr (by decide)).mono ?_
      rintro e w3 ⟨rfl, hb3⟩
      rw [Hsame.out]
      have Hb3 := hw.trans (hb3.mono hw.size)
      cases hwd : wideB ((Utf8.decode s i).1 : Int)
      · have hw1 : wN s i = 1 := by rw [wN, hwd]; rfl
        have Hw1 := Lib.hid hw1; clear hw1
        go_wp2_with fail
        go_roundw
        case rel => exact ⟨i + (Utf8.decode s i).2, x + 1, hl, by go_num, by go_num, by omega, by rw [He.out, Hs.out, Hw1.out]; omega, Hb3⟩
        case measure => simp [intOf]; omega
      · have hw1 : wN s i = 2 := by rw [wN, hwd]; rfl
        have h2 : 2 ≤ (Utf8.decode s i).2 := by omega
        have Hw1 := Lib.hid hw1; clear hw1
        go_wp2_with fail
        go_roundw
        case rel => exact ⟨i + (Utf8.decode s i).2, x + 2, hl, by go_num, by go_num, by omega, by rw [He.out, Hs.out, Hw1.out]; omega, Hb3⟩
        case measure => simp [intOf]; omega
    · go_wp2_with fail
      go_ret
      exact ⟨ret_int (by rw [He.out, width_end s i hlt]; rfl), hw⟩

end Uni
end Go.Proofs.Ytpolgmjikelmiaa
