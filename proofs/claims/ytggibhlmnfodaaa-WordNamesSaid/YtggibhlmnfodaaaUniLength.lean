/-
  UTF-8: the contract of the document's own function that tells how long a character is.
-/
import Derived.Test.YtggibhlmnfodaaaUniUtf
namespace Go.Proofs.Ytggibhlmnfodaaa
namespace Uni
open Go.RowKit

set_option maxHeartbeats 1000000 in
set_option maxRecDepth 100000 in
theorem len_one (s : ByteArray) (i : Nat) (w : World) (hs : s.size ≤ maxLen) (h0 : i < s.size) (c : byteN s i < 128) :
    Calls Try.prog 29 #[.string s, .int .i64 i] w fun e w' => e = .returned (.int .i64 (lenN s i)) ∧ w = w' := by
  have hm := hs
  unfold maxLen at hs
  have g1 : ((s[i]'h0).toNat : Int) < 128 := by rw [(Lib.hid (byteN_at s i h0)).out]; omega
  have Hf : Hid (lenN s i = 1) := Lib.hid (by rw [lenN, if_pos c])
  go_enter Try.func29, Try.ntmps29
  go_wp2_with fail
  go_ret
  exact ⟨ret_int (by rw [Hf.out]; rfl), rfl⟩

set_option maxHeartbeats 1000000 in
set_option maxRecDepth 100000 in
theorem len_bad (s : ByteArray) (i : Nat) (w : World) (hs : s.size ≤ maxLen) (h0 : i < s.size) (c : ¬ byteN s i < 128) (c2 : byteN s i < 194) :
    Calls Try.prog 29 #[.string s, .int .i64 i] w fun e w' => e = .returned (.int .i64 (lenN s i)) ∧ w = w' := by
  have hm := hs
  unfold maxLen at hs
  have g1 : ¬ ((s[i]'h0).toNat : Int) < 128 := by rw [(Lib.hid (byteN_at s i h0)).out]; omega
  have g2 : ¬ (194 : Int) ≤ ((s[i]'h0).toNat : Int) := by rw [(Lib.hid (byteN_at s i h0)).out]; omega
  have Hf : Hid (lenN s i = 0) := Lib.hid (by rw [lenN, if_neg c, if_neg (by omega), if_neg (by omega), if_neg (by omega)])
  go_enter Try.func29, Try.ntmps29
  go_wp2_with fail
  go_ret
  exact ⟨ret_int (by rw [Hf.out]; rfl), rfl⟩

set_option maxHeartbeats 1000000 in
set_option maxRecDepth 100000 in
theorem len_over (s : ByteArray) (i : Nat) (w : World) (hs : s.size ≤ maxLen) (h0 : i < s.size) (c : 245 ≤ byteN s i) :
    Calls Try.prog 29 #[.string s, .int .i64 i] w fun e w' => e = .returned (.int .i64 (lenN s i)) ∧ w = w' := by
  have hm := hs
  unfold maxLen at hs
  have g1 : ¬ ((s[i]'h0).toNat : Int) < 128 := by rw [(Lib.hid (byteN_at s i h0)).out]; omega
  have g2 : ¬ ((s[i]'h0).toNat : Int) < 224 := by rw [(Lib.hid (byteN_at s i h0)).out]; omega
  have g2a : (194 : Int) ≤ ((s[i]'h0).toNat : Int) := by rw [(Lib.hid (byteN_at s i h0)).out]; omega
  have g2b : (224 : Int) ≤ ((s[i]'h0).toNat : Int) := by rw [(Lib.hid (byteN_at s i h0)).out]; omega
  have g2c : (240 : Int) ≤ ((s[i]'h0).toNat : Int) := by rw [(Lib.hid (byteN_at s i h0)).out]; omega
  have g3 : ¬ ((s[i]'h0).toNat : Int) < 240 := by rw [(Lib.hid (byteN_at s i h0)).out]; omega
  have g4 : ¬ ((s[i]'h0).toNat : Int) < 245 := by rw [(Lib.hid (byteN_at s i h0)).out]; omega
  have Hf : Hid (lenN s i = 0) := Lib.hid (by rw [lenN, if_neg (by omega), if_neg (by omega), if_neg (by omega), if_neg (by omega)])
  go_enter Try.func29, Try.ntmps29
  go_wp2_with fail
  go_ret
  exact ⟨ret_int (by rw [Hf.out]; rfl), rfl⟩

set_option maxHeartbeats 1000000 in
set_option maxRecDepth 100000 in
theorem len_two (s : ByteArray) (i : Nat) (w : World) (hs : s.size ≤ maxLen) (h0 : i < s.size) (c : 194 ≤ byteN s i) (c2 : byteN s i < 224) (H : Hid (tailB s (i + 1) = true)) :
    Calls Try.prog 29 #[.string s, .int .i64 i] w fun e w' => e = .returned (.int .i64 (lenN s i)) ∧ w = w' := by
  have hm := hs
  unfold maxLen at hs
  have h1 : i + 1 < s.size := by have := H.out; simp [tailB] at this; omega
  have g1 : ¬ ((s[i]'h0).toNat : Int) < 128 := by rw [(Lib.hid (byteN_at s i h0)).out]; omega
  have g2 : (194 : Int) ≤ ((s[i]'h0).toNat : Int) := by rw [(Lib.hid (byteN_at s i h0)).out]; omega
  have g3 : ((s[i]'h0).toNat : Int) < 224 := by rw [(Lib.hid (byteN_at s i h0)).out]; omega
  have Hf : Hid (lenN s i = 2) := Lib.hid (by rw [lenN, if_neg (by omega), if_pos ⟨c, c2, H.out⟩])
  go_enter Try.func29, Try.ntmps29
  go_wp2_with fail
  refine (tail_any s (i + 1) w hm).mono ?_
  rintro e w1 ⟨rfl, rfl⟩
  rw [H.out]
  go_wp2_with fail
  go_ret
  exact ⟨ret_int (by rw [Hf.out]; rfl), rfl⟩

set_option maxHeartbeats 1000000 in
set_option maxRecDepth 100000 in
theorem len_two_no (s : ByteArray) (i : Nat) (w : World) (hs : s.size ≤ maxLen) (h0 : i < s.size) (c : 194 ≤ byteN s i) (c2 : byteN s i < 224) (H : Hid (tailB s (i + 1) = false)) :
    Calls Try.prog 29 #[.string s, .int .i64 i] w fun e w' => e = .returned (.int .i64 (lenN s i)) ∧ w = w' := by
  have hm := hs
  unfold maxLen at hs
  have g1 : ¬ ((s[i]'h0).toNat : Int) < 128 := by rw [(Lib.hid (byteN_at s i h0)).out]; omega
  have g2 : (194 : Int) ≤ ((s[i]'h0).toNat : Int) := by rw [(Lib.hid (byteN_at s i h0)).out]; omega
  have g3 : ((s[i]'h0).toNat : Int) < 224 := by rw [(Lib.hid (byteN_at s i h0)).out]; omega
  have Hf : Hid (lenN s i = 0) := Lib.hid (by rw [lenN, if_neg (by omega), if_neg (by rw [H.out]; simp), if_neg (by omega), if_neg (by omega)])
  go_enter Try.func29, Try.ntmps29
  go_wp2_with fail
  refine (tail_any s (i + 1) w hm).mono ?_
  rintro e w1 ⟨rfl, rfl⟩
  rw [H.out]
  go_wp2_with fail
  go_ret
  exact ⟨ret_int (by rw [Hf.out]; rfl), rfl⟩

set_option maxHeartbeats 1000000 in
set_option maxRecDepth 100000 in
theorem len_three_no1 (s : ByteArray) (i : Nat) (w : World) (hs : s.size ≤ maxLen) (h0 : i < s.size) (c : 224 ≤ byteN s i) (c2 : byteN s i < 240) (H : Hid (tailB s (i + 1) = false)) :
    Calls Try.prog 29 #[.string s, .int .i64 i] w fun e w' => e = .returned (.int .i64 (lenN s i)) ∧ w = w' := by
  have hm := hs
  unfold maxLen at hs
  have g1 : ¬ ((s[i]'h0).toNat : Int) < 128 := by rw [(Lib.hid (byteN_at s i h0)).out]; omega
  have g2 : (194 : Int) ≤ ((s[i]'h0).toNat : Int) := by rw [(Lib.hid (byteN_at s i h0)).out]; omega
  have g3 : ¬ ((s[i]'h0).toNat : Int) < 224 := by rw [(Lib.hid (byteN_at s i h0)).out]; omega
  have g4 : (224 : Int) ≤ ((s[i]'h0).toNat : Int) := by rw [(Lib.hid (byteN_at s i h0)).out]; omega
  have g5 : ((s[i]'h0).toNat : Int) < 240 := by rw [(Lib.hid (byteN_at s i h0)).out]; omega
  have Hf : Hid (lenN s i = 0) := Lib.hid (by rw [lenN, if_neg (by omega), if_neg (by omega), if_neg (by rw [H.out]; simp), if_neg (by omega)])
  go_enter Try.func29, Try.ntmps29
  go_wp2_with fail
  refine (tail_any s (i + 1) w hm).mono ?_
  rintro e w1 ⟨rfl, rfl⟩
  rw [H.out]
  go_wp2_with fail
  go_ret
  exact ⟨ret_int (by rw [Hf.out]; rfl), rfl⟩

set_option maxHeartbeats 1000000 in
set_option maxRecDepth 100000 in
theorem len_three_no2 (s : ByteArray) (i : Nat) (w : World) (hs : s.size ≤ maxLen) (h0 : i < s.size) (c : 224 ≤ byteN s i) (c2 : byteN s i < 240) (H : Hid (tailB s (i + 1) = true)) (H2 : Hid (tailB s (i + 2) = false)) :
    Calls Try.prog 29 #[.string s, .int .i64 i] w fun e w' => e = .returned (.int .i64 (lenN s i)) ∧ w = w' := by
  have hm := hs
  unfold maxLen at hs
  have h1 : i + 1 < s.size := by have := H.out; simp [tailB] at this; omega
  have g1 : ¬ ((s[i]'h0).toNat : Int) < 128 := by rw [(Lib.hid (byteN_at s i h0)).out]; omega
  have g2 : (194 : Int) ≤ ((s[i]'h0).toNat : Int) := by rw [(Lib.hid (byteN_at s i h0)).out]; omega
  have g3 : ¬ ((s[i]'h0).toNat : Int) < 224 := by rw [(Lib.hid (byteN_at s i h0)).out]; omega
  have g4 : (224 : Int) ≤ ((s[i]'h0).toNat : Int) := by rw [(Lib.hid (byteN_at s i h0)).out]; omega
  have g5 : ((s[i]'h0).toNat : Int) < 240 := by rw [(Lib.hid (byteN_at s i h0)).out]; omega
  have Hf : Hid (lenN s i = 0) := Lib.hid (by rw [lenN, if_neg (by omega), if_neg (by omega), if_neg (by rw [H2.out]; simp), if_neg (by omega)])
  go_enter Try.func29, Try.ntmps29
  go_wp2_with fail
  refine (tail_any s (i + 1) w hm).mono ?_
  rintro e w1 ⟨rfl, rfl⟩
  rw [H.out]
  go_wp2_with fail
  refine (tail_any s (i + 2) w hm).mono ?_
  rintro e w1 ⟨rfl, rfl⟩
  rw [H2.out]
  go_wp2_with fail
  go_ret
  exact ⟨ret_int (by rw [Hf.out]; rfl), rfl⟩

set_option maxHeartbeats 1000000 in
set_option maxRecDepth 100000 in
theorem len_three_e0lo (s : ByteArray) (i : Nat) (w : World) (hs : s.size ≤ maxLen) (h0 : i < s.size) (c : 224 ≤ byteN s i) (c2 : byteN s i < 240) (H : Hid (tailB s (i + 1) = true)) (H2 : Hid (tailB s (i + 2) = true)) (d : byteN s i = 224) (d2 : byteN s (i + 1) < 160) :
    Calls Try.prog 29 #[.string s, .int .i64 i] w fun e w' => e = .returned (.int .i64 (lenN s i)) ∧ w = w' := by
  have hm := hs
  unfold maxLen at hs
  have h1 : i + 1 < s.size := by have := H.out; simp [tailB] at this; omega
  have g1 : ¬ ((s[i]'h0).toNat : Int) < 128 := by rw [(Lib.hid (byteN_at s i h0)).out]; omega
  have g2 : (194 : Int) ≤ ((s[i]'h0).toNat : Int) := by rw [(Lib.hid (byteN_at s i h0)).out]; omega
  have g3 : ¬ ((s[i]'h0).toNat : Int) < 224 := by rw [(Lib.hid (byteN_at s i h0)).out]; omega
  have g4 : (224 : Int) ≤ ((s[i]'h0).toNat : Int) := by rw [(Lib.hid (byteN_at s i h0)).out]; omega
  have g5 : ((s[i]'h0).toNat : Int) < 240 := by rw [(Lib.hid (byteN_at s i h0)).out]; omega
  have hb1 := byteN_lt s (i + 1)
  have g6 : (((s[i]'h0).toNat : Int) == 224) = true := beq_iff_eq.2 (by rw [(Lib.hid (byteN_at s i h0)).out]; omega)
  have g7 : ((s[i + 1]'h1).toNat : Int) < 160 := by rw [byteN_at s (i + 1) h1]; omega
  have Hf : Hid (lenN s i = 0) := Lib.hid (by rw [lenN, if_neg (by omega), if_neg (by omega), if_pos ⟨c, c2, H.out, H2.out⟩, if_pos (by omega)])
  have D := Lib.hid d; clear d
  go_enter Try.func29, Try.ntmps29
  go_wp2_with fail
  refine (tail_any s (i + 1) w hm).mono ?_
  rintro e w1 ⟨rfl, rfl⟩
  rw [H.out]
  go_wp2_with fail
  refine (tail_any s (i + 2) w hm).mono ?_
  rintro e w1 ⟨rfl, rfl⟩
  rw [H2.out]
  go_wp2_with fail
  go_ret
  exact ⟨ret_int (by rw [Hf.out]; rfl), rfl⟩

set_option maxHeartbeats 1000000 in
set_option maxRecDepth 100000 in
theorem len_three_e0 (s : ByteArray) (i : Nat) (w : World) (hs : s.size ≤ maxLen) (h0 : i < s.size) (c : 224 ≤ byteN s i) (c2 : byteN s i < 240) (H : Hid (tailB s (i + 1) = true)) (H2 : Hid (tailB s (i + 2) = true)) (d : byteN s i = 224) (d2 : ¬ byteN s (i + 1) < 160) :
    Calls Try.prog 29 #[.string s, .int .i64 i] w fun e w' => e = .returned (.int .i64 (lenN s i)) ∧ w = w' := by
  have hm := hs
  unfold maxLen at hs
  have h1 : i + 1 < s.size := by have := H.out; simp [tailB] at this; omega
  have g1 : ¬ ((s[i]'h0).toNat : Int) < 128 := by rw [(Lib.hid (byteN_at s i h0)).out]; omega
  have g2 : (194 : Int) ≤ ((s[i]'h0).toNat : Int) := by rw [(Lib.hid (byteN_at s i h0)).out]; omega
  have g3 : ¬ ((s[i]'h0).toNat : Int) < 224 := by rw [(Lib.hid (byteN_at s i h0)).out]; omega
  have g4 : (224 : Int) ≤ ((s[i]'h0).toNat : Int) := by rw [(Lib.hid (byteN_at s i h0)).out]; omega
  have g5 : ((s[i]'h0).toNat : Int) < 240 := by rw [(Lib.hid (byteN_at s i h0)).out]; omega
  have hb1 := byteN_lt s (i + 1)
  have g6 : (((s[i]'h0).toNat : Int) == 224) = true := beq_iff_eq.2 (by rw [(Lib.hid (byteN_at s i h0)).out]; omega)
  have g6b : (((s[i]'h0).toNat : Int) == 237) = false := beq_eq_false_iff_ne.2 (by rw [(Lib.hid (byteN_at s i h0)).out]; omega)
  have g7 : ¬ ((s[i + 1]'h1).toNat : Int) < 160 := by rw [byteN_at s (i + 1) h1]; omega
  have Hf : Hid (lenN s i = 3) := Lib.hid (by rw [lenN, if_neg (by omega), if_neg (by omega), if_pos ⟨c, c2, H.out, H2.out⟩, if_neg (by omega)])
  have D := Lib.hid d; clear d
  go_enter Try.func29, Try.ntmps29
  go_wp2_with fail
  refine (tail_any s (i + 1) w hm).mono ?_
  rintro e w1 ⟨rfl, rfl⟩
  rw [H.out]
  go_wp2_with fail
  refine (tail_any s (i + 2) w hm).mono ?_
  rintro e w1 ⟨rfl, rfl⟩
  rw [H2.out]
  go_wp2_with fail
  go_ret
  exact ⟨ret_int (by rw [Hf.out]; rfl), rfl⟩

set_option maxHeartbeats 1000000 in
set_option maxRecDepth 100000 in
theorem len_three_edhi (s : ByteArray) (i : Nat) (w : World) (hs : s.size ≤ maxLen) (h0 : i < s.size) (c : 224 ≤ byteN s i) (c2 : byteN s i < 240) (H : Hid (tailB s (i + 1) = true)) (H2 : Hid (tailB s (i + 2) = true)) (d : byteN s i = 237) (d2 : 160 ≤ byteN s (i + 1)) :
    Calls Try.prog 29 #[.string s, .int .i64 i] w fun e w' => e = .returned (.int .i64 (lenN s i)) ∧ w = w' := by
  have hm := hs
  unfold maxLen at hs
  have h1 : i + 1 < s.size := by have := H.out; simp [tailB] at this; omega
  have g1 : ¬ ((s[i]'h0).toNat : Int) < 128 := by rw [(Lib.hid (byteN_at s i h0)).out]; omega
  have g2 : (194 : Int) ≤ ((s[i]'h0).toNat : Int) := by rw [(Lib.hid (byteN_at s i h0)).out]; omega
  have g3 : ¬ ((s[i]'h0).toNat : Int) < 224 := by rw [(Lib.hid (byteN_at s i h0)).out]; omega
  have g4 : (224 : Int) ≤ ((s[i]'h0).toNat : Int) := by rw [(Lib.hid (byteN_at s i h0)).out]; omega
  have g5 : ((s[i]'h0).toNat : Int) < 240 := by rw [(Lib.hid (byteN_at s i h0)).out]; omega
  have hb1 := byteN_lt s (i + 1)
  have g6 : (((s[i]'h0).toNat : Int) == 224) = false := beq_eq_false_iff_ne.2 (by rw [(Lib.hid (byteN_at s i h0)).out]; omega)
  have g6b : (((s[i]'h0).toNat : Int) == 237) = true := beq_iff_eq.2 (by rw [(Lib.hid (byteN_at s i h0)).out]; omega)
  have g7 : 160 ≤ ((s[i + 1]'h1).toNat : Int) := by rw [byteN_at s (i + 1) h1]; omega
  have Hf : Hid (lenN s i = 0) := Lib.hid (by rw [lenN, if_neg (by omega), if_neg (by omega), if_pos ⟨c, c2, H.out, H2.out⟩, if_pos (by omega)])
  have D := Lib.hid d; clear d
  go_enter Try.func29, Try.ntmps29
  go_wp2_with fail
  refine (tail_any s (i + 1) w hm).mono ?_
  rintro e w1 ⟨rfl, rfl⟩
  rw [H.out]
  go_wp2_with fail
  refine (tail_any s (i + 2) w hm).mono ?_
  rintro e w1 ⟨rfl, rfl⟩
  rw [H2.out]
  go_wp2_with fail
  go_ret
  exact ⟨ret_int (by rw [Hf.out]; rfl), rfl⟩

set_option maxHeartbeats 1000000 in
set_option maxRecDepth 100000 in
theorem len_three_ed (s : ByteArray) (i : Nat) (w : World) (hs : s.size ≤ maxLen) (h0 : i < s.size) (c : 224 ≤ byteN s i) (c2 : byteN s i < 240) (H : Hid (tailB s (i + 1) = true)) (H2 : Hid (tailB s (i + 2) = true)) (d : byteN s i = 237) (d2 : ¬ 160 ≤ byteN s (i + 1)) :
    Calls Try.prog 29 #[.string s, .int .i64 i] w fun e w' => e = .returned (.int .i64 (lenN s i)) ∧ w = w' := by
  have hm := hs
  unfold maxLen at hs
  have h1 : i + 1 < s.size := by have := H.out; simp [tailB] at this; omega
  have g1 : ¬ ((s[i]'h0).toNat : Int) < 128 := by rw [(Lib.hid (byteN_at s i h0)).out]; omega
  have g2 : (194 : Int) ≤ ((s[i]'h0).toNat : Int) := by rw [(Lib.hid (byteN_at s i h0)).out]; omega
  have g3 : ¬ ((s[i]'h0).toNat : Int) < 224 := by rw [(Lib.hid (byteN_at s i h0)).out]; omega
  have g4 : (224 : Int) ≤ ((s[i]'h0).toNat : Int) := by rw [(Lib.hid (byteN_at s i h0)).out]; omega
  have g5 : ((s[i]'h0).toNat : Int) < 240 := by rw [(Lib.hid (byteN_at s i h0)).out]; omega
  have hb1 := byteN_lt s (i + 1)
  have g6 : (((s[i]'h0).toNat : Int) == 224) = false := beq_eq_false_iff_ne.2 (by rw [(Lib.hid (byteN_at s i h0)).out]; omega)
  have g6b : (((s[i]'h0).toNat : Int) == 237) = true := beq_iff_eq.2 (by rw [(Lib.hid (byteN_at s i h0)).out]; omega)
  have g7 : ¬ 160 ≤ ((s[i + 1]'h1).toNat : Int) := by rw [byteN_at s (i + 1) h1]; omega
  have Hf : Hid (lenN s i = 3) := Lib.hid (by rw [lenN, if_neg (by omega), if_neg (by omega), if_pos ⟨c, c2, H.out, H2.out⟩, if_neg (by omega)])
  have D := Lib.hid d; clear d
  go_enter Try.func29, Try.ntmps29
  go_wp2_with fail
  refine (tail_any s (i + 1) w hm).mono ?_
  rintro e w1 ⟨rfl, rfl⟩
  rw [H.out]
  go_wp2_with fail
  refine (tail_any s (i + 2) w hm).mono ?_
  rintro e w1 ⟨rfl, rfl⟩
  rw [H2.out]
  go_wp2_with fail
  go_ret
  exact ⟨ret_int (by rw [Hf.out]; rfl), rfl⟩

set_option maxHeartbeats 1000000 in
set_option maxRecDepth 100000 in
theorem len_three (s : ByteArray) (i : Nat) (w : World) (hs : s.size ≤ maxLen) (h0 : i < s.size) (c : 224 ≤ byteN s i) (c2 : byteN s i < 240) (H : Hid (tailB s (i + 1) = true)) (H2 : Hid (tailB s (i + 2) = true)) (d : byteN s i ≠ 224) (d2 : byteN s i ≠ 237) :
    Calls Try.prog 29 #[.string s, .int .i64 i] w fun e w' => e = .returned (.int .i64 (lenN s i)) ∧ w = w' := by
  have hm := hs
  unfold maxLen at hs
  have h1 : i + 1 < s.size := by have := H.out; simp [tailB] at this; omega
  have g1 : ¬ ((s[i]'h0).toNat : Int) < 128 := by rw [(Lib.hid (byteN_at s i h0)).out]; omega
  have g2 : (194 : Int) ≤ ((s[i]'h0).toNat : Int) := by rw [(Lib.hid (byteN_at s i h0)).out]; omega
  have g3 : ¬ ((s[i]'h0).toNat : Int) < 224 := by rw [(Lib.hid (byteN_at s i h0)).out]; omega
  have g4 : (224 : Int) ≤ ((s[i]'h0).toNat : Int) := by rw [(Lib.hid (byteN_at s i h0)).out]; omega
  have g5 : ((s[i]'h0).toNat : Int) < 240 := by rw [(Lib.hid (byteN_at s i h0)).out]; omega
  have g6 : (((s[i]'h0).toNat : Int) == 224) = false := beq_eq_false_iff_ne.2 (by rw [(Lib.hid (byteN_at s i h0)).out]; omega)
  have g6b : (((s[i]'h0).toNat : Int) == 237) = false := beq_eq_false_iff_ne.2 (by rw [(Lib.hid (byteN_at s i h0)).out]; omega)
  have Hf : Hid (lenN s i = 3) := Lib.hid (by rw [lenN, if_neg (by omega), if_neg (by omega), if_pos ⟨c, c2, H.out, H2.out⟩, if_neg (by omega)])
  go_enter Try.func29, Try.ntmps29
  go_wp2_with fail
  refine (tail_any s (i + 1) w hm).mono ?_
  rintro e w1 ⟨rfl, rfl⟩
  rw [H.out]
  go_wp2_with fail
  refine (tail_any s (i + 2) w hm).mono ?_
  rintro e w1 ⟨rfl, rfl⟩
  rw [H2.out]
  go_wp2_with fail
  go_ret
  exact ⟨ret_int (by rw [Hf.out]; rfl), rfl⟩

set_option maxHeartbeats 1000000 in
set_option maxRecDepth 100000 in
theorem len_four_no1 (s : ByteArray) (i : Nat) (w : World) (hs : s.size ≤ maxLen) (h0 : i < s.size) (c : 240 ≤ byteN s i) (c2 : byteN s i < 245) (H : Hid (tailB s (i + 1) = false)) :
    Calls Try.prog 29 #[.string s, .int .i64 i] w fun e w' => e = .returned (.int .i64 (lenN s i)) ∧ w = w' := by
  have hm := hs
  unfold maxLen at hs
  have g1 : ¬ ((s[i]'h0).toNat : Int) < 128 := by rw [(Lib.hid (byteN_at s i h0)).out]; omega
  have g2 : (194 : Int) ≤ ((s[i]'h0).toNat : Int) := by rw [(Lib.hid (byteN_at s i h0)).out]; omega
  have g3 : ¬ ((s[i]'h0).toNat : Int) < 224 := by rw [(Lib.hid (byteN_at s i h0)).out]; omega
  have g3a : (224 : Int) ≤ ((s[i]'h0).toNat : Int) := by rw [(Lib.hid (byteN_at s i h0)).out]; omega
  have g4 : ¬ ((s[i]'h0).toNat : Int) < 240 := by rw [(Lib.hid (byteN_at s i h0)).out]; omega
  have g4a : (240 : Int) ≤ ((s[i]'h0).toNat : Int) := by rw [(Lib.hid (byteN_at s i h0)).out]; omega
  have g5 : ((s[i]'h0).toNat : Int) < 245 := by rw [(Lib.hid (byteN_at s i h0)).out]; omega
  have Hf : Hid (lenN s i = 0) := Lib.hid (by rw [lenN, if_neg (by omega), if_neg (by omega), if_neg (by omega), if_neg (by rw [H.out]; simp)])
  go_enter Try.func29, Try.ntmps29
  go_wp2_with fail
  refine (tail_any s (i + 1) w hm).mono ?_
  rintro e w1 ⟨rfl, rfl⟩
  rw [H.out]
  go_wp2_with fail
  go_ret
  exact ⟨ret_int (by rw [Hf.out]; rfl), rfl⟩

set_option maxHeartbeats 1000000 in
set_option maxRecDepth 100000 in
theorem len_four_no2 (s : ByteArray) (i : Nat) (w : World) (hs : s.size ≤ maxLen) (h0 : i < s.size) (c : 240 ≤ byteN s i) (c2 : byteN s i < 245) (H : Hid (tailB s (i + 1) = true)) (H2 : Hid (tailB s (i + 2) = false)) :
    Calls Try.prog 29 #[.string s, .int .i64 i] w fun e w' => e = .returned (.int .i64 (lenN s i)) ∧ w = w' := by
  have hm := hs
  unfold maxLen at hs
  have h1 : i + 1 < s.size := by have := H.out; simp [tailB] at this; omega
  have g1 : ¬ ((s[i]'h0).toNat : Int) < 128 := by rw [(Lib.hid (byteN_at s i h0)).out]; omega
  have g2 : (194 : Int) ≤ ((s[i]'h0).toNat : Int) := by rw [(Lib.hid (byteN_at s i h0)).out]; omega
  have g3 : ¬ ((s[i]'h0).toNat : Int) < 224 := by rw [(Lib.hid (byteN_at s i h0)).out]; omega
  have g3a : (224 : Int) ≤ ((s[i]'h0).toNat : Int) := by rw [(Lib.hid (byteN_at s i h0)).out]; omega
  have g4 : ¬ ((s[i]'h0).toNat : Int) < 240 := by rw [(Lib.hid (byteN_at s i h0)).out]; omega
  have g4a : (240 : Int) ≤ ((s[i]'h0).toNat : Int) := by rw [(Lib.hid (byteN_at s i h0)).out]; omega
  have g5 : ((s[i]'h0).toNat : Int) < 245 := by rw [(Lib.hid (byteN_at s i h0)).out]; omega
  have Hf : Hid (lenN s i = 0) := Lib.hid (by rw [lenN, if_neg (by omega), if_neg (by omega), if_neg (by omega), if_neg (by rw [H2.out]; simp)])
  go_enter Try.func29, Try.ntmps29
  go_wp2_with fail
  refine (tail_any s (i + 1) w hm).mono ?_
  rintro e w1 ⟨rfl, rfl⟩
  rw [H.out]
  go_wp2_with fail
  refine (tail_any s (i + 2) w hm).mono ?_
  rintro e w1 ⟨rfl, rfl⟩
  rw [H2.out]
  go_wp2_with fail
  go_ret
  exact ⟨ret_int (by rw [Hf.out]; rfl), rfl⟩

set_option maxHeartbeats 1000000 in
set_option maxRecDepth 100000 in
theorem len_four_no3 (s : ByteArray) (i : Nat) (w : World) (hs : s.size ≤ maxLen) (h0 : i < s.size) (c : 240 ≤ byteN s i) (c2 : byteN s i < 245) (H : Hid (tailB s (i + 1) = true)) (H2 : Hid (tailB s (i + 2) = true)) (H3 : Hid (tailB s (i + 3) = false)) :
    Calls Try.prog 29 #[.string s, .int .i64 i] w fun e w' => e = .returned (.int .i64 (lenN s i)) ∧ w = w' := by
  have hm := hs
  unfold maxLen at hs
  have h1 : i + 1 < s.size := by have := H.out; simp [tailB] at this; omega
  have h2 : i + 2 < s.size := by have := H2.out; simp [tailB] at this; omega
  have g1 : ¬ ((s[i]'h0).toNat : Int) < 128 := by rw [(Lib.hid (byteN_at s i h0)).out]; omega
  have g2 : (194 : Int) ≤ ((s[i]'h0).toNat : Int) := by rw [(Lib.hid (byteN_at s i h0)).out]; omega
  have g3 : ¬ ((s[i]'h0).toNat : Int) < 224 := by rw [(Lib.hid (byteN_at s i h0)).out]; omega
  have g3a : (224 : Int) ≤ ((s[i]'h0).toNat : Int) := by rw [(Lib.hid (byteN_at s i h0)).out]; omega
  have g4 : ¬ ((s[i]'h0).toNat : Int) < 240 := by rw [(Lib.hid (byteN_at s i h0)).out]; omega
  have g4a : (240 : Int) ≤ ((s[i]'h0).toNat : Int) := by rw [(Lib.hid (byteN_at s i h0)).out]; omega
  have g5 : ((s[i]'h0).toNat : Int) < 245 := by rw [(Lib.hid (byteN_at s i h0)).out]; omega
  have Hf : Hid (lenN s i = 0) := Lib.hid (by rw [lenN, if_neg (by omega), if_neg (by omega), if_neg (by omega), if_neg (by rw [H3.out]; simp)])
  go_enter Try.func29, Try.ntmps29
  go_wp2_with fail
  refine (tail_any s (i + 1) w hm).mono ?_
  rintro e w1 ⟨rfl, rfl⟩
  rw [H.out]
  go_wp2_with fail
  refine (tail_any s (i + 2) w hm).mono ?_
  rintro e w1 ⟨rfl, rfl⟩
  rw [H2.out]
  go_wp2_with fail
  refine (tail_any s (i + 3) w hm).mono ?_
  rintro e w1 ⟨rfl, rfl⟩
  rw [H3.out]
  go_wp2_with fail
  go_ret
  exact ⟨ret_int (by rw [Hf.out]; rfl), rfl⟩

set_option maxHeartbeats 1000000 in
set_option maxRecDepth 100000 in
theorem len_four_f0lo (s : ByteArray) (i : Nat) (w : World) (hs : s.size ≤ maxLen) (h0 : i < s.size) (c : 240 ≤ byteN s i) (c2 : byteN s i < 245) (H : Hid (tailB s (i + 1) = true)) (H2 : Hid (tailB s (i + 2) = true)) (H3 : Hid (tailB s (i + 3) = true)) (d : byteN s i = 240) (d2 : byteN s (i + 1) < 144) :
    Calls Try.prog 29 #[.string s, .int .i64 i] w fun e w' => e = .returned (.int .i64 (lenN s i)) ∧ w = w' := by
  have hm := hs
  unfold maxLen at hs
  have h1 : i + 1 < s.size := by have := H.out; simp [tailB] at this; omega
  have h2 : i + 2 < s.size := by have := H2.out; simp [tailB] at this; omega
  have g1 : ¬ ((s[i]'h0).toNat : Int) < 128 := by rw [(Lib.hid (byteN_at s i h0)).out]; omega
  have g2 : (194 : Int) ≤ ((s[i]'h0).toNat : Int) := by rw [(Lib.hid (byteN_at s i h0)).out]; omega
  have g3 : ¬ ((s[i]'h0).toNat : Int) < 224 := by rw [(Lib.hid (byteN_at s i h0)).out]; omega
  have g3a : (224 : Int) ≤ ((s[i]'h0).toNat : Int) := by rw [(Lib.hid (byteN_at s i h0)).out]; omega
  have g4 : ¬ ((s[i]'h0).toNat : Int) < 240 := by rw [(Lib.hid (byteN_at s i h0)).out]; omega
  have g4a : (240 : Int) ≤ ((s[i]'h0).toNat : Int) := by rw [(Lib.hid (byteN_at s i h0)).out]; omega
  have g5 : ((s[i]'h0).toNat : Int) < 245 := by rw [(Lib.hid (byteN_at s i h0)).out]; omega
  have hb1 := byteN_lt s (i + 1)
  have g6 : (((s[i]'h0).toNat : Int) == 240) = true := beq_iff_eq.2 (by rw [(Lib.hid (byteN_at s i h0)).out]; omega)
  have g7 : ((s[i + 1]'h1).toNat : Int) < 144 := by rw [byteN_at s (i + 1) h1]; omega
  have Hf : Hid (lenN s i = 0) := Lib.hid (by rw [lenN, if_neg (by omega), if_neg (by omega), if_neg (by omega), if_pos ⟨c, c2, H.out, H2.out, H3.out⟩, if_pos (by omega)])
  have D := Lib.hid d; clear d
  go_enter Try.func29, Try.ntmps29
  go_wp2_with fail
  refine (tail_any s (i + 1) w hm).mono ?_
  rintro e w1 ⟨rfl, rfl⟩
  rw [H.out]
  go_wp2_with fail
  refine (tail_any s (i + 2) w hm).mono ?_
  rintro e w1 ⟨rfl, rfl⟩
  rw [H2.out]
  go_wp2_with fail
  refine (tail_any s (i + 3) w hm).mono ?_
  rintro e w1 ⟨rfl, rfl⟩
  rw [H3.out]
  go_wp2_with fail
  go_ret
  exact ⟨ret_int (by rw [Hf.out]; rfl), rfl⟩

set_option maxHeartbeats 1000000 in
set_option maxRecDepth 100000 in
theorem len_four_f0 (s : ByteArray) (i : Nat) (w : World) (hs : s.size ≤ maxLen) (h0 : i < s.size) (c : 240 ≤ byteN s i) (c2 : byteN s i < 245) (H : Hid (tailB s (i + 1) = true)) (H2 : Hid (tailB s (i + 2) = true)) (H3 : Hid (tailB s (i + 3) = true)) (d : byteN s i = 240) (d2 : ¬ byteN s (i + 1) < 144) :
    Calls Try.prog 29 #[.string s, .int .i64 i] w fun e w' => e = .returned (.int .i64 (lenN s i)) ∧ w = w' := by
  have hm := hs
  unfold maxLen at hs
  have h1 : i + 1 < s.size := by have := H.out; simp [tailB] at this; omega
  have h2 : i + 2 < s.size := by have := H2.out; simp [tailB] at this; omega
  have g1 : ¬ ((s[i]'h0).toNat : Int) < 128 := by rw [(Lib.hid (byteN_at s i h0)).out]; omega
  have g2 : (194 : Int) ≤ ((s[i]'h0).toNat : Int) := by rw [(Lib.hid (byteN_at s i h0)).out]; omega
  have g3 : ¬ ((s[i]'h0).toNat : Int) < 224 := by rw [(Lib.hid (byteN_at s i h0)).out]; omega
  have g3a : (224 : Int) ≤ ((s[i]'h0).toNat : Int) := by rw [(Lib.hid (byteN_at s i h0)).out]; omega
  have g4 : ¬ ((s[i]'h0).toNat : Int) < 240 := by rw [(Lib.hid (byteN_at s i h0)).out]; omega
  have g4a : (240 : Int) ≤ ((s[i]'h0).toNat : Int) := by rw [(Lib.hid (byteN_at s i h0)).out]; omega
  have g5 : ((s[i]'h0).toNat : Int) < 245 := by rw [(Lib.hid (byteN_at s i h0)).out]; omega
  have hb1 := byteN_lt s (i + 1)
  have g6 : (((s[i]'h0).toNat : Int) == 240) = true := beq_iff_eq.2 (by rw [(Lib.hid (byteN_at s i h0)).out]; omega)
  have g6b : (((s[i]'h0).toNat : Int) == 244) = false := beq_eq_false_iff_ne.2 (by rw [(Lib.hid (byteN_at s i h0)).out]; omega)
  have g7 : ¬ ((s[i + 1]'h1).toNat : Int) < 144 := by rw [byteN_at s (i + 1) h1]; omega
  have Hf : Hid (lenN s i = 4) := Lib.hid (by rw [lenN, if_neg (by omega), if_neg (by omega), if_neg (by omega), if_pos ⟨c, c2, H.out, H2.out, H3.out⟩, if_neg (by omega)])
  have D := Lib.hid d; clear d
  go_enter Try.func29, Try.ntmps29
  go_wp2_with fail
  refine (tail_any s (i + 1) w hm).mono ?_
  rintro e w1 ⟨rfl, rfl⟩
  rw [H.out]
  go_wp2_with fail
  refine (tail_any s (i + 2) w hm).mono ?_
  rintro e w1 ⟨rfl, rfl⟩
  rw [H2.out]
  go_wp2_with fail
  refine (tail_any s (i + 3) w hm).mono ?_
  rintro e w1 ⟨rfl, rfl⟩
  rw [H3.out]
  go_wp2_with fail
  go_ret
  exact ⟨ret_int (by rw [Hf.out]; rfl), rfl⟩

set_option maxHeartbeats 1000000 in
set_option maxRecDepth 100000 in
theorem len_four_f4hi (s : ByteArray) (i : Nat) (w : World) (hs : s.size ≤ maxLen) (h0 : i < s.size) (c : 240 ≤ byteN s i) (c2 : byteN s i < 245) (H : Hid (tailB s (i + 1) = true)) (H2 : Hid (tailB s (i + 2) = true)) (H3 : Hid (tailB s (i + 3) = true)) (d : byteN s i = 244) (d2 : 144 ≤ byteN s (i + 1)) :
    Calls Try.prog 29 #[.string s, .int .i64 i] w fun e w' => e = .returned (.int .i64 (lenN s i)) ∧ w = w' := by
  have hm := hs
  unfold maxLen at hs
  have h1 : i + 1 < s.size := by have := H.out; simp [tailB] at this; omega
  have h2 : i + 2 < s.size := by have := H2.out; simp [tailB] at this; omega
  have g1 : ¬ ((s[i]'h0).toNat : Int) < 128 := by rw [(Lib.hid (byteN_at s i h0)).out]; omega
  have g2 : (194 : Int) ≤ ((s[i]'h0).toNat : Int) := by rw [(Lib.hid (byteN_at s i h0)).out]; omega
  have g3 : ¬ ((s[i]'h0).toNat : Int) < 224 := by rw [(Lib.hid (byteN_at s i h0)).out]; omega
  have g3a : (224 : Int) ≤ ((s[i]'h0).toNat : Int) := by rw [(Lib.hid (byteN_at s i h0)).out]; omega
  have g4 : ¬ ((s[i]'h0).toNat : Int) < 240 := by rw [(Lib.hid (byteN_at s i h0)).out]; omega
  have g4a : (240 : Int) ≤ ((s[i]'h0).toNat : Int) := by rw [(Lib.hid (byteN_at s i h0)).out]; omega
  have g5 : ((s[i]'h0).toNat : Int) < 245 := by rw [(Lib.hid (byteN_at s i h0)).out]; omega
  have hb1 := byteN_lt s (i + 1)
  have g6 : (((s[i]'h0).toNat : Int) == 240) = false := beq_eq_false_iff_ne.2 (by rw [(Lib.hid (byteN_at s i h0)).out]; omega)
  have g6b : (((s[i]'h0).toNat : Int) == 244) = true := beq_iff_eq.2 (by rw [(Lib.hid (byteN_at s i h0)).out]; omega)
  have g7 : 144 ≤ ((s[i + 1]'h1).toNat : Int) := by rw [byteN_at s (i + 1) h1]; omega
  have Hf : Hid (lenN s i = 0) := Lib.hid (by rw [lenN, if_neg (by omega), if_neg (by omega), if_neg (by omega), if_pos ⟨c, c2, H.out, H2.out, H3.out⟩, if_pos (by omega)])
  have D := Lib.hid d; clear d
  go_enter Try.func29, Try.ntmps29
  go_wp2_with fail
  refine (tail_any s (i + 1) w hm).mono ?_
  rintro e w1 ⟨rfl, rfl⟩
  rw [H.out]
  go_wp2_with fail
  refine (tail_any s (i + 2) w hm).mono ?_
  rintro e w1 ⟨rfl, rfl⟩
  rw [H2.out]
  go_wp2_with fail
  refine (tail_any s (i + 3) w hm).mono ?_
  rintro e w1 ⟨rfl, rfl⟩
  rw [H3.out]
  go_wp2_with fail
  go_ret
  exact ⟨ret_int (by rw [Hf.out]; rfl), rfl⟩

set_option maxHeartbeats 1000000 in
set_option maxRecDepth 100000 in
theorem len_four_f4 (s : ByteArray) (i : Nat) (w : World) (hs : s.size ≤ maxLen) (h0 : i < s.size) (c : 240 ≤ byteN s i) (c2 : byteN s i < 245) (H : Hid (tailB s (i + 1) = true)) (H2 : Hid (tailB s (i + 2) = true)) (H3 : Hid (tailB s (i + 3) = true)) (d : byteN s i = 244) (d2 : ¬ 144 ≤ byteN s (i + 1)) :
    Calls Try.prog 29 #[.string s, .int .i64 i] w fun e w' => e = .returned (.int .i64 (lenN s i)) ∧ w = w' := by
  have hm := hs
  unfold maxLen at hs
  have h1 : i + 1 < s.size := by have := H.out; simp [tailB] at this; omega
  have h2 : i + 2 < s.size := by have := H2.out; simp [tailB] at this; omega
  have g1 : ¬ ((s[i]'h0).toNat : Int) < 128 := by rw [(Lib.hid (byteN_at s i h0)).out]; omega
  have g2 : (194 : Int) ≤ ((s[i]'h0).toNat : Int) := by rw [(Lib.hid (byteN_at s i h0)).out]; omega
  have g3 : ¬ ((s[i]'h0).toNat : Int) < 224 := by rw [(Lib.hid (byteN_at s i h0)).out]; omega
  have g3a : (224 : Int) ≤ ((s[i]'h0).toNat : Int) := by rw [(Lib.hid (byteN_at s i h0)).out]; omega
  have g4 : ¬ ((s[i]'h0).toNat : Int) < 240 := by rw [(Lib.hid (byteN_at s i h0)).out]; omega
  have g4a : (240 : Int) ≤ ((s[i]'h0).toNat : Int) := by rw [(Lib.hid (byteN_at s i h0)).out]; omega
  have g5 : ((s[i]'h0).toNat : Int) < 245 := by rw [(Lib.hid (byteN_at s i h0)).out]; omega
  have hb1 := byteN_lt s (i + 1)
  have g6 : (((s[i]'h0).toNat : Int) == 240) = false := beq_eq_false_iff_ne.2 (by rw [(Lib.hid (byteN_at s i h0)).out]; omega)
  have g6b : (((s[i]'h0).toNat : Int) == 244) = true := beq_iff_eq.2 (by rw [(Lib.hid (byteN_at s i h0)).out]; omega)
  have g7 : ¬ 144 ≤ ((s[i + 1]'h1).toNat : Int) := by rw [byteN_at s (i + 1) h1]; omega
  have Hf : Hid (lenN s i = 4) := Lib.hid (by rw [lenN, if_neg (by omega), if_neg (by omega), if_neg (by omega), if_pos ⟨c, c2, H.out, H2.out, H3.out⟩, if_neg (by omega)])
  have D := Lib.hid d; clear d
  go_enter Try.func29, Try.ntmps29
  go_wp2_with fail
  refine (tail_any s (i + 1) w hm).mono ?_
  rintro e w1 ⟨rfl, rfl⟩
  rw [H.out]
  go_wp2_with fail
  refine (tail_any s (i + 2) w hm).mono ?_
  rintro e w1 ⟨rfl, rfl⟩
  rw [H2.out]
  go_wp2_with fail
  refine (tail_any s (i + 3) w hm).mono ?_
  rintro e w1 ⟨rfl, rfl⟩
  rw [H3.out]
  go_wp2_with fail
  go_ret
  exact ⟨ret_int (by rw [Hf.out]; rfl), rfl⟩

set_option maxHeartbeats 1000000 in
set_option maxRecDepth 100000 in
theorem len_four (s : ByteArray) (i : Nat) (w : World) (hs : s.size ≤ maxLen) (h0 : i < s.size) (c : 240 ≤ byteN s i) (c2 : byteN s i < 245) (H : Hid (tailB s (i + 1) = true)) (H2 : Hid (tailB s (i + 2) = true)) (H3 : Hid (tailB s (i + 3) = true)) (d : byteN s i ≠ 240) (d2 : byteN s i ≠ 244) :
    Calls Try.prog 29 #[.string s, .int .i64 i] w fun e w' => e = .returned (.int .i64 (lenN s i)) ∧ w = w' := by
  have hm := hs
  unfold maxLen at hs
  have h1 : i + 1 < s.size := by have := H.out; simp [tailB] at this; omega
  have h2 : i + 2 < s.size := by have := H2.out; simp [tailB] at this; omega
  have g1 : ¬ ((s[i]'h0).toNat : Int) < 128 := by rw [(Lib.hid (byteN_at s i h0)).out]; omega
  have g2 : (194 : Int) ≤ ((s[i]'h0).toNat : Int) := by rw [(Lib.hid (byteN_at s i h0)).out]; omega
  have g3 : ¬ ((s[i]'h0).toNat : Int) < 224 := by rw [(Lib.hid (byteN_at s i h0)).out]; omega
  have g3a : (224 : Int) ≤ ((s[i]'h0).toNat : Int) := by rw [(Lib.hid (byteN_at s i h0)).out]; omega
  have g4 : ¬ ((s[i]'h0).toNat : Int) < 240 := by rw [(Lib.hid (byteN_at s i h0)).out]; omega
  have g4a : (240 : Int) ≤ ((s[i]'h0).toNat : Int) := by rw [(Lib.hid (byteN_at s i h0)).out]; omega
  have g5 : ((s[i]'h0).toNat : Int) < 245 := by rw [(Lib.hid (byteN_at s i h0)).out]; omega
  have g6 : (((s[i]'h0).toNat : Int) == 240) = false := beq_eq_false_iff_ne.2 (by rw [(Lib.hid (byteN_at s i h0)).out]; omega)
  have g6b : (((s[i]'h0).toNat : Int) == 244) = false := beq_eq_false_iff_ne.2 (by rw [(Lib.hid (byteN_at s i h0)).out]; omega)
  have Hf : Hid (lenN s i = 4) := Lib.hid (by rw [lenN, if_neg (by omega), if_neg (by omega), if_neg (by omega), if_pos ⟨c, c2, H.out, H2.out, H3.out⟩, if_neg (by omega)])
  go_enter Try.func29, Try.ntmps29
  go_wp2_with fail
  refine (tail_any s (i + 1) w hm).mono ?_
  rintro e w1 ⟨rfl, rfl⟩
  rw [H.out]
  go_wp2_with fail
  refine (tail_any s (i + 2) w hm).mono ?_
  rintro e w1 ⟨rfl, rfl⟩
  rw [H2.out]
  go_wp2_with fail
  refine (tail_any s (i + 3) w hm).mono ?_
  rintro e w1 ⟨rfl, rfl⟩
  rw [H3.out]
  go_wp2_with fail
  go_ret
  exact ⟨ret_int (by rw [Hf.out]; rfl), rfl⟩

theorem length_any (s : ByteArray) (i : Nat) (w : World) (hs : s.size ≤ maxLen) (h0 : i < s.size) :
    Calls Try.prog 29 #[.string s, .int .i64 i] w fun e w' => e = .returned (.int .i64 (lenN s i)) ∧ w = w' := by
  by_cases c1 : byteN s i < 128
  · exact len_one s i w hs h0 c1
  by_cases c2 : byteN s i < 194
  · exact len_bad s i w hs h0 c1 c2
  by_cases c3 : byteN s i < 224
  · cases h : tailB s (i + 1)
    · exact len_two_no s i w hs h0 (by omega) c3 h
    · exact len_two s i w hs h0 (by omega) c3 h
  by_cases c4 : byteN s i < 240
  · cases h : tailB s (i + 1)
    · exact len_three_no1 s i w hs h0 (by omega) c4 h
    cases h2 : tailB s (i + 2)
    · exact len_three_no2 s i w hs h0 (by omega) c4 h h2
    by_cases d : byteN s i = 224
    · by_cases d2 : byteN s (i + 1) < 160
      · exact len_three_e0lo s i w hs h0 (by omega) c4 h h2 d d2
      · exact len_three_e0 s i w hs h0 (by omega) c4 h h2 d d2
    by_cases d' : byteN s i = 237
    · by_cases d2 : 160 ≤ byteN s (i + 1)
      · exact len_three_edhi s i w hs h0 (by omega) c4 h h2 d' d2
      · exact len_three_ed s i w hs h0 (by omega) c4 h h2 d' d2
    exact len_three s i w hs h0 (by omega) c4 h h2 d d'
  by_cases c5 : byteN s i < 245
  · cases h : tailB s (i + 1)
    · exact len_four_no1 s i w hs h0 (by omega) c5 h
    cases h2 : tailB s (i + 2)
    · exact len_four_no2 s i w hs h0 (by omega) c5 h h2
    cases h3 : tailB s (i + 3)
    · exact len_four_no3 s i w hs h0 (by omega) c5 h h2 h3
    by_cases d : byteN s i = 240
    · by_cases d2 : byteN s (i + 1) < 144
      · exact len_four_f0lo s i w hs h0 (by omega) c5 h h2 h3 d d2
      · exact len_four_f0 s i w hs h0 (by omega) c5 h h2 h3 d d2
    by_cases d' : byteN s i = 244
    · by_cases d2 : 144 ≤ byteN s (i + 1)
      · exact len_four_f4hi s i w hs h0 (by omega) c5 h h2 h3 d' d2
      · exact len_four_f4 s i w hs h0 (by omega) c5 h h2 h3 d' d2
    exact len_four s i w hs h0 (by omega) c5 h h2 h3 d d'
  exact len_over s i w hs h0 (by omega)

end Uni
end Go.Proofs.Ytggibhlmnfodaaa
