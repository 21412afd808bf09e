/-
  The contract of the laws' own first question, and of the number of an error.
-/
import Derived.Test.YtpolgmjikelmiaaUniWidth
namespace Go.Proofs.Ytpolgmjikelmiaa
namespace Uni
open Go.RowKit

theorem sz2 : (⟨#[97, 255]⟩ : ByteArray).size ≤ maxLen := by decide
theorem sz4 : (⟨#[97, 230, 151, 165]⟩ : ByteArray).size ≤ maxLen := by decide
theorem at2 : badAt ⟨#[97, 255]⟩ = 1 := by decide +kernel
theorem code2 : badCode ⟨#[97, 255]⟩ = 100 := by decide +kernel
theorem wide4 : widthFrom ⟨#[97, 230, 151, 165]⟩ 0 = 3 := by decide +kernel
theorem start36 : startB 36 = true := by decide
theorem start49 : startB 49 = false := by decide
theorem part49 : partB 49 = true := by decide
theorem ends10 : endsB 10 = true := by decide
theorem blank9 : blankB 9 = true := by decide

theorem num_any (n : Int) (w : World) : Calls Try.prog 12 #[.int .i64 n] w fun e w' => e = .returned (.int .i64 n) ∧ w = w' := by
  go_enter Try.func12, Try.ntmps12
  go_wp2
  go_ret
  exact ⟨rfl, rfl⟩

set_option maxHeartbeats 1000000 in
theorem awake_any (w : World) :
    Calls Try.prog 13 #[] w fun e w' => e = .returned (.bool true) ∧ Below w.heap.size w w' := by
  go_enter Try.func13, Try.ntmps13
  go_wp2_with fail
  refine (valid_any _ w sz2).mono ?_
  rintro e w1 ⟨rfl, hb1⟩
  have hc1 := hb1
  rw [at2, code2]
  go_wp2_with fail
  refine (num_any _ w1).mono ?_
  rintro e w2 ⟨rfl, rfl⟩
  go_wp2_with fail
  refine (start_any _ w1).mono ?_
  rintro e w2 ⟨rfl, hb2⟩
  rw [start36]
  have hc2 := hc1.trans (hb2.mono hc1.size)
  go_wp2_with fail
  refine (start_any _ w2).mono ?_
  rintro e w3 ⟨rfl, hb3⟩
  rw [start49]
  have hc3 := hc2.trans (hb3.mono hc2.size)
  go_wp2_with fail
  refine (part_any _ w3).mono ?_
  rintro e w4 ⟨rfl, hb4⟩
  rw [part49]
  have hc4 := hc3.trans (hb4.mono hc3.size)
  go_wp2_with fail
  refine (ends_any _ w4).mono ?_
  rintro e w5 ⟨rfl, hb5⟩
  rw [ends10]
  have hc5 := hc4.trans (hb5.mono hc4.size)
  go_wp2_with fail
  refine (blank_any _ w5).mono ?_
  rintro e w6 ⟨rfl, hb6⟩
  rw [blank9]
  have hc6 := hc5.trans (hb6.mono hc5.size)
  go_wp2_with fail
  refine (width_any _ w6 sz4).mono ?_
  rintro e w7 ⟨rfl, hb7⟩
  rw [wide4]
  have hc7 := hc6.trans (hb7.mono hc6.size)
  go_wp2_with fail
  go_ret
  exact ⟨rfl, hc7⟩

set_option maxHeartbeats 400000 in
theorem univalids_any (s : ByteArray) (w : World) (hs : s.size ≤ maxLen) :
    Calls Try.prog 3 #[.string s] w fun e w' => e = .returned (.bool true) ∧ Below w.heap.size w w' := by
  go_enter Try.func3, Try.ntmps3
  go_wp2_with fail
  refine (valid_any s w hs).mono ?_
  rintro e w1 ⟨rfl, hb1⟩
  go_wp2_with fail
  refine (rvalid_any s w1 hs).mono ?_
  rintro e w2 ⟨rfl, rfl⟩
  go_wp2_with fail
  refine (num_any _ w1).mono ?_
  rintro e w2 ⟨rfl, rfl⟩
  go_wp2_with fail
  refine (awake_any w1).mono ?_
  rintro e w2 ⟨rfl, hb2⟩
  go_wp2_with fail
  go_ret
  exact ⟨rfl, hb1.trans (hb2.mono hb1.size)⟩

set_option maxHeartbeats 400000 in
theorem uniwidths_any (s : ByteArray) (w : World) (hs : s.size ≤ maxLen) :
    Calls Try.prog 5 #[.string s] w fun e w' => e = .returned (.bool true) ∧ Below w.heap.size w w' := by
  go_enter Try.func5, Try.ntmps5
  go_wp2_with fail
  refine (width_any s w hs).mono ?_
  rintro e w1 ⟨rfl, hb1⟩
  go_wp2_with fail
  refine (rwidth_any s w1 hs).mono ?_
  rintro e w2 ⟨rfl, hb2⟩
  have hc2 := hb1.trans (hb2.mono hb1.size)
  go_wp2_with fail
  refine (awake_any w2).mono ?_
  rintro e w3 ⟨rfl, hb3⟩
  go_wp2_with fail
  go_ret
  exact ⟨rfl, hc2.trans (hb3.mono hc2.size)⟩

set_option maxHeartbeats 1000000 in
theorem uniruns_any (r : Int) (w : World) :
    Calls Try.prog 4 #[.int .i64 r] w fun e w' => e = .returned (.bool true) ∧ Below w.heap.size w w' := by
  go_enter Try.func4, Try.ntmps4
  go_wp2_with fail
  have hc0 := Below.refl w.heap.size w
  refine (start_any r w).mono ?_
  rintro e w1 ⟨rfl, hb1⟩
  have hc1 := hc0.trans (hb1.mono hc0.size)
  go_wp2_with fail
  refine (rstart_any r w1).mono ?_
  rintro e w2 ⟨rfl, hb2⟩
  have hc2 := hc1.trans (hb2.mono hc1.size)
  go_wp2_with fail
  refine (part_any r w2).mono ?_
  rintro e w3 ⟨rfl, hb3⟩
  have hc3 := hc2.trans (hb3.mono hc2.size)
  go_wp2_with fail
  refine (rpart_any r w3).mono ?_
  rintro e w4 ⟨rfl, hb4⟩
  have hc4 := hc3.trans (hb4.mono hc3.size)
  go_wp2_with fail
  refine (ends_any r w4).mono ?_
  rintro e w5 ⟨rfl, hb5⟩
  have hc5 := hc4.trans (hb5.mono hc4.size)
  go_wp2_with fail
  refine (rends_any r w5).mono ?_
  rintro e w6 ⟨rfl, hb6⟩
  have hc6 := hc5.trans (hb6.mono hc5.size)
  go_wp2_with fail
  refine (blank_any r w6).mono ?_
  rintro e w7 ⟨rfl, hb7⟩
  have hc7 := hc6.trans (hb7.mono hc6.size)
  go_wp2_with fail
  refine (rblank_any r w7).mono ?_
  rintro e w8 ⟨rfl, hb8⟩
  have hc8 := hc7.trans (hb8.mono hc7.size)
  go_wp2_with fail
  refine (awake_any w8).mono ?_
  rintro e w9 ⟨rfl, hb9⟩
  go_wp2_with fail
  go_ret
  exact ⟨rfl, hc8.trans (hb9.mono hc8.size)⟩

end Uni
end Go.Proofs.Ytpolgmjikelmiaa
