/-
  The law on texts one behind the other: the walk.
-/
import Derived.Test.YtpolgmjikelmiaaUniAwake
import Derived.Test.YtpolgmjikelmiaaUniJoinPlain
namespace Go.Proofs.Ytpolgmjikelmiaa
namespace Uni
open Go.RowKit

theorem append_le (a b : ByteArray) (ha : a.size ≤ 140737488351232) (hb : b.size ≤ 140737488351232) : (a ++ b).size ≤ maxLen := by
  have : (a ++ b).size = a.size + b.size := ByteArray.size_append
  unfold maxLen; omega

set_option maxHeartbeats 1000000 in
theorem unijoins_bad (a b : ByteArray) (p : Nat) (w : World) (ha : a.size ≤ 140737488351232) (hb : b.size ≤ 140737488351232) (h : badFrom a 0 = some p) :
    Calls Try.prog 7 #[.string a, .string b] w fun e w' => e = .returned (.bool true) ∧ Below w.heap.size w w' := by
  have hab := append_le a b ha hb
  have hc := code_some a p h
  have Hc := Lib.hid hc.1
  have Ha := Lib.hid hc.2.1
  have hp := hc.2.2
  clear hc h
  go_enter Try.func7, Try.ntmps7
  go_wp2_with fail
  refine (awake_any w).mono ?_
  rintro e w1 ⟨rfl, hb1⟩
  go_wp2_with fail
  refine (valid_any a w1 (by unfold maxLen; omega)).mono ?_
  rintro e w2 ⟨rfl, hb2⟩
  have hc2 := hb1.trans (hb2.mono hb1.size)
  rw [Hc.out, Ha.out]
  go_wp2_with fail
  refine (valid_any b w2 (by unfold maxLen; omega)).mono ?_
  rintro e w3 ⟨rfl, hb3⟩
  have hc3 := hc2.trans (hb3.mono hc2.size)
  go_wp2_with fail
  refine (valid_any (a ++ b) w3 hab).mono ?_
  rintro e w4 ⟨rfl, hb4⟩
  have hc4 := hc3.trans (hb4.mono hc3.size)
  go_wp2_with fail
  refine (num_any _ w4).mono ?_
  rintro e w5 ⟨rfl, rfl⟩
  go_wp2_with fail
  go_ret
  exact ⟨rfl, hc4⟩

set_option maxHeartbeats 1000000 in
theorem unijoins_no (a b : ByteArray) (p : Nat) (w : World) (ha : a.size ≤ 140737488351232) (hb : b.size ≤ 140737488351232) (h : badFrom a 0 = none) (h' : badFrom b 0 = some p) :
    Calls Try.prog 7 #[.string a, .string b] w fun e w' => e = .returned (.bool true) ∧ Below w.heap.size w w' := by
  have hab := append_le a b ha hb
  have hc := code_none a h
  have Hc := Lib.hid hc.1
  have Ha := Lib.hid hc.2
  have hd := code_some b p h'
  have Hd := Lib.hid hd.1
  have Hj : Hid (badCode (a ++ b) = 100) := Lib.hid ((join_code a b h).trans hd.1)
  clear hc h hd h'
  go_enter Try.func7, Try.ntmps7
  go_wp2_with fail
  refine (awake_any w).mono ?_
  rintro e w1 ⟨rfl, hb1⟩
  go_wp2_with fail
  refine (valid_any a w1 (by unfold maxLen; omega)).mono ?_
  rintro e w2 ⟨rfl, hb2⟩
  have hc2 := hb1.trans (hb2.mono hb1.size)
  rw [Hc.out, Ha.out]
  go_wp2_with fail
  refine (valid_any b w2 (by unfold maxLen; omega)).mono ?_
  rintro e w3 ⟨rfl, hb3⟩
  have hc3 := hc2.trans (hb3.mono hc2.size)
  rw [Hd.out]
  go_wp2_with fail
  refine (valid_any (a ++ b) w3 hab).mono ?_
  rintro e w4 ⟨rfl, hb4⟩
  have hc4 := hc3.trans (hb4.mono hc3.size)
  rw [Hj.out]
  go_wp2_with fail
  refine (num_any _ w4).mono ?_
  rintro e w5 ⟨rfl, rfl⟩
  go_wp2_with fail
  refine (num_any _ w4).mono ?_
  rintro e w5 ⟨rfl, rfl⟩
  go_wp2_with fail
  refine (num_any _ w4).mono ?_
  rintro e w5 ⟨rfl, rfl⟩
  go_wp2_with fail
  refine (num_any _ w4).mono ?_
  rintro e w5 ⟨rfl, rfl⟩
  go_wp2_with fail
  go_ret
  exact ⟨rfl, hc4⟩

set_option maxHeartbeats 1000000 in
theorem unijoins_yes (a b : ByteArray) (w : World) (ha : a.size ≤ 140737488351232) (hb : b.size ≤ 140737488351232) (h : badFrom a 0 = none) (h' : badFrom b 0 = none) :
    Calls Try.prog 7 #[.string a, .string b] w fun e w' => e = .returned (.bool true) ∧ Below w.heap.size w w' := by
  have hab := append_le a b ha hb
  have hc := code_none a h
  have Hc := Lib.hid hc.1
  have Ha := Lib.hid hc.2
  have hd := code_none b h'
  have Hd := Lib.hid hd.1
  have Hj : Hid (badCode (a ++ b) = 0) := Lib.hid ((join_code a b h).trans hd.1)
  have Hw := Lib.hid (join_width a b h)
  have hwa : widthFrom a 0 ≤ a.size := width_le a a.size 0 (by omega) (by omega)
  have hwb : widthFrom b 0 ≤ b.size := width_le b b.size 0 (by omega) (by omega)
  clear hc h hd h'
  go_enter Try.func7, Try.ntmps7
  go_wp2_with fail
  refine (awake_any w).mono ?_
  rintro e w1 ⟨rfl, hb1⟩
  go_wp2_with fail
  refine (valid_any a w1 (by unfold maxLen; omega)).mono ?_
  rintro e w2 ⟨rfl, hb2⟩
  have hc2 := hb1.trans (hb2.mono hb1.size)
  rw [Hc.out, Ha.out]
  go_wp2_with fail
  refine (valid_any b w2 (by unfold maxLen; omega)).mono ?_
  rintro e w3 ⟨rfl, hb3⟩
  have hc3 := hc2.trans (hb3.mono hc2.size)
  rw [Hd.out]
  go_wp2_with fail
  refine (valid_any (a ++ b) w3 hab).mono ?_
  rintro e w4 ⟨rfl, hb4⟩
  have hc4 := hc3.trans (hb4.mono hc3.size)
  rw [Hj.out]
  go_wp2_with fail
  refine (num_any _ w4).mono ?_
  rintro e w5 ⟨rfl, rfl⟩
  go_wp2_with fail
  refine (num_any _ w4).mono ?_
  rintro e w5 ⟨rfl, rfl⟩
  go_wp2_with fail
  refine (num_any _ w4).mono ?_
  rintro e w5 ⟨rfl, rfl⟩
  go_wp2_with fail
  refine (num_any _ w4).mono ?_
  rintro e w5 ⟨rfl, rfl⟩
  go_wp2_with fail
  refine (width_any (a ++ b) w4 hab).mono ?_
  rintro e w6 ⟨rfl, hb6⟩
  have hc6 := hc4.trans (hb6.mono hc4.size)
  rw [Hw.out]
  go_wp2_with fail
  refine (width_any a w6 (by unfold maxLen; omega)).mono ?_
  rintro e w7 ⟨rfl, hb7⟩
  have hc7 := hc6.trans (hb7.mono hc6.size)
  generalize widthFrom a 0 = wa at *
  go_wp2_with fail
  refine (width_any b w7 (by unfold maxLen; omega)).mono ?_
  rintro e w8 ⟨rfl, hb8⟩
  have hc8 := hc7.trans (hb8.mono hc7.size)
  generalize widthFrom b 0 = wb at *
  go_wp2_with fail
  refine (width_any a w8 (by unfold maxLen; omega)).mono ?_
  rintro e w9 ⟨rfl, hb9⟩
  have hc9 := hc8.trans (hb9.mono hc8.size)
  go_wp2_with fail
  go_ret
  exact ⟨ret_bool (decide_eq_true (width_le a a.size 0 (by omega) (by omega))), hc9⟩

theorem unijoins_any (a b : ByteArray) (w : World) (ha : a.size ≤ 140737488351232) (hb : b.size ≤ 140737488351232) :
    Calls Try.prog 7 #[.string a, .string b] w fun e w' => e = .returned (.bool true) ∧ Below w.heap.size w w' := by
  cases h : badFrom a 0 with
  | some p => exact unijoins_bad a b p w ha hb h
  | none =>
    cases h' : badFrom b 0 with
    | some p => exact unijoins_no a b p w ha hb h h'
    | none => exact unijoins_yes a b w ha hb h h'

end Uni
end Go.Proofs.Ytpolgmjikelmiaa
