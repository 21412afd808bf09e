/-
  The contracts of the functions over one byte, and of the machine's three steps.
-/
import Derived.Test.YtggibhlmnfodaaaDoorRows
import Derived.Test.YtggibhlmnfodaaaDoorNumPlain
import Derived.WalkKit
import Derived.WalkSpells
import Derived.WalkLawsBesides
import Derived.Lib.Hide
import Derived.Deep.QuietTactic
import Derived.BigQuiet
import Derived.Below
namespace Go.Proofs.YtggibhlmnfodaaaDoor
namespace Num
open Go.RowKit

theorem ret_bool {a b : Bool} (h : a = b) : Ending.returned (.bool a) = .returned (.bool b) := by rw [h]
theorem ret_int {k : IntKind} {a b : Int} (h : a = b) : Ending.returned (.int k a) = .returned (.int k b) := by rw [h]

/-- A byte's test, as the walk has it. -/
theorem bt (c d : UInt8) (n : Nat) (h : d.toNat = n) : ((c.toNat : Int) == (n : Int)) = decide (c = d) := by
  rw [Bool.eq_iff_iff, beq_iff_eq, decide_eq_true_eq, ← UInt8.toNat_inj, h]
  omega
theorem t48 (c : UInt8) : ((c.toNat : Int) == 48) = decide (c = 48) := bt c 48 48 rfl
theorem t95 (c : UInt8) : ((c.toNat : Int) == 95) = decide (c = 95) := bt c 95 95 rfl
theorem t46 (c : UInt8) : ((c.toNat : Int) == 46) = decide (c = 46) := bt c 46 46 rfl
theorem t110 (c : UInt8) : ((c.toNat : Int) == 110) = decide (c = 110) := bt c 110 110 rfl
theorem t101 (c : UInt8) : ((c.toNat : Int) == 101) = decide (c = 101) := bt c 101 101 rfl
theorem t43 (c : UInt8) : ((c.toNat : Int) == 43) = decide (c = 43) := bt c 43 43 rfl
theorem t45 (c : UInt8) : ((c.toNat : Int) == 45) = decide (c = 45) := bt c 45 45 rfl
theorem t120 (c : UInt8) : ((c.toNat : Int) == 120) = decide (c = 120) := bt c 120 120 rfl
theorem t111 (c : UInt8) : ((c.toNat : Int) == 111) = decide (c = 111) := bt c 111 111 rfl
theorem t98 (c : UInt8) : ((c.toNat : Int) == 98) = decide (c = 98) := bt c 98 98 rfl
theorem n48 (c : UInt8) : ((c.toNat : Int) != 48) = !decide (c = 48) := by rw [bne, t48]
theorem r0 (c : UInt8) : ((radN c : Int) != 0) = decide (radN c ≠ 0) := by
  rw [Bool.eq_iff_iff, bne_iff_ne, decide_eq_true_eq]; omega

theorem be (c d : UInt8) (n : Nat) (h : d.toNat = n) : ((c.toNat : Int) = (n : Int)) = (c = d) := by
  rw [← UInt8.toNat_inj, h]; exact propext (by omega)
theorem e43 (c : UInt8) : ((c.toNat : Int) = 43) = (c = 43) := be c 43 43 rfl
theorem e45 (c : UInt8) : ((c.toNat : Int) = 45) = (c = 45) := be c 45 45 rfl
theorem e46 (c : UInt8) : ((c.toNat : Int) = 46) = (c = 46) := be c 46 46 rfl
theorem e48 (c : UInt8) : ((c.toNat : Int) = 48) = (c = 48) := be c 48 48 rfl
theorem e95 (c : UInt8) : ((c.toNat : Int) = 95) = (c = 95) := be c 95 95 rfl
theorem e101 (c : UInt8) : ((c.toNat : Int) = 101) = (c = 101) := be c 101 101 rfl
theorem e110 (c : UInt8) : ((c.toNat : Int) = 110) = (c = 110) := be c 110 110 rfl
theorem stt (st n : Nat) : ((st : Int) == (n : Int)) = decide (st = n) := by rw [Bool.eq_iff_iff, beq_iff_eq, decide_eq_true_eq]; omega
theorem s0 (st : Nat) : ((st : Int) == 0) = decide (st = 0) := stt st 0
theorem s1 (st : Nat) : ((st : Int) == 1) = decide (st = 1) := stt st 1
theorem s2 (st : Nat) : ((st : Int) == 2) = decide (st = 2) := stt st 2
theorem s3 (st : Nat) : ((st : Int) == 3) = decide (st = 3) := stt st 3
theorem s4 (st : Nat) : ((st : Int) == 4) = decide (st = 4) := stt st 4
theorem s5 (st : Nat) : ((st : Int) == 5) = decide (st = 5) := stt st 5
theorem s6 (st : Nat) : ((st : Int) == 6) = decide (st = 6) := stt st 6
theorem s7 (st : Nat) : ((st : Int) == 7) = decide (st = 7) := stt st 7
theorem s8 (st : Nat) : ((st : Int) == 8) = decide (st = 8) := stt st 8
theorem s9 (st : Nat) : ((st : Int) == 9) = decide (st = 9) := stt st 9
theorem s10 (st : Nat) : ((st : Int) == 10) = decide (st = 10) := stt st 10
theorem s11 (st : Nat) : ((st : Int) == 11) = decide (st = 11) := stt st 11
theorem s12 (st : Nat) : ((st : Int) == 12) = decide (st = 12) := stt st 12
theorem s13 (st : Nat) : ((st : Int) == 13) = decide (st = 13) := stt st 13
theorem s14 (st : Nat) : ((st : Int) == 14) = decide (st = 14) := stt st 14
theorem s15 (st : Nat) : ((st : Int) == 15) = decide (st = 15) := stt st 15
theorem s16 (st : Nat) : ((st : Int) == 16) = decide (st = 16) := stt st 16

theorem digit_any (c : UInt8) (w : World) : Calls Tryd.prog 63 #[.int .u8 (c.toNat : Int)] w fun e w' => e = .returned (.bool (digN c)) ∧ w = w' := by
  go_enter Tryd.func63, Tryd.ntmps63
  go_wp2
  all_goals go_ret
  all_goals exact ⟨ret_bool (by unfold digN; rw [Bool.eq_iff_iff]; simp; omega), rfl⟩

theorem low_up (c : UInt8) (h : 65 ≤ c.toNat ∧ c.toNat ≤ 90) : (lowN c).toNat = c.toNat + 32 := by
  rw [lowN, if_pos h, UInt8.toNat_add]
  show (c.toNat + 32) % 256 = _
  omega
theorem low_id (c : UInt8) (h : ¬ (65 ≤ c.toNat ∧ c.toNat ≤ 90)) : lowN c = c := by rw [lowN, if_neg h]

theorem lower_any (c : UInt8) (w : World) : Calls Tryd.prog 59 #[.int .u8 (c.toNat : Int)] w fun e w' => e = .returned (.int .u8 ((lowN c).toNat : Int)) ∧ w = w' := by
  go_enter Tryd.func59, Tryd.ntmps59
  go_wp2
  all_goals go_ret
  · exact ⟨ret_int (by rw [low_up c (by omega)]; omega), rfl⟩
  · exact ⟨ret_int (by rw [low_id c (by omega)]), rfl⟩
  · exact ⟨ret_int (by rw [low_id c (by omega)]), rfl⟩

theorem radix_any (c : UInt8) (w : World) : Calls Tryd.prog 62 #[.int .u8 (c.toNat : Int)] w fun e w' => e = .returned (.int .i64 (radN c)) ∧ w = w' := by
  go_enter Tryd.func62, Tryd.ntmps62
  go_wp2
  all_goals go_ret
  all_goals exact ⟨ret_int (by simp only [t120, t111, t98, decide_eq_true_eq, decide_eq_false_iff_not] at *; simp [radN, *]), rfl⟩

/-- What the program says that a byte is worth. -/
def valP (c : UInt8) : Nat := if valN c < 16 then valN c else 16
theorem valP_lt (c : UInt8) (b : Nat) (hb : b ≤ 16) : (valP c < b) = (valN c < b) := by
  unfold valP
  split <;> simp <;> omega
theorem valP_le (c : UInt8) : valP c ≤ 16 := by unfold valP; split <;> omega

theorem low_val (c : UInt8) : valN (lowN c) = valN c := by
  by_cases h : 65 ≤ c.toNat ∧ c.toNat ≤ 90
  · unfold valN
    rw [low_up c h]
    repeat' split
    all_goals omega
  · rw [low_id c h]

theorem value_any (c : UInt8) (w : World) : Calls Tryd.prog 61 #[.int .u8 (c.toNat : Int)] w fun e w' => e = .returned (.int .i64 (valP c)) ∧ w = w' := by
  have hb := (lowN c).toNat_lt
  have H := Lib.hid (low_val c)
  go_enter Tryd.func61, Tryd.ntmps61
  go_wp2_with fail
  refine (lower_any c _).mono ?_
  rintro e w1 ⟨rfl, rfl⟩
  go_wp2_with fail
  refine (digit_any (lowN c) _).mono ?_
  rintro e w1 ⟨rfl, rfl⟩
  cases hd : digN (lowN c)
  · have Hd := Lib.hid hd; clear hd
    by_cases h1 : (97 : Int) ≤ ((lowN c).toNat : Int)
    · by_cases h2 : ((lowN c).toNat : Int) ≤ 102
      · go_wp2
        go_ret
        exact ⟨ret_int (by
          have e : valN (lowN c) = (lowN c).toNat - 87 := by unfold valN; rw [if_neg (by omega), if_pos (by omega)]
          rw [valP, ← H.out, e, if_pos (by omega)]; omega), rfl⟩
      · go_wp2
        go_ret
        exact ⟨ret_int (by rw [valP, ← H.out]; unfold valN; have := Hd.out; simp only [digN, decide_eq_false_iff_not] at this; repeat' split
                           all_goals omega), rfl⟩
    · go_wp2
      go_ret
      exact ⟨ret_int (by
        have := Hd.out
        have h3 : ¬ (65 ≤ (lowN c).toNat ∧ (lowN c).toNat ≤ 90) := by
          by_cases h : 65 ≤ c.toNat ∧ c.toNat ≤ 90
          · rw [low_up c h]; omega
          · rw [low_id c h]; exact h
        simp only [digN, decide_eq_false_iff_not] at this
        rw [valP, ← H.out]; unfold valN; repeat' split
        all_goals omega), rfl⟩
  · have Hd := Lib.hid hd; clear hd
    have h1 : (48 : Int) ≤ ((lowN c).toNat : Int) := by have := Hd.out; simp only [digN, decide_eq_true_eq] at this; omega
    have h2 : ((lowN c).toNat : Int) ≤ 57 := by have := Hd.out; simp only [digN, decide_eq_true_eq] at this; omega
    go_wp2
    go_ret
    exact ⟨ret_int (by
      have e : valN (lowN c) = (lowN c).toNat - 48 := by unfold valN; rw [if_pos (by omega)]
      rw [valP, ← H.out, e, if_pos (by omega)]; omega), rfl⟩


set_option maxHeartbeats 1000000 in
theorem bas_any (st : Nat) (base c : UInt8) (w : World) :
    Calls Tryd.prog 56 #[.int .i64 st, .int .u8 (base.toNat : Int), .int .u8 (c.toNat : Int)] w fun e w' => e = .returned (.int .i64 (basN st base c)) ∧ w = w' := by
  have hv := valP_le c
  have hr := rad_le base
  have hcmp := Lib.hid (valP_lt c (radN base) hr)
  go_enter Tryd.func56, Tryd.ntmps56
  go_wp2_with (first | (go_at_call 61; refine (value_any c _).mono ?_; rintro e w1 ⟨rfl, rfl⟩) | (go_at_call 62; refine (radix_any base _).mono ?_; rintro e w1 ⟨rfl, rfl⟩))
  all_goals go_ret
  all_goals exact ⟨ret_int (by
    have q := hcmp.out
    simp only [s12, s13, s14, t95, t110, q, decide_eq_true_eq, decide_eq_false_iff_not] at *
    simp [basN, *]), rfl⟩

set_option maxHeartbeats 1000000 in
theorem pow_any (st : Nat) (c : UInt8) (w : World) :
    Calls Tryd.prog 57 #[.int .i64 st, .int .u8 (c.toNat : Int)] w fun e w' => e = .returned (.int .i64 (powN st c)) ∧ w = w' := by
  go_enter Tryd.func57, Tryd.ntmps57
  go_wp2_with (go_at_call 63; refine (digit_any c _).mono ?_; rintro e w1 ⟨rfl, rfl⟩)
  all_goals go_ret
  all_goals exact ⟨ret_int (by
    simp only [s8, s9, s10, s11, t95, t43, t45, e43, decide_eq_true_eq, decide_eq_false_iff_not] at *
    simp_all [powN]), rfl⟩


set_option maxHeartbeats 1000000 in
set_option maxRecDepth 100000 in
theorem man_0 (c : UInt8) (w : World) :
    Calls Tryd.prog 58 #[.int .i64 0, .int .u8 (c.toNat : Int)] w fun e w' => e = .returned (.int .i64 (manN 0 c)) ∧ w = w' := by
  go_enter Tryd.func58, Tryd.ntmps58
  go_wp2_with (first | (go_at_call 63; refine (digit_any c _).mono ?_; rintro e w1 ⟨rfl, rfl⟩) | (go_at_call 59; refine (lower_any c _).mono ?_; rintro e w1 ⟨rfl, rfl⟩) | (go_at_call 62; refine (radix_any (lowN c) _).mono ?_; rintro e w1 ⟨rfl, rfl⟩))
  all_goals go_ret
  all_goals exact ⟨ret_int (by
    try simp only [t48, t46, decide_eq_true_eq, decide_eq_false_iff_not] at *
    simp_all [manN]), rfl⟩

set_option maxHeartbeats 1000000 in
set_option maxRecDepth 100000 in
theorem man_1 (c : UInt8) (w : World) :
    Calls Tryd.prog 58 #[.int .i64 1, .int .u8 (c.toNat : Int)] w fun e w' => e = .returned (.int .i64 (manN 1 c)) ∧ w = w' := by
  go_enter Tryd.func58, Tryd.ntmps58
  go_wp2_with (first | (go_at_call 63; refine (digit_any c _).mono ?_; rintro e w1 ⟨rfl, rfl⟩) | (go_at_call 59; refine (lower_any c _).mono ?_; rintro e w1 ⟨rfl, rfl⟩) | (go_at_call 62; refine (radix_any (lowN c) _).mono ?_; rintro e w1 ⟨rfl, rfl⟩))
  all_goals go_ret
  all_goals exact ⟨ret_int (by
    try simp only [t46, t95, t110, t101, r0, decide_eq_true_eq, decide_eq_false_iff_not] at *
    simp_all [manN]), rfl⟩

set_option maxHeartbeats 1000000 in
set_option maxRecDepth 100000 in
theorem man_2 (c : UInt8) (w : World) :
    Calls Tryd.prog 58 #[.int .i64 2, .int .u8 (c.toNat : Int)] w fun e w' => e = .returned (.int .i64 (manN 2 c)) ∧ w = w' := by
  go_enter Tryd.func58, Tryd.ntmps58
  go_wp2_with (first | (go_at_call 63; refine (digit_any c _).mono ?_; rintro e w1 ⟨rfl, rfl⟩) | (go_at_call 59; refine (lower_any c _).mono ?_; rintro e w1 ⟨rfl, rfl⟩) | (go_at_call 62; refine (radix_any (lowN c) _).mono ?_; rintro e w1 ⟨rfl, rfl⟩))
  all_goals go_ret
  all_goals exact ⟨ret_int (by
    try simp only [t46, t95, t110, t101, decide_eq_true_eq, decide_eq_false_iff_not] at *
    simp_all [manN]), rfl⟩

set_option maxHeartbeats 1000000 in
set_option maxRecDepth 100000 in
theorem man_3 (c : UInt8) (w : World) :
    Calls Tryd.prog 58 #[.int .i64 3, .int .u8 (c.toNat : Int)] w fun e w' => e = .returned (.int .i64 (manN 3 c)) ∧ w = w' := by
  go_enter Tryd.func58, Tryd.ntmps58
  go_wp2_with (first | (go_at_call 63; refine (digit_any c _).mono ?_; rintro e w1 ⟨rfl, rfl⟩) | (go_at_call 59; refine (lower_any c _).mono ?_; rintro e w1 ⟨rfl, rfl⟩) | (go_at_call 62; refine (radix_any (lowN c) _).mono ?_; rintro e w1 ⟨rfl, rfl⟩))
  all_goals go_ret
  all_goals exact ⟨ret_int (by
    try simp only [t48, t46, t95, t110, t101, e95, r0, decide_eq_true_eq, decide_eq_false_iff_not] at *
    simp_all [manN]), rfl⟩

set_option maxHeartbeats 1000000 in
set_option maxRecDepth 100000 in
theorem man_4 (c : UInt8) (w : World) :
    Calls Tryd.prog 58 #[.int .i64 4, .int .u8 (c.toNat : Int)] w fun e w' => e = .returned (.int .i64 (manN 4 c)) ∧ w = w' := by
  go_enter Tryd.func58, Tryd.ntmps58
  go_wp2_with (first | (go_at_call 63; refine (digit_any c _).mono ?_; rintro e w1 ⟨rfl, rfl⟩) | (go_at_call 59; refine (lower_any c _).mono ?_; rintro e w1 ⟨rfl, rfl⟩) | (go_at_call 62; refine (radix_any (lowN c) _).mono ?_; rintro e w1 ⟨rfl, rfl⟩))
  all_goals go_ret
  all_goals exact ⟨ret_int (by
    try simp only [t48, t46, t95, t110, t101, e95, r0, decide_eq_true_eq, decide_eq_false_iff_not] at *
    simp_all [manN]), rfl⟩

set_option maxHeartbeats 1000000 in
set_option maxRecDepth 100000 in
theorem man_5 (c : UInt8) (w : World) :
    Calls Tryd.prog 58 #[.int .i64 5, .int .u8 (c.toNat : Int)] w fun e w' => e = .returned (.int .i64 (manN 5 c)) ∧ w = w' := by
  cases h95 : ((c.toNat : Int) == 95)
  all_goals
   go_enter Tryd.func58, Tryd.ntmps58
   go_wp2_with (first | (go_at_call 63; refine (digit_any c _).mono ?_; rintro e w1 ⟨rfl, rfl⟩) | (go_at_call 59; refine (lower_any c _).mono ?_; rintro e w1 ⟨rfl, rfl⟩) | (go_at_call 62; refine (radix_any (lowN c) _).mono ?_; rintro e w1 ⟨rfl, rfl⟩))
   all_goals go_ret
   all_goals exact ⟨ret_int (by
    try simp only [t95, t101, decide_eq_true_eq, decide_eq_false_iff_not] at *
    simp_all [manN]), rfl⟩

set_option maxHeartbeats 1000000 in
set_option maxRecDepth 100000 in
theorem man_6 (c : UInt8) (w : World) :
    Calls Tryd.prog 58 #[.int .i64 6, .int .u8 (c.toNat : Int)] w fun e w' => e = .returned (.int .i64 (manN 6 c)) ∧ w = w' := by
  go_enter Tryd.func58, Tryd.ntmps58
  go_wp2_with (first | (go_at_call 63; refine (digit_any c _).mono ?_; rintro e w1 ⟨rfl, rfl⟩) | (go_at_call 59; refine (lower_any c _).mono ?_; rintro e w1 ⟨rfl, rfl⟩) | (go_at_call 62; refine (radix_any (lowN c) _).mono ?_; rintro e w1 ⟨rfl, rfl⟩))
  all_goals go_ret
  all_goals exact ⟨ret_int (by
    try simp only [t101, e95, decide_eq_true_eq, decide_eq_false_iff_not] at *
    simp_all [manN]), rfl⟩

set_option maxHeartbeats 1000000 in
set_option maxRecDepth 100000 in
theorem man_7 (c : UInt8) (w : World) :
    Calls Tryd.prog 58 #[.int .i64 7, .int .u8 (c.toNat : Int)] w fun e w' => e = .returned (.int .i64 (manN 7 c)) ∧ w = w' := by
  go_enter Tryd.func58, Tryd.ntmps58
  go_wp2_with (first | (go_at_call 63; refine (digit_any c _).mono ?_; rintro e w1 ⟨rfl, rfl⟩) | (go_at_call 59; refine (lower_any c _).mono ?_; rintro e w1 ⟨rfl, rfl⟩) | (go_at_call 62; refine (radix_any (lowN c) _).mono ?_; rintro e w1 ⟨rfl, rfl⟩))
  all_goals go_ret
  all_goals exact ⟨ret_int (by
    try simp only [t48, t46, t95, t110, t101, e95, r0, decide_eq_true_eq, decide_eq_false_iff_not] at *
    simp_all [manN]), rfl⟩

theorem man_rest (st : Nat) (c : UInt8) (w : World) (h : 8 ≤ st) :
    Calls Tryd.prog 58 #[.int .i64 st, .int .u8 (c.toNat : Int)] w fun e w' => e = .returned (.int .i64 (manN st c)) ∧ w = w' := by
  have f0 : ((st : Int) == 0) = false := by rw [s0]; simp; omega
  have f1 : ((st : Int) == 1) = false := by rw [s1]; simp; omega
  have f2 : ((st : Int) == 2) = false := by rw [s2]; simp; omega
  have f3 : ((st : Int) == 3) = false := by rw [s3]; simp; omega
  have f4 : ((st : Int) == 4) = false := by rw [s4]; simp; omega
  have f5 : ((st : Int) == 5) = false := by rw [s5]; simp; omega
  have f6 : ((st : Int) == 6) = false := by rw [s6]; simp; omega
  have f7 : ((st : Int) == 7) = false := by rw [s7]; simp; omega
  go_enter Tryd.func58, Tryd.ntmps58
  go_wp2_with fail
  go_ret
  refine ⟨ret_int ?_, rfl⟩
  have e : manN st c = 16 := by
    unfold manN
    rw [if_neg (by omega), if_neg (by omega), if_neg (by omega), if_neg (by omega), if_neg (by omega), if_neg (by omega), if_neg (by omega), if_neg (by omega), if_neg (by omega), if_neg (by omega), if_neg (by omega)]
  rw [e]; rfl

theorem man_any (st : Nat) (c : UInt8) (w : World) :
    Calls Tryd.prog 58 #[.int .i64 st, .int .u8 (c.toNat : Int)] w fun e w' => e = .returned (.int .i64 (manN st c)) ∧ w = w' := by
  rcases (by omega : st = 0 ∨ st = 1 ∨ st = 2 ∨ st = 3 ∨ st = 4 ∨ st = 5 ∨ st = 6 ∨ st = 7 ∨ 8 ≤ st) with rfl | rfl | rfl | rfl | rfl | rfl | rfl | rfl | h
  · exact man_0 c w
  · exact man_1 c w
  · exact man_2 c w
  · exact man_3 c w
  · exact man_4 c w
  · exact man_5 c w
  · exact man_6 c w
  · exact man_7 c w
  · exact man_rest st c w h

end Num
end Go.Proofs.YtggibhlmnfodaaaDoor
