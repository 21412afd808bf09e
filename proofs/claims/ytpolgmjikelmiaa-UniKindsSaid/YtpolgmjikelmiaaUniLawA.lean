/-
  The laws on what a character is good for: the walks.
-/
import Derived.Test.YtpolgmjikelmiaaUniAwake
namespace Go.Proofs.Ytpolgmjikelmiaa
namespace Uni
open Go.RowKit

set_option maxHeartbeats 1000000 in
theorem kinds_start (r : Int) (w : World) (h0 : 0 ≤ r) (h1 : r ≤ 1114111) (Hp : Hid (partB r = true)) (He : Hid (endsB r = false)) (Hb : Hid (blankB r = false)) (Hs : Hid (startB r = true)) :
    Calls Try.prog 6 #[.int .i64 r] w fun e w' => e = .returned (.bool true) ∧ Below w.heap.size w w' := by
  have hc0 := Below.refl w.heap.size w
  go_enter Try.func6, Try.ntmps6
  go_wp2_with fail
  refine (awake_any w).mono ?_
  rintro e w1 ⟨rfl, hb1⟩
  have hc1 := hc0.trans (hb1.mono hc0.size)
  go_wp2_with fail
  refine (part_any r w1).mono ?_
  rintro e w2 ⟨rfl, hb2⟩
  rw [Hp.out]
  have hc2 := hc1.trans (hb2.mono hc1.size)
  go_wp2_with fail
  refine (ends_any r w2).mono ?_
  rintro e w3 ⟨rfl, hb3⟩
  rw [He.out]
  have hc3 := hc2.trans (hb3.mono hc2.size)
  go_wp2_with fail
  refine (blank_any r w3).mono ?_
  rintro e w4 ⟨rfl, hb4⟩
  rw [Hb.out]
  have hc4 := hc3.trans (hb4.mono hc3.size)
  go_wp2_with fail
  refine (start_any r w4).mono ?_
  rintro e w5 ⟨rfl, hb5⟩
  rw [Hs.out]
  have hc5 := hc4.trans (hb5.mono hc4.size)
  go_wp2_with fail
  refine (part_any r w5).mono ?_
  rintro e w6 ⟨rfl, hb6⟩
  rw [Hp.out]
  have hc6 := hc5.trans (hb6.mono hc5.size)
  go_wp2_with fail
  go_ret
  exact ⟨rfl, hc6⟩

set_option maxHeartbeats 1000000 in
theorem kinds_part (r : Int) (w : World) (h0 : 0 ≤ r) (h1 : r ≤ 1114111) (Hp : Hid (partB r = true)) (He : Hid (endsB r = false)) (Hb : Hid (blankB r = false)) (Hs : Hid (startB r = false)) :
    Calls Try.prog 6 #[.int .i64 r] w fun e w' => e = .returned (.bool true) ∧ Below w.heap.size w w' := by
  have hc0 := Below.refl w.heap.size w
  go_enter Try.func6, Try.ntmps6
  go_wp2_with fail
  refine (awake_any w).mono ?_
  rintro e w1 ⟨rfl, hb1⟩
  have hc1 := hc0.trans (hb1.mono hc0.size)
  go_wp2_with fail
  refine (part_any r w1).mono ?_
  rintro e w2 ⟨rfl, hb2⟩
  rw [Hp.out]
  have hc2 := hc1.trans (hb2.mono hc1.size)
  go_wp2_with fail
  refine (ends_any r w2).mono ?_
  rintro e w3 ⟨rfl, hb3⟩
  rw [He.out]
  have hc3 := hc2.trans (hb3.mono hc2.size)
  go_wp2_with fail
  refine (blank_any r w3).mono ?_
  rintro e w4 ⟨rfl, hb4⟩
  rw [Hb.out]
  have hc4 := hc3.trans (hb4.mono hc3.size)
  go_wp2_with fail
  refine (start_any r w4).mono ?_
  rintro e w5 ⟨rfl, hb5⟩
  rw [Hs.out]
  have hc5 := hc4.trans (hb5.mono hc4.size)
  go_wp2_with fail
  go_ret
  exact ⟨rfl, hc5⟩

set_option maxHeartbeats 1000000 in
theorem kinds_ends (r : Int) (w : World) (h0 : 0 ≤ r) (h1 : r ≤ 1114111) (Hp : Hid (partB r = false)) (He : Hid (endsB r = true)) (Hb : Hid (blankB r = false)) (Hs : Hid (startB r = false)) :
    Calls Try.prog 6 #[.int .i64 r] w fun e w' => e = .returned (.bool true) ∧ Below w.heap.size w w' := by
  have hc0 := Below.refl w.heap.size w
  go_enter Try.func6, Try.ntmps6
  go_wp2_with fail
  refine (awake_any w).mono ?_
  rintro e w1 ⟨rfl, hb1⟩
  have hc1 := hc0.trans (hb1.mono hc0.size)
  go_wp2_with fail
  refine (part_any r w1).mono ?_
  rintro e w2 ⟨rfl, hb2⟩
  rw [Hp.out]
  have hc2 := hc1.trans (hb2.mono hc1.size)
  go_wp2_with fail
  refine (ends_any r w2).mono ?_
  rintro e w3 ⟨rfl, hb3⟩
  rw [He.out]
  have hc3 := hc2.trans (hb3.mono hc2.size)
  go_wp2_with fail
  refine (blank_any r w3).mono ?_
  rintro e w4 ⟨rfl, hb4⟩
  rw [Hb.out]
  have hc4 := hc3.trans (hb4.mono hc3.size)
  go_wp2_with fail
  refine (start_any r w4).mono ?_
  rintro e w5 ⟨rfl, hb5⟩
  rw [Hs.out]
  have hc5 := hc4.trans (hb5.mono hc4.size)
  go_wp2_with fail
  go_ret
  exact ⟨rfl, hc5⟩

set_option maxHeartbeats 1000000 in
theorem kinds_blank (r : Int) (w : World) (h0 : 0 ≤ r) (h1 : r ≤ 1114111) (Hp : Hid (partB r = false)) (He : Hid (endsB r = false)) (Hb : Hid (blankB r = true)) (Hs : Hid (startB r = false)) :
    Calls Try.prog 6 #[.int .i64 r] w fun e w' => e = .returned (.bool true) ∧ Below w.heap.size w w' := by
  have hc0 := Below.refl w.heap.size w
  go_enter Try.func6, Try.ntmps6
  go_wp2_with fail
  refine (awake_any w).mono ?_
  rintro e w1 ⟨rfl, hb1⟩
  have hc1 := hc0.trans (hb1.mono hc0.size)
  go_wp2_with fail
  refine (part_any r w1).mono ?_
  rintro e w2 ⟨rfl, hb2⟩
  rw [Hp.out]
  have hc2 := hc1.trans (hb2.mono hc1.size)
  go_wp2_with fail
  refine (ends_any r w2).mono ?_
  rintro e w3 ⟨rfl, hb3⟩
  rw [He.out]
  have hc3 := hc2.trans (hb3.mono hc2.size)
  go_wp2_with fail
  refine (blank_any r w3).mono ?_
  rintro e w4 ⟨rfl, hb4⟩
  rw [Hb.out]
  have hc4 := hc3.trans (hb4.mono hc3.size)
  go_wp2_with fail
  refine (start_any r w4).mono ?_
  rintro e w5 ⟨rfl, hb5⟩
  rw [Hs.out]
  have hc5 := hc4.trans (hb5.mono hc4.size)
  go_wp2_with fail
  go_ret
  exact ⟨rfl, hc5⟩

set_option maxHeartbeats 1000000 in
theorem kinds_none (r : Int) (w : World) (h0 : 0 ≤ r) (h1 : r ≤ 1114111) (Hp : Hid (partB r = false)) (He : Hid (endsB r = false)) (Hb : Hid (blankB r = false)) (Hs : Hid (startB r = false)) :
    Calls Try.prog 6 #[.int .i64 r] w fun e w' => e = .returned (.bool true) ∧ Below w.heap.size w w' := by
  have hc0 := Below.refl w.heap.size w
  go_enter Try.func6, Try.ntmps6
  go_wp2_with fail
  refine (awake_any w).mono ?_
  rintro e w1 ⟨rfl, hb1⟩
  have hc1 := hc0.trans (hb1.mono hc0.size)
  go_wp2_with fail
  refine (part_any r w1).mono ?_
  rintro e w2 ⟨rfl, hb2⟩
  rw [Hp.out]
  have hc2 := hc1.trans (hb2.mono hc1.size)
  go_wp2_with fail
  refine (ends_any r w2).mono ?_
  rintro e w3 ⟨rfl, hb3⟩
  rw [He.out]
  have hc3 := hc2.trans (hb3.mono hc2.size)
  go_wp2_with fail
  refine (blank_any r w3).mono ?_
  rintro e w4 ⟨rfl, hb4⟩
  rw [Hb.out]
  have hc4 := hc3.trans (hb4.mono hc3.size)
  go_wp2_with fail
  refine (start_any r w4).mono ?_
  rintro e w5 ⟨rfl, hb5⟩
  rw [Hs.out]
  have hc5 := hc4.trans (hb5.mono hc4.size)
  go_wp2_with fail
  go_ret
  exact ⟨rfl, hc5⟩

set_option maxHeartbeats 1000000 in
theorem kinds_low (r : Int) (w : World) (h0 : ¬ 0 ≤ r) (Hp : Hid (partB r = false)) (He : Hid (endsB r = false)) (Hb : Hid (blankB r = false)) (Hs : Hid (startB r = false)) :
    Calls Try.prog 6 #[.int .i64 r] w fun e w' => e = .returned (.bool true) ∧ Below w.heap.size w w' := by
  have hc0 := Below.refl w.heap.size w
  go_enter Try.func6, Try.ntmps6
  go_wp2_with fail
  refine (awake_any w).mono ?_
  rintro e w1 ⟨rfl, hb1⟩
  have hc1 := hc0.trans (hb1.mono hc0.size)
  go_wp2_with fail
  refine (part_any r w1).mono ?_
  rintro e w2 ⟨rfl, hb2⟩
  rw [Hp.out]
  have hc2 := hc1.trans (hb2.mono hc1.size)
  go_wp2_with fail
  refine (ends_any r w2).mono ?_
  rintro e w3 ⟨rfl, hb3⟩
  rw [He.out]
  have hc3 := hc2.trans (hb3.mono hc2.size)
  go_wp2_with fail
  refine (blank_any r w3).mono ?_
  rintro e w4 ⟨rfl, hb4⟩
  rw [Hb.out]
  have hc4 := hc3.trans (hb4.mono hc3.size)
  go_wp2_with fail
  refine (start_any r w4).mono ?_
  rintro e w5 ⟨rfl, hb5⟩
  rw [Hs.out]
  have hc5 := hc4.trans (hb5.mono hc4.size)
  go_wp2_with fail
  go_ret
  exact ⟨rfl, hc5⟩

set_option maxHeartbeats 1000000 in
theorem kinds_high (r : Int) (w : World) (h0 : 0 ≤ r) (h1 : ¬ r ≤ 1114111) (Hp : Hid (partB r = false)) (He : Hid (endsB r = false)) (Hb : Hid (blankB r = false)) (Hs : Hid (startB r = false)) :
    Calls Try.prog 6 #[.int .i64 r] w fun e w' => e = .returned (.bool true) ∧ Below w.heap.size w w' := by
  have hc0 := Below.refl w.heap.size w
  go_enter Try.func6, Try.ntmps6
  go_wp2_with fail
  refine (awake_any w).mono ?_
  rintro e w1 ⟨rfl, hb1⟩
  have hc1 := hc0.trans (hb1.mono hc0.size)
  go_wp2_with fail
  refine (part_any r w1).mono ?_
  rintro e w2 ⟨rfl, hb2⟩
  rw [Hp.out]
  have hc2 := hc1.trans (hb2.mono hc1.size)
  go_wp2_with fail
  refine (ends_any r w2).mono ?_
  rintro e w3 ⟨rfl, hb3⟩
  rw [He.out]
  have hc3 := hc2.trans (hb3.mono hc2.size)
  go_wp2_with fail
  refine (blank_any r w3).mono ?_
  rintro e w4 ⟨rfl, hb4⟩
  rw [Hb.out]
  have hc4 := hc3.trans (hb4.mono hc3.size)
  go_wp2_with fail
  refine (start_any r w4).mono ?_
  rintro e w5 ⟨rfl, hb5⟩
  rw [Hs.out]
  have hc5 := hc4.trans (hb5.mono hc4.size)
  go_wp2_with fail
  go_ret
  exact ⟨rfl, hc5⟩

theorem unikinds_any (r : Int) (w : World) :
    Calls Try.prog 6 #[.int .i64 r] w fun e w' => e = .returned (.bool true) ∧ Below w.heap.size w w' := by
  cases hs : startB r with
  | true =>
    have hp := start_part r hs
    exact kinds_start r w (part_range r hp).1 (part_range r hp).2 hp (part_ends r hp) (part_blank r hp) hs
  | false =>
    cases hp : partB r with
    | true => exact kinds_part r w (part_range r hp).1 (part_range r hp).2 hp (part_ends r hp) (part_blank r hp) hs
    | false =>
      cases he : endsB r with
      | true => exact kinds_ends r w (ends_range r he).1 (ends_range r he).2 hp he (ends_blank r he) hs
      | false =>
        cases hb : blankB r with
        | true => exact kinds_blank r w (blank_range r hb).1 (blank_range r hb).2 hp he hb hs
        | false =>
          by_cases h0 : 0 ≤ r
          · by_cases h1 : r ≤ 1114111
            · exact kinds_none r w h0 h1 hp he hb hs
            · exact kinds_high r w h0 h1 hp he hb hs
          · exact kinds_low r w h0 hp he hb hs

theorem below_next {w w1 w2 : World} (h : Below w.heap.size w w1) (o : Obj) (n : Nat) (h2 : Below ((w1.alloc o).drewN n).heap.size ((w1.alloc o).drewN n) w2) : Below w.heap.size w w2 :=
  have h1 : Below w.heap.size w ((w1.alloc o).drewN n) := below_drewN (h.alloc h.size o) n
  h1.trans (h2.mono h1.size)

set_option maxHeartbeats 1000000 in
theorem ranges_0 (pick a d : Int) (w : World) (hp : (IntKind.u64.wrap pick).tmod 8 = 0) (hd : (IntKind.u64.wrap a).tmod 26 = d) (h0 : 0 ≤ d) (h1 : d < 26) :
    Calls Try.prog 8 #[.int .i64 pick, .int .i64 a] w fun e w' => e = .returned (.bool true) ∧ Below w.heap.size w w' := by
  have hs := in_block (65 + d) 65 90 (by decide) ⟨by omega, by omega⟩
  have hq := start_part _ hs
  have He := Lib.hid (part_ends _ hq)
  have Hb := Lib.hid (part_blank _ hq)
  have Hs := Lib.hid hs
  have Hq := Lib.hid hq
  clear hs hq
  have Hlo : Hid (startB 64 = false) := Lib.hid (by decide)
  have Hhi : Hid (startB 91 = false) := Lib.hid (by decide)
  go_enter Try.func8, Try.ntmps8
  go_wp2_with fail
  refine (awake_any w).mono ?_
  rintro e w1 ⟨rfl, hb1⟩
  go_wp2_with fail
  go_quiet (fail)
  go_wp2_with fail
  refine (start_any _ _).mono ?_
  rintro e w2 ⟨rfl, hb2⟩
  rw [Hs.out]
  have hc2 := below_next hb1 _ _ hb2
  go_wp2_with fail
  refine (part_any _ _).mono ?_
  rintro e w3 ⟨rfl, hb3⟩
  rw [Hq.out]
  have hc3 := hc2.trans (hb3.mono hc2.size)
  go_wp2_with fail
  refine (ends_any _ _).mono ?_
  rintro e w4 ⟨rfl, hb4⟩
  rw [He.out]
  have hc4 := hc3.trans (hb4.mono hc3.size)
  go_wp2_with fail
  refine (blank_any _ _).mono ?_
  rintro e w5 ⟨rfl, hb5⟩
  rw [Hb.out]
  have hc5 := hc4.trans (hb5.mono hc4.size)
  go_wp2_with fail
  refine (start_any _ _).mono ?_
  rintro e w6 ⟨rfl, hb6⟩
  rw [Hlo.out]
  have hc6 := hc5.trans (hb6.mono hc5.size)
  go_wp2_with fail
  refine (start_any _ _).mono ?_
  rintro e w7 ⟨rfl, hb7⟩
  rw [Hhi.out]
  have hc7 := hc6.trans (hb7.mono hc6.size)
  go_wp2_with fail
  go_ret
  exact ⟨rfl, hc7⟩

set_option maxHeartbeats 1000000 in
theorem ranges_1 (pick a d : Int) (w : World) (hp : (IntKind.u64.wrap pick).tmod 8 = 1) (hd : (IntKind.u64.wrap a).tmod 26 = d) (h0 : 0 ≤ d) (h1 : d < 26) :
    Calls Try.prog 8 #[.int .i64 pick, .int .i64 a] w fun e w' => e = .returned (.bool true) ∧ Below w.heap.size w w' := by
  have hs := in_block (97 + d) 97 122 (by decide) ⟨by omega, by omega⟩
  have hq := start_part _ hs
  have He := Lib.hid (part_ends _ hq)
  have Hb := Lib.hid (part_blank _ hq)
  have Hs := Lib.hid hs
  have Hq := Lib.hid hq
  clear hs hq
  have Hlo : Hid (startB 96 = false) := Lib.hid (by decide)
  have Hhi : Hid (startB 123 = false) := Lib.hid (by decide)
  go_enter Try.func8, Try.ntmps8
  go_wp2_with fail
  refine (awake_any w).mono ?_
  rintro e w1 ⟨rfl, hb1⟩
  go_wp2_with fail
  go_quiet (fail)
  go_wp2_with fail
  refine (start_any _ _).mono ?_
  rintro e w2 ⟨rfl, hb2⟩
  rw [Hs.out]
  have hc2 := below_next hb1 _ _ hb2
  go_wp2_with fail
  refine (part_any _ _).mono ?_
  rintro e w3 ⟨rfl, hb3⟩
  rw [Hq.out]
  have hc3 := hc2.trans (hb3.mono hc2.size)
  go_wp2_with fail
  refine (ends_any _ _).mono ?_
  rintro e w4 ⟨rfl, hb4⟩
  rw [He.out]
  have hc4 := hc3.trans (hb4.mono hc3.size)
  go_wp2_with fail
  refine (blank_any _ _).mono ?_
  rintro e w5 ⟨rfl, hb5⟩
  rw [Hb.out]
  have hc5 := hc4.trans (hb5.mono hc4.size)
  go_wp2_with fail
  refine (start_any _ _).mono ?_
  rintro e w6 ⟨rfl, hb6⟩
  rw [Hlo.out]
  have hc6 := hc5.trans (hb6.mono hc5.size)
  go_wp2_with fail
  refine (start_any _ _).mono ?_
  rintro e w7 ⟨rfl, hb7⟩
  rw [Hhi.out]
  have hc7 := hc6.trans (hb7.mono hc6.size)
  go_wp2_with fail
  go_ret
  exact ⟨rfl, hc7⟩

set_option maxHeartbeats 1000000 in
theorem ranges_2 (pick a d : Int) (w : World) (hp : (IntKind.u64.wrap pick).tmod 8 = 2) (hd : (IntKind.u64.wrap a).tmod 23 = d) (h0 : 0 ≤ d) (h1 : d < 23) :
    Calls Try.prog 8 #[.int .i64 pick, .int .i64 a] w fun e w' => e = .returned (.bool true) ∧ Below w.heap.size w w' := by
  have hs := in_block (192 + d) 192 214 (by decide) ⟨by omega, by omega⟩
  have hq := start_part _ hs
  have He := Lib.hid (part_ends _ hq)
  have Hb := Lib.hid (part_blank _ hq)
  have Hs := Lib.hid hs
  have Hq := Lib.hid hq
  clear hs hq
  have Hlo : Hid (startB 191 = false) := Lib.hid (by decide)
  have Hhi : Hid (startB 215 = false) := Lib.hid (by decide)
  go_enter Try.func8, Try.ntmps8
  go_wp2_with fail
  refine (awake_any w).mono ?_
  rintro e w1 ⟨rfl, hb1⟩
  go_wp2_with fail
  go_quiet (fail)
  go_wp2_with fail
  refine (start_any _ _).mono ?_
  rintro e w2 ⟨rfl, hb2⟩
  rw [Hs.out]
  have hc2 := below_next hb1 _ _ hb2
  go_wp2_with fail
  refine (part_any _ _).mono ?_
  rintro e w3 ⟨rfl, hb3⟩
  rw [Hq.out]
  have hc3 := hc2.trans (hb3.mono hc2.size)
  go_wp2_with fail
  refine (ends_any _ _).mono ?_
  rintro e w4 ⟨rfl, hb4⟩
  rw [He.out]
  have hc4 := hc3.trans (hb4.mono hc3.size)
  go_wp2_with fail
  refine (blank_any _ _).mono ?_
  rintro e w5 ⟨rfl, hb5⟩
  rw [Hb.out]
  have hc5 := hc4.trans (hb5.mono hc4.size)
  go_wp2_with fail
  refine (start_any _ _).mono ?_
  rintro e w6 ⟨rfl, hb6⟩
  rw [Hlo.out]
  have hc6 := hc5.trans (hb6.mono hc5.size)
  go_wp2_with fail
  refine (start_any _ _).mono ?_
  rintro e w7 ⟨rfl, hb7⟩
  rw [Hhi.out]
  have hc7 := hc6.trans (hb7.mono hc6.size)
  go_wp2_with fail
  go_ret
  exact ⟨rfl, hc7⟩

set_option maxHeartbeats 1000000 in
theorem ranges_3 (pick a d : Int) (w : World) (hp : (IntKind.u64.wrap pick).tmod 8 = 3) (hd : (IntKind.u64.wrap a).tmod 27 = d) (h0 : 0 ≤ d) (h1 : d < 27) :
    Calls Try.prog 8 #[.int .i64 pick, .int .i64 a] w fun e w' => e = .returned (.bool true) ∧ Below w.heap.size w w' := by
  have hs := in_block (1488 + d) 1488 1514 (by decide) ⟨by omega, by omega⟩
  have hq := start_part _ hs
  have He := Lib.hid (part_ends _ hq)
  have Hb := Lib.hid (part_blank _ hq)
  have Hs := Lib.hid hs
  have Hq := Lib.hid hq
  clear hs hq
  have Hlo : Hid (startB 1487 = false) := Lib.hid (by decide)
  have Hhi : Hid (startB 1515 = false) := Lib.hid (by decide)
  go_enter Try.func8, Try.ntmps8
  go_wp2_with fail
  refine (awake_any w).mono ?_
  rintro e w1 ⟨rfl, hb1⟩
  go_wp2_with fail
  go_quiet (fail)
  go_wp2_with fail
  refine (start_any _ _).mono ?_
  rintro e w2 ⟨rfl, hb2⟩
  rw [Hs.out]
  have hc2 := below_next hb1 _ _ hb2
  go_wp2_with fail
  refine (part_any _ _).mono ?_
  rintro e w3 ⟨rfl, hb3⟩
  rw [Hq.out]
  have hc3 := hc2.trans (hb3.mono hc2.size)
  go_wp2_with fail
  refine (ends_any _ _).mono ?_
  rintro e w4 ⟨rfl, hb4⟩
  rw [He.out]
  have hc4 := hc3.trans (hb4.mono hc3.size)
  go_wp2_with fail
  refine (blank_any _ _).mono ?_
  rintro e w5 ⟨rfl, hb5⟩
  rw [Hb.out]
  have hc5 := hc4.trans (hb5.mono hc4.size)
  go_wp2_with fail
  refine (start_any _ _).mono ?_
  rintro e w6 ⟨rfl, hb6⟩
  rw [Hlo.out]
  have hc6 := hc5.trans (hb6.mono hc5.size)
  go_wp2_with fail
  refine (start_any _ _).mono ?_
  rintro e w7 ⟨rfl, hb7⟩
  rw [Hhi.out]
  have hc7 := hc6.trans (hb7.mono hc6.size)
  go_wp2_with fail
  go_ret
  exact ⟨rfl, hc7⟩

set_option maxHeartbeats 1000000 in
theorem ranges_4 (pick a d : Int) (w : World) (hp : (IntKind.u64.wrap pick).tmod 8 = 4) (hd : (IntKind.u64.wrap a).tmod 86 = d) (h0 : 0 ≤ d) (h1 : d < 86) :
    Calls Try.prog 8 #[.int .i64 pick, .int .i64 a] w fun e w' => e = .returned (.bool true) ∧ Below w.heap.size w w' := by
  have hs := in_block (12353 + d) 12353 12438 (by decide) ⟨by omega, by omega⟩
  have hq := start_part _ hs
  have He := Lib.hid (part_ends _ hq)
  have Hb := Lib.hid (part_blank _ hq)
  have Hs := Lib.hid hs
  have Hq := Lib.hid hq
  clear hs hq
  have Hlo : Hid (startB 12352 = false) := Lib.hid (by decide)
  have Hhi : Hid (startB 12439 = false) := Lib.hid (by decide)
  go_enter Try.func8, Try.ntmps8
  go_wp2_with fail
  refine (awake_any w).mono ?_
  rintro e w1 ⟨rfl, hb1⟩
  go_wp2_with fail
  go_quiet (fail)
  go_wp2_with fail
  refine (start_any _ _).mono ?_
  rintro e w2 ⟨rfl, hb2⟩
  rw [Hs.out]
  have hc2 := below_next hb1 _ _ hb2
  go_wp2_with fail
  refine (part_any _ _).mono ?_
  rintro e w3 ⟨rfl, hb3⟩
  rw [Hq.out]
  have hc3 := hc2.trans (hb3.mono hc2.size)
  go_wp2_with fail
  refine (ends_any _ _).mono ?_
  rintro e w4 ⟨rfl, hb4⟩
  rw [He.out]
  have hc4 := hc3.trans (hb4.mono hc3.size)
  go_wp2_with fail
  refine (blank_any _ _).mono ?_
  rintro e w5 ⟨rfl, hb5⟩
  rw [Hb.out]
  have hc5 := hc4.trans (hb5.mono hc4.size)
  go_wp2_with fail
  refine (start_any _ _).mono ?_
  rintro e w6 ⟨rfl, hb6⟩
  rw [Hlo.out]
  have hc6 := hc5.trans (hb6.mono hc5.size)
  go_wp2_with fail
  refine (start_any _ _).mono ?_
  rintro e w7 ⟨rfl, hb7⟩
  rw [Hhi.out]
  have hc7 := hc6.trans (hb7.mono hc6.size)
  go_wp2_with fail
  go_ret
  exact ⟨rfl, hc7⟩

set_option maxHeartbeats 1000000 in
theorem ranges_5 (pick a d : Int) (w : World) (hp : (IntKind.u64.wrap pick).tmod 8 = 5) (hd : (IntKind.u64.wrap a).tmod 90 = d) (h0 : 0 ≤ d) (h1 : d < 90) :
    Calls Try.prog 8 #[.int .i64 pick, .int .i64 a] w fun e w' => e = .returned (.bool true) ∧ Below w.heap.size w w' := by
  have hs := in_block (12449 + d) 12449 12538 (by decide) ⟨by omega, by omega⟩
  have hq := start_part _ hs
  have He := Lib.hid (part_ends _ hq)
  have Hb := Lib.hid (part_blank _ hq)
  have Hs := Lib.hid hs
  have Hq := Lib.hid hq
  clear hs hq
  have Hlo : Hid (startB 12448 = false) := Lib.hid (by decide)
  have Hhi : Hid (startB 12539 = false) := Lib.hid (by decide)
  go_enter Try.func8, Try.ntmps8
  go_wp2_with fail
  refine (awake_any w).mono ?_
  rintro e w1 ⟨rfl, hb1⟩
  go_wp2_with fail
  go_quiet (fail)
  go_wp2_with fail
  refine (start_any _ _).mono ?_
  rintro e w2 ⟨rfl, hb2⟩
  rw [Hs.out]
  have hc2 := below_next hb1 _ _ hb2
  go_wp2_with fail
  refine (part_any _ _).mono ?_
  rintro e w3 ⟨rfl, hb3⟩
  rw [Hq.out]
  have hc3 := hc2.trans (hb3.mono hc2.size)
  go_wp2_with fail
  refine (ends_any _ _).mono ?_
  rintro e w4 ⟨rfl, hb4⟩
  rw [He.out]
  have hc4 := hc3.trans (hb4.mono hc3.size)
  go_wp2_with fail
  refine (blank_any _ _).mono ?_
  rintro e w5 ⟨rfl, hb5⟩
  rw [Hb.out]
  have hc5 := hc4.trans (hb5.mono hc4.size)
  go_wp2_with fail
  refine (start_any _ _).mono ?_
  rintro e w6 ⟨rfl, hb6⟩
  rw [Hlo.out]
  have hc6 := hc5.trans (hb6.mono hc5.size)
  go_wp2_with fail
  refine (start_any _ _).mono ?_
  rintro e w7 ⟨rfl, hb7⟩
  rw [Hhi.out]
  have hc7 := hc6.trans (hb7.mono hc6.size)
  go_wp2_with fail
  go_ret
  exact ⟨rfl, hc7⟩

set_option maxHeartbeats 1000000 in
theorem ranges_6 (pick a d : Int) (w : World) (hp : (IntKind.u64.wrap pick).tmod 8 = 6) (hd : (IntKind.u64.wrap a).tmod 11172 = d) (h0 : 0 ≤ d) (h1 : d < 11172) :
    Calls Try.prog 8 #[.int .i64 pick, .int .i64 a] w fun e w' => e = .returned (.bool true) ∧ Below w.heap.size w w' := by
  have hs := in_block (44032 + d) 44032 55203 (by decide) ⟨by omega, by omega⟩
  have hq := start_part _ hs
  have He := Lib.hid (part_ends _ hq)
  have Hb := Lib.hid (part_blank _ hq)
  have Hs := Lib.hid hs
  have Hq := Lib.hid hq
  clear hs hq
  have Hlo : Hid (startB 44031 = false) := Lib.hid (by decide)
  have Hhi : Hid (startB 55204 = false) := Lib.hid (by decide)
  go_enter Try.func8, Try.ntmps8
  go_wp2_with fail
  refine (awake_any w).mono ?_
  rintro e w1 ⟨rfl, hb1⟩
  go_wp2_with fail
  go_quiet (fail)
  go_wp2_with fail
  refine (start_any _ _).mono ?_
  rintro e w2 ⟨rfl, hb2⟩
  rw [Hs.out]
  have hc2 := below_next hb1 _ _ hb2
  go_wp2_with fail
  refine (part_any _ _).mono ?_
  rintro e w3 ⟨rfl, hb3⟩
  rw [Hq.out]
  have hc3 := hc2.trans (hb3.mono hc2.size)
  go_wp2_with fail
  refine (ends_any _ _).mono ?_
  rintro e w4 ⟨rfl, hb4⟩
  rw [He.out]
  have hc4 := hc3.trans (hb4.mono hc3.size)
  go_wp2_with fail
  refine (blank_any _ _).mono ?_
  rintro e w5 ⟨rfl, hb5⟩
  rw [Hb.out]
  have hc5 := hc4.trans (hb5.mono hc4.size)
  go_wp2_with fail
  refine (start_any _ _).mono ?_
  rintro e w6 ⟨rfl, hb6⟩
  rw [Hlo.out]
  have hc6 := hc5.trans (hb6.mono hc5.size)
  go_wp2_with fail
  refine (start_any _ _).mono ?_
  rintro e w7 ⟨rfl, hb7⟩
  rw [Hhi.out]
  have hc7 := hc6.trans (hb7.mono hc6.size)
  go_wp2_with fail
  go_ret
  exact ⟨rfl, hc7⟩

set_option maxHeartbeats 1000000 in
theorem ranges_7 (pick a d : Int) (w : World) (hp : (IntKind.u64.wrap pick).tmod 8 = 7) (hd : (IntKind.u64.wrap a).tmod 42720 = d) (h0 : 0 ≤ d) (h1 : d < 42720) :
    Calls Try.prog 8 #[.int .i64 pick, .int .i64 a] w fun e w' => e = .returned (.bool true) ∧ Below w.heap.size w w' := by
  have hs := in_block (131072 + d) 131072 173791 (by decide) ⟨by omega, by omega⟩
  have hq := start_part _ hs
  have He := Lib.hid (part_ends _ hq)
  have Hb := Lib.hid (part_blank _ hq)
  have Hs := Lib.hid hs
  have Hq := Lib.hid hq
  clear hs hq
  have Hlo : Hid (startB 131071 = false) := Lib.hid (by decide)
  have Hhi : Hid (startB 173792 = false) := Lib.hid (by decide)
  go_enter Try.func8, Try.ntmps8
  go_wp2_with fail
  refine (awake_any w).mono ?_
  rintro e w1 ⟨rfl, hb1⟩
  go_wp2_with fail
  go_quiet (fail)
  go_wp2_with fail
  refine (start_any _ _).mono ?_
  rintro e w2 ⟨rfl, hb2⟩
  rw [Hs.out]
  have hc2 := below_next hb1 _ _ hb2
  go_wp2_with fail
  refine (part_any _ _).mono ?_
  rintro e w3 ⟨rfl, hb3⟩
  rw [Hq.out]
  have hc3 := hc2.trans (hb3.mono hc2.size)
  go_wp2_with fail
  refine (ends_any _ _).mono ?_
  rintro e w4 ⟨rfl, hb4⟩
  rw [He.out]
  have hc4 := hc3.trans (hb4.mono hc3.size)
  go_wp2_with fail
  refine (blank_any _ _).mono ?_
  rintro e w5 ⟨rfl, hb5⟩
  rw [Hb.out]
  have hc5 := hc4.trans (hb5.mono hc4.size)
  go_wp2_with fail
  refine (start_any _ _).mono ?_
  rintro e w6 ⟨rfl, hb6⟩
  rw [Hlo.out]
  have hc6 := hc5.trans (hb6.mono hc5.size)
  go_wp2_with fail
  refine (start_any _ _).mono ?_
  rintro e w7 ⟨rfl, hb7⟩
  rw [Hhi.out]
  have hc7 := hc6.trans (hb7.mono hc6.size)
  go_wp2_with fail
  go_ret
  exact ⟨rfl, hc7⟩

theorem mod_bounds (x m : Int) (hm : 0 < m) : 0 ≤ (IntKind.u64.wrap x).tmod m ∧ (IntKind.u64.wrap x).tmod m < m := by
  have h : 0 ≤ IntKind.u64.wrap x := by rw [IntKind.wrap_u64]; omega
  rw [Int.tmod_eq_emod_of_nonneg h]
  exact ⟨Int.emod_nonneg _ (by omega), Int.emod_lt_of_pos _ hm⟩

theorem uniranges_any (pick a : Int) (w : World) :
    Calls Try.prog 8 #[.int .i64 pick, .int .i64 a] w fun e w' => e = .returned (.bool true) ∧ Below w.heap.size w w' := by
  have hp := mod_bounds pick 8 (by decide)
  obtain h | h | h | h | h | h | h | h : (IntKind.u64.wrap pick).tmod 8 = 0 ∨ (IntKind.u64.wrap pick).tmod 8 = 1 ∨ (IntKind.u64.wrap pick).tmod 8 = 2 ∨ (IntKind.u64.wrap pick).tmod 8 = 3 ∨ (IntKind.u64.wrap pick).tmod 8 = 4 ∨ (IntKind.u64.wrap pick).tmod 8 = 5 ∨ (IntKind.u64.wrap pick).tmod 8 = 6 ∨ (IntKind.u64.wrap pick).tmod 8 = 7 := by omega
  · exact ranges_0 pick a _ w h rfl (mod_bounds a 26 (by decide)).1 (mod_bounds a 26 (by decide)).2
  · exact ranges_1 pick a _ w h rfl (mod_bounds a 26 (by decide)).1 (mod_bounds a 26 (by decide)).2
  · exact ranges_2 pick a _ w h rfl (mod_bounds a 23 (by decide)).1 (mod_bounds a 23 (by decide)).2
  · exact ranges_3 pick a _ w h rfl (mod_bounds a 27 (by decide)).1 (mod_bounds a 27 (by decide)).2
  · exact ranges_4 pick a _ w h rfl (mod_bounds a 86 (by decide)).1 (mod_bounds a 86 (by decide)).2
  · exact ranges_5 pick a _ w h rfl (mod_bounds a 90 (by decide)).1 (mod_bounds a 90 (by decide)).2
  · exact ranges_6 pick a _ w h rfl (mod_bounds a 11172 (by decide)).1 (mod_bounds a 11172 (by decide)).2
  · exact ranges_7 pick a _ w h rfl (mod_bounds a 42720 (by decide)).1 (mod_bounds a 42720 (by decide)).2

end Uni
end Go.Proofs.Ytpolgmjikelmiaa
