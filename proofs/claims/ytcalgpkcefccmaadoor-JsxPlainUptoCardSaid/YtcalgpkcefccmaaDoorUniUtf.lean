/-
  UTF-8: the contracts of the functions that find whole characters.
-/
import Derived.Test.YtcalgpkcefccmaaDoorUniRunes
import Derived.Test.YtcalgpkcefccmaaDoorUniBits
namespace Go.Proofs.YtcalgpkcefccmaaDoor
namespace Uni
open Go.RowKit

theorem pair_asc (r a b : Int) : ascB r [a, b] = decide (a ≤ r ∧ r ≤ b) := by
  rw [Bool.eq_iff_iff]
  simp only [ascB, decide_eq_true_eq]
  by_cases h1 : r < a
  · rw [if_pos h1]; constructor
    · intro h; exact absurd h (by decide)
    · omega
  · rw [if_neg h1]
    by_cases h2 : r ≤ b
    · rw [if_pos h2]; simp; omega
    · rw [if_neg h2]; simp; omega

set_option maxHeartbeats 1000000 in
theorem compose_any (t : ByteArray) (r size least : Nat) (w : World) (ht : t.size ≤ maxLen) (hr : r < 64) (hs1 : 2 ≤ size) (hs2 : size ≤ 4) :
    Calls Tryd.prog 52 #[.string t, .int .i64 r, .int .i64 size, .int .i64 least] w fun e w' => e = .returned (.int .i64 (composeN t r size least)) ∧ Below w.heap.size w w' := by
  unfold maxLen at ht
  by_cases hlen : t.size < size
  · go_enter Tryd.func52, Tryd.ntmps52
    go_wp2
    go_ret
    exact ⟨ret_int (by rw [composeN, if_pos hlen]; rfl), Below.refl _ _⟩
  · have hfin : composeN t r size least = if contsN t size = false then 0 else if foldN t r size < least then 0 else if 1114111 < foldN t r size then 0 else if 55296 ≤ foldN t r size ∧ foldN t r size ≤ 57343 then 0 else size := by
      rw [composeN, if_neg hlen]
    have Hfin := Lib.hid hfin; clear hfin
    go_enter Tryd.func52, Tryd.ntmps52
    go_wp2
    go_loop [1, 9] (fun v i => ∃ k x : Nat, 1 ≤ k ∧ k ≤ size ∧ i = .int .i64 k ∧ v = .int .i64 x ∧ x = foldN t r k ∧ (k = 1 → x < 64) ∧ (k = 2 → x < 4096) ∧ (k = 3 → x < 262144) ∧ (k = 4 → x < 16777216) ∧ contsN t k = true) (fun _ i => size - (intOf i).toNat)
    case atStart => exact ⟨1, r, by omega, by omega, rfl, rfl, rfl, by omega, by omega, by omega, by omega, rfl⟩
    case round =>
      obtain ⟨k, x, hk1, hk2, rfl, rfl, hx, b1, b2, b3, b4, hj⟩ := hrel
      have Hx := Lib.hid hx; have Hj := Lib.hid hj; clear hx hj
      have hxb : x < 16777216 := by omega
      by_cases hlt : k < size
      · have Hb := Lib.hid (byteN_at t k (by omega))
        have hb := byteN_lt t k
        cases htl : (byteN t k / 64 == 2)
        all_goals
          have Htl := Lib.hid htl; clear htl
          have Hw : Hid ((bits BinOp.and IntKind.u8 ((t[k]'(by omega)).toNat : Int) 192 != 128) = !(byteN t k / 64 == 2)) := Lib.hid (by rw [Hb.out]; exact tail_bits _ hb)
          rw [Hid, Htl.out] at Hw
          go_wp2
        · go_ret
          refine ⟨ret_int ?_, Below.refl _ _⟩
          have hc : contsN t size = false := conts_le t (k + 1) (by
            match k, hk1, Hj, Htl with
            | k + 1, _, Hj, Htl => rw [contsN, Htl.out, Bool.and_false]) size (by omega)
          rw [Hfin.out, if_pos hc]; rfl
        · go_round
          case rel =>
            have ex : foldN t r (k + 1) = x * 64 + byteN t k % 64 := by
              match k, hk1, Hx with
              | k + 1, _, Hx => rw [foldN, ← Hx.out]
            refine ⟨k + 1, x * 64 + byteN t k % 64, by omega, by omega, by go_num, ?_, ex.symm, by omega, by omega, by omega, by omega, ?_⟩
            · rw [Hb.out, low_bits _ hb, join_bits _ _ hxb]
            · match k, hk1, Hj, Htl with
              | k + 1, _, Hj, Htl => rw [contsN, Htl.out, Hj.out]; rfl
          case measure => simp [intOf]; omega
      · obtain rfl : k = size := by omega
        have hfin : composeN t r k least = if x < least then 0 else if 1114111 < x then 0 else if 55296 ≤ x ∧ x ≤ 57343 then 0 else k := by
          rw [Hfin.out, if_neg (by rw [Hj.out]; decide), ← Hx.out]
        have Hfin2 := Lib.hid hfin; clear hfin
        clear Hfin
        by_cases c1 : x < least
        · go_wp2_with fail
          go_ret
          exact ⟨ret_int (by rw [Hfin2.out, if_pos c1]; rfl), Below.refl _ _⟩
        · by_cases c2 : 1114111 < x
          · go_wp2_with fail
            go_ret
            exact ⟨ret_int (by rw [Hfin2.out, if_neg c1, if_pos c2]; rfl), Below.refl _ _⟩
          · go_wp2_with fail
            refine (within_built x [55296, 57343] w (by decide)).mono ?_
            rintro e w' ⟨rfl, hb⟩
            rw [pair_asc]
            by_cases c3 : 55296 ≤ x ∧ x ≤ 57343
            · rw [decide_eq_true (by omega)]
              go_wp2_with fail
              go_ret
              exact ⟨ret_int (by rw [Hfin2.out, if_neg c1, if_neg c2, if_pos c3]; rfl), hb⟩
            · rw [decide_eq_false (by omega)]
              go_wp2_with fail
              go_ret
              exact ⟨ret_int (by rw [Hfin2.out, if_neg c1, if_neg c2, if_neg c3]), hb⟩

set_option maxHeartbeats 400000 in
theorem complete_any (t : ByteArray) (w : World) (ht : t.size ≤ maxLen) (h0 : 0 < t.size) :
    Calls Tryd.prog 36 #[.string t] w fun e w' => e = .returned (.int .i64 (completeN t)) ∧ Below w.heap.size w w' := by
  have hm := ht
  unfold maxLen at ht
  have Hb := Lib.hid (byteN_at t 0 h0)
  have hb := byteN_lt t 0
  have Hfin := Lib.hid (completeN.eq_1 t)
  have g0 : ((t[0]'h0).toNat : Int) < 256 := by rw [Hb.out]; omega
  go_enter Tryd.func36, Tryd.ntmps36
  by_cases c1 : byteN t 0 < 128
  · have g1 : ((t[0]'h0).toNat : Int) < 128 := by rw [Hb.out]; omega
    go_wp2_with fail
    go_ret
    exact ⟨ret_int (by rw [Hfin.out, if_pos c1]; rfl), Below.refl _ _⟩
  · have g1 : ¬ ((t[0]'h0).toNat : Int) < 128 := by rw [Hb.out]; omega
    go_wp2_with fail
    refine (within_built _ [192, 223] w (by decide)).mono ?_
    rintro e w1 ⟨rfl, hb1⟩
    rw [pair_asc]
    by_cases c2 : 192 ≤ byteN t 0 ∧ byteN t 0 ≤ 223
    · rw [decide_eq_true (by rw [Hb.out]; omega)]
      go_wp2_with fail
      rw [Hb.out, mask31 _ hb]
      refine (compose_any t _ 2 128 w1 hm (by omega) (by omega) (by omega)).mono ?_
      rintro e w2 ⟨rfl, hb2⟩
      go_wp2_with fail
      go_ret
      exact ⟨ret_int (by rw [Hfin.out, if_neg c1, if_pos c2]), hb1.trans (hb2.mono hb1.size)⟩
    · rw [decide_eq_false (by rw [Hb.out]; omega)]
      go_wp2_with fail
      refine (within_built _ [224, 239] w1 (by decide)).mono ?_
      rintro e w2 ⟨rfl, hb2⟩
      rw [pair_asc]
      by_cases c3 : 224 ≤ byteN t 0 ∧ byteN t 0 ≤ 239
      · rw [decide_eq_true (by rw [Hb.out]; omega)]
        go_wp2_with fail
        rw [Hb.out, mask15 _ hb]
        refine (compose_any t _ 3 2048 w2 hm (by omega) (by omega) (by omega)).mono ?_
        rintro e w3 ⟨rfl, hb3⟩
        go_wp2_with fail
        go_ret
        exact ⟨ret_int (by rw [Hfin.out, if_neg c1, if_neg c2, if_pos c3]), hb1.trans ((hb2.trans (hb3.mono hb2.size)).mono hb1.size)⟩
      · rw [decide_eq_false (by rw [Hb.out]; omega)]
        go_wp2_with fail
        refine (within_built _ [240, 247] w2 (by decide)).mono ?_
        rintro e w3 ⟨rfl, hb3⟩
        rw [pair_asc]
        by_cases c4 : 240 ≤ byteN t 0 ∧ byteN t 0 ≤ 247
        · rw [decide_eq_true (by rw [Hb.out]; omega)]
          go_wp2_with fail
          rw [Hb.out, mask7 _ hb]
          refine (compose_any t _ 4 65536 w3 hm (by omega) (by omega) (by omega)).mono ?_
          rintro e w4 ⟨rfl, hb4⟩
          go_wp2_with fail
          go_ret
          exact ⟨ret_int (by rw [Hfin.out, if_neg c1, if_neg c2, if_neg c3, if_pos c4]), hb1.trans ((hb2.trans ((hb3.trans (hb4.mono hb3.size)).mono hb2.size)).mono hb1.size)⟩
        · rw [decide_eq_false (by rw [Hb.out]; omega)]
          go_wp2_with fail
          go_ret
          exact ⟨ret_int (by rw [Hfin.out, if_neg c1, if_neg c2, if_neg c3, if_neg c4]; rfl), hb1.trans ((hb2.trans (hb3.mono hb2.size)).mono hb1.size)⟩

end Uni
end Go.Proofs.YtcalgpkcefccmaaDoor
