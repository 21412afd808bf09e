/-
  The document's own small functions: a digit, digits, digits in braces, a letter's meaning, a character's units.
-/
import Derived.Test.YtddldddehgnobaaDoorStrDigits
import Derived.Test.YtddldddehgnobaaDoorUniLength
namespace Go.Proofs.YtddldddehgnobaaDoor
namespace Str
open Go.RowKit

set_option maxHeartbeats 1000000 in
set_option maxRecDepth 20000 in
theorem rhex_at (s : ByteArray) (i : Nat) (w : World) (_hs : s.size ≤ maxLen) (h : i < s.size) :
    Calls Tryd.prog 44 #[.string s, .int .i64 i] w fun e w' => e = .returned (.int .i64 (hexV (headV (sufL s i)))) ∧ w = w' := by
  have Hh := Lib.hid (headV_at s i h)
  have Hd := Lib.hid (hexV.eq_1 ((s[i]'h).toNat : Int))
  have hb : ((s[i]'h).toNat : Int) < 256 := by have := (s[i]'h).toNat_lt; omega
  obtain ⟨c, hc⟩ : ∃ c : Nat, (s[i]'h).toNat = c := ⟨_, rfl⟩
  rw [hc] at Hh Hd hb
  by_cases c1 : (48 : Int) ≤ c
  · by_cases c2 : (c : Int) ≤ 57
    · go_enter Tryd.func44, Tryd.ntmps44
      go_wp2_with fail
      go_ret
      exact ⟨Uni.ret_int (by rw [Hh.out, Hd.out, if_pos ⟨c1, c2⟩]), rfl⟩
    by_cases c3 : (97 : Int) ≤ c
    · by_cases c4 : (c : Int) ≤ 102
      · go_enter Tryd.func44, Tryd.ntmps44
        go_wp2_with fail
        go_ret
        exact ⟨Uni.ret_int (by rw [Hh.out, Hd.out, if_neg (by omega), if_neg (by omega), if_pos ⟨c3, c4⟩]; omega), rfl⟩
      · go_enter Tryd.func44, Tryd.ntmps44
        go_wp2_with fail
        go_ret
        exact ⟨Uni.ret_int (by rw [Hh.out, Hd.out, if_neg (by omega), if_neg (by omega), if_neg (by omega)]), rfl⟩
    by_cases c5 : (65 : Int) ≤ c
    · by_cases c6 : (c : Int) ≤ 70
      · go_enter Tryd.func44, Tryd.ntmps44
        go_wp2_with fail
        go_ret
        exact ⟨Uni.ret_int (by rw [Hh.out, Hd.out, if_neg (by omega), if_pos ⟨c5, c6⟩]; omega), rfl⟩
      · go_enter Tryd.func44, Tryd.ntmps44
        go_wp2_with fail
        go_ret
        exact ⟨Uni.ret_int (by rw [Hh.out, Hd.out, if_neg (by omega), if_neg (by omega), if_neg (by omega)]), rfl⟩
    · go_enter Tryd.func44, Tryd.ntmps44
      go_wp2_with fail
      go_ret
      exact ⟨Uni.ret_int (by rw [Hh.out, Hd.out, if_neg (by omega), if_neg (by omega), if_neg (by omega)]), rfl⟩
  · go_enter Tryd.func44, Tryd.ntmps44
    go_wp2_with fail
    go_ret
    exact ⟨Uni.ret_int (by rw [Hh.out, Hd.out, if_neg (by omega), if_neg (by omega), if_neg (by omega)]), rfl⟩

set_option maxHeartbeats 1000000 in
theorem rhex_any (s : ByteArray) (i : Nat) (w : World) (hs : s.size ≤ maxLen) :
    Calls Tryd.prog 44 #[.string s, .int .i64 i] w fun e w' => e = .returned (.int .i64 (hexV (headV (sufL s i)))) ∧ w = w' := by
  by_cases h : i < s.size
  · exact rhex_at s i w hs h
  · have Hd : Hid (hexV (headV (sufL s i)) = -1) := Lib.hid (by rw [suf_nil s i h]; rfl)
    unfold maxLen at hs
    go_enter Tryd.func44, Tryd.ntmps44
    go_wp2_with fail
    go_ret
    exact ⟨Uni.ret_int (by rw [Hd.out]), rfl⟩

/-- A number and a place: -1 where there is none. -/
def numAt (i : Nat) (r : Nat × Option Nat) : Value := .tuple #[.int .i64 (match r.2 with | some x => (x : Int) | none => -1), .int .i64 ((i + r.1 : Nat) : Int)]

set_option maxHeartbeats 1000000 in
set_option maxRecDepth 20000 in
theorem rdigits_any (s : ByteArray) (i n : Nat) (w : World) (hz : s.size ≤ 16777216) (hi : i ≤ s.size) (hn : n ≤ 4) :
    Calls Tryd.prog 38 #[.string s, .int .i64 i, .int .i64 n] w fun e w' => e = .returned (numAt i (runL n 0 (sufL s i))) ∧ w = w' := by
  have hm : s.size ≤ maxLen := by unfold maxLen; omega
  obtain ⟨R, hR⟩ : ∃ R, runL n 0 (sufL s i) = R := ⟨_, rfl⟩
  rw [hR]
  have HR := Lib.hid hR
  clear hR
  go_enter Tryd.func38, Tryd.ntmps38
  go_wp2_with fail
  go_loop [8, 9, 10] (fun v c _ => ∃ k x : Nat, k ≤ n ∧ (k < n → i + k ≤ s.size) ∧ i + k ≤ s.size + n ∧ c = .int .i64 k ∧ v = .int .i64 x ∧ x < 16 ^ k ∧ R.1 = k + (runL (n - k) x (sufL s (i + k))).1 ∧ R.2 = (runL (n - k) x (sufL s (i + k))).2) (fun _ c _ => n - (intOf c).toNat)
  case atStart => exact ⟨0, 0, by omega, by omega, by omega, rfl, rfl, by decide, by rw [← HR.out]; simp, by rw [← HR.out]; simp⟩
  case round =>
    obtain ⟨k, x, hk, hik, hik2, rfl, rfl, hx, hr1, hr2⟩ := hrel
    have hx4 : x < 65536 := Nat.lt_of_lt_of_le hx (Nat.le_trans (Nat.pow_le_pow_right (by decide) (Nat.le_trans hk hn)) (by decide))
    have Hr1 := Lib.hid hr1; have Hr2 := Lib.hid hr2; have Hx := Lib.hid hx; have Hik := Lib.hid hik
    clear hr1 hr2 hx hik
    by_cases hlt : k < n
    · have hik3 := Hik.out hlt
      go_wp2_with fail
      rw [show ((i : Int) + (k : Int)) = ((i + k : Nat) : Int) by omega]
      refine (rhex_any s (i + k) _ hm).mono ?_
      rintro e w2 ⟨rfl, rfl⟩
      rw [show ((i + k : Nat) : Int) = (i : Int) + (k : Int) by omega]
      have hvr := hexV_range (headV (sufL s (i + k)))
      have HB := Lib.hid (run_bad (n - k - 1) x (sufL s (i + k)))
      have HG := Lib.hid (run_good (n - k - 1) x (sufL s (i + k)))
      have HS := Lib.hid (hex_some s (i + k))
      have HT := Lib.hid (suf_tail s (i + k))
      rw [show n - k - 1 + 1 = n - k by omega] at HB HG
      obtain ⟨D, hD⟩ : ∃ D, hexV (headV (sufL s (i + k))) = D := ⟨_, rfl⟩
      rw [hD] at hvr HB HG HS ⊢
      clear hD
      by_cases hneg : D < 0
      · go_wp2_with fail
        go_ret2
        refine ⟨?_, rfl⟩
        unfold numAt
        rw [Hr1.out, Hr2.out, HB.out hneg]
        simp
      · obtain ⟨d, rfl⟩ : ∃ d : Nat, D = d := ⟨D.toNat, by omega⟩
        have hlt2 := HS.out hneg
        have HT2 := Lib.hid (HT.out hlt2)
        have HG2 := Lib.hid (HG.out hneg)
        rw [HT2.out] at HG2
        go_wp2_with fail
        go_round
        case rel =>
          have hd : d < 16 := by omega
          refine ⟨k + 1, x * 16 + d, by omega, by omega, by omega, by go_num, ?_, ?_, ?_, ?_⟩
          · congr 1; omega
          · have := Hx.out
            rw [Nat.pow_succ]; omega
          · rw [Hr1.out, HG2.out.1, ← Nat.add_assoc i k 1, show n - (k + 1) = n - k - 1 by omega]
            simp only [Int.toNat_natCast]
            omega
          · rw [Hr2.out, HG2.out.2, ← Nat.add_assoc i k 1, show n - (k + 1) = n - k - 1 by omega]
            rfl
        case measure => simp [intOf]; omega
    · go_wp2_with fail
      go_ret2
      obtain rfl : k = n := by omega
      refine ⟨?_, rfl⟩
      unfold numAt
      rw [Hr1.out, Hr2.out, Nat.sub_self]
      simp [runL]

set_option maxHeartbeats 1000000 in
set_option maxRecDepth 20000 in
theorem rbraced_any (s : ByteArray) (i : Nat) (w : World) (hz : s.size ≤ 16777216) (hi : i ≤ s.size) :
    Calls Tryd.prog 39 #[.string s, .int .i64 i] w fun e w' => e = .returned (numAt i (braL true 0 (sufL s i))) ∧ w = w' := by
  have hm : s.size ≤ maxLen := by unfold maxLen; omega
  obtain ⟨R, hR⟩ : ∃ R, braL true 0 (sufL s i) = R := ⟨_, rfl⟩
  rw [hR]
  have HR := Lib.hid hR
  clear hR
  go_enter Tryd.func39, Tryd.ntmps39
  go_wp2_with fail
  go_loop [1, 6, 8] (fun p v o => ∃ k x y : Nat, ∃ ov : Bool, i + k ≤ s.size ∧ p = .int .i64 ((i + k : Nat) : Int) ∧ v = .int .i64 y ∧ o = .bool ov ∧ x < 17825808 ∧ (ov = false → y = x ∧ x ≤ 1114111) ∧ (ov = true → y = 1114111 ∧ ¬ x ≤ 1114111) ∧ R.1 = k + (braL (k == 0) x (sufL s (i + k))).1 ∧ R.2 = (braL (k == 0) x (sufL s (i + k))).2) (fun p _ _ => s.size - (intOf p).toNat)
  case atStart => exact ⟨0, 0, 0, false, by omega, rfl, rfl, rfl, by decide, fun _ => ⟨rfl, by decide⟩, (fun h => by cases h), by rw [← HR.out]; simp, by rw [← HR.out]; rfl⟩
  case round =>
    obtain ⟨k, x, y, ov, hik, rfl, rfl, rfl, hx, ho1, ho2, hr1, hr2⟩ := hrel
    have Hr1 := Lib.hid hr1; have Hr2 := Lib.hid hr2; have Ho1 := Lib.hid ho1; have Ho2 := Lib.hid ho2
    clear hr1 hr2 ho1 ho2
    go_wp2_with fail
    refine (rhex_any s (i + k) _ hm).mono ?_
    rintro e w2 ⟨rfl, rfl⟩
    have hvr := hexV_range (headV (sufL s (i + k)))
    have HB := Lib.hid (bra_dig (k == 0) x (sufL s (i + k)))
    have HG := Lib.hid (bra_end (k == 0) x (sufL s (i + k)))
    have HQ := Lib.hid (bra_bad (k == 0) x (sufL s (i + k)))
    have HS := Lib.hid (hex_some s (i + k))
    have HT := Lib.hid (suf_tail s (i + k))
    have HX := Lib.hid (fun W => rhex_any s (i + k) W hm)
    have HA := Lib.hid (fun h => headV_at s (i + k) h)
    obtain ⟨D, hD⟩ : ∃ D, hexV (headV (sufL s (i + k))) = D := ⟨_, rfl⟩
    rw [hD] at hvr HB HQ HS HX ⊢
    clear hD
    by_cases hneg : D < 0
    · have hfin : ∀ h : ¬ (headV (sufL s (i + k)) = 125 ∧ (k == 0) = false ∧ x ≤ 1114111), numAt i R = .tuple #[.int .i64 (-1), .int .i64 ((i + k : Nat) : Int)] := by
        intro h
        unfold numAt
        rw [Hr1.out, Hr2.out, HQ.out hneg h]
        simp
      have HFin := Lib.hid hfin
      clear hfin
      by_cases c1 : k = 0
      · subst c1
        go_wp2_with fail
        go_ret2
        exact ⟨by rw [HFin.out (by rintro ⟨_, h, _⟩; exact absurd h (by decide))]; simp, rfl⟩
      have e0 : ((i : Int) + (k : Int) == (i : Int)) = false := beq_eq_false_iff_ne.2 (by omega)
      by_cases c2 : i + k < s.size
      · have Hc := Lib.hid (HA.out c2)
        by_cases c3 : s[i + k]'c2 = 125
        · have g3 : (((s[i + k]'c2).toNat : Int) != 125) = false := by rw [c3]; rfl
          have Hc2 : Hid (headV (sufL s (i + k)) = 125) := Lib.hid (by rw [Hc.out, c3]; rfl)
          clear c3
          cases ov with
          | true =>
            have HN : Hid (¬ x ≤ 1114111) := Lib.hid (Ho2.out rfl).2
            go_wp2_with fail
            go_ret2
            exact ⟨by rw [HFin.out (by rintro ⟨_, _, h⟩; exact absurd h HN.out)]; simp, rfl⟩
          | false =>
            have hend := HG.out Hc2.out (beq_eq_false_iff_ne.2 c1) (Ho1.out rfl).2
            have HE : Hid (numAt i R = .tuple #[.int .i64 (y : Int), .int .i64 ((i + k + 1 : Nat) : Int)]) := Lib.hid (by
              unfold numAt
              rw [Hr1.out, Hr2.out, hend, (Ho1.out rfl).1]
              simp
              omega)
            clear hend
            go_wp2_with fail
            go_ret2
            exact ⟨by rw [HE.out]; simp, rfl⟩
        · have g3 : (((s[i + k]'c2).toNat : Int) != 125) = true := bne_iff_ne.2 (fun e => c3 (by
            apply UInt8.toNat_inj.1; show _ = 125; omega))
          have Hc2 : Hid (headV (sufL s (i + k)) ≠ 125) := Lib.hid (by rw [Hc.out]; exact bne_iff_ne.1 g3)
          clear c3
          go_wp2_with fail
          go_ret2
          exact ⟨by rw [HFin.out (by rintro ⟨h, _⟩; exact absurd h Hc2.out)]; simp, rfl⟩
      · have Hc2 : Hid (headV (sufL s (i + k)) ≠ 125) := Lib.hid (by rw [suf_nil s _ c2]; decide)
        go_wp2_with fail
        go_ret2
        exact ⟨by rw [HFin.out (by rintro ⟨h, _⟩; exact absurd h Hc2.out)]; simp, rfl⟩
    · obtain ⟨d, rfl⟩ : ∃ d : Nat, D = d := ⟨D.toNat, by omega⟩
      have hlt2 := HS.out hneg
      have hd : d < 16 := by omega
      have HT2 := Lib.hid (HT.out hlt2)
      have HG2 := Lib.hid (HB.out hneg)
      rw [HT2.out, Int.toNat_natCast] at HG2
      cases ov with
      | true =>
        have hy := (Ho2.out rfl).1
        have hxx := (Ho2.out rfl).2
        rw [if_neg hxx] at HG2
        subst hy
        go_wp2_with fail
        refine (HX.out _).mono ?_
        rintro e w2 ⟨rfl, rfl⟩
        go_wp2_with fail
        go_round
        case rel =>
          refine ⟨k + 1, x, 1114111, true, by omega, by go_num, rfl, rfl, hx, (fun h => by cases h), fun _ => ⟨rfl, hxx⟩, ?_, ?_⟩
          · rw [Hr1.out, HG2.out.1]
            show _ = k + 1 + (braL false _ (sufL s (i + k + 1))).1
            omega
          · rw [Hr2.out, HG2.out.2]; rfl
        case measure => simp [intOf]; omega
      | false =>
        have hy := (Ho1.out rfl).1
        have hxx := (Ho1.out rfl).2
        rw [if_pos hxx] at HG2
        subst hy
        by_cases hbig : y * 16 + d ≤ 1114111
        · go_wp2_with fail
          refine (HX.out _).mono ?_
          rintro e w2 ⟨rfl, rfl⟩
          go_wp2_with fail
          go_round
          case rel =>
            refine ⟨k + 1, y * 16 + d, y * 16 + d, false, by omega, by go_num, by congr 1; omega, rfl, by omega, fun _ => ⟨rfl, hbig⟩, (fun h => by cases h), ?_, ?_⟩
            · rw [Hr1.out, HG2.out.1]
              show _ = k + 1 + (braL false _ (sufL s (i + k + 1))).1
              omega
            · rw [Hr2.out, HG2.out.2]; rfl
          case measure => simp [intOf]; omega
        · go_wp2_with fail
          refine (HX.out _).mono ?_
          rintro e w2 ⟨rfl, rfl⟩
          go_wp2_with fail
          go_round
          case rel =>
            refine ⟨k + 1, y * 16 + d, 1114111, true, by omega, by go_num, rfl, rfl, by omega, (fun h => by cases h), fun _ => ⟨rfl, hbig⟩, ?_, ?_⟩
            · rw [Hr1.out, HG2.out.1]
              show _ = k + 1 + (braL false _ (sufL s (i + k + 1))).1
              omega
            · rw [Hr2.out, HG2.out.2]; rfl
          case measure => simp [intOf]; omega

end Str
end Go.Proofs.YtddldddehgnobaaDoor
