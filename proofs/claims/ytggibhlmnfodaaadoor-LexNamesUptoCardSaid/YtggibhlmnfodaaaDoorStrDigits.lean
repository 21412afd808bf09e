/-
  The reader's contracts: so many hexadecimal digits; digits in braces.
-/
import Derived.Test.YtggibhlmnfodaaaDoorStrReader
import Derived.WalkMore
import Derived.Deep.LoopGhost
namespace Go.Proofs.YtggibhlmnfodaaaDoor
namespace Str
open Go.RowKit

theorem peek_held (b : Nat) (s : ByteArray) (i : Nat) (w : World) (hs : s.size ≤ maxLen) (hi : i ≤ s.size) (wx : World) (h : Held b s i w wx) :
    Calls Tryd.prog 46 #[.pointer (some ⟨b, 0, none⟩)] wx fun e w' => e = .returned (.int .i64 (headV (sufL s i))) ∧ Held b s i w w' :=
  (peek_any b s i wx hs hi h.1).mono fun _ _ ⟨he, hr, hw⟩ => ⟨he, hr, h.2.trans (Bar.of hw)⟩

theorem run_bad (n v : Nat) (l : List UInt8) (h : hexV (headV l) < 0) : runL (n + 1) v l = (0, none) := by
  cases l with
  | nil => rfl
  | cons x l => rw [runL, if_pos (show hexV (x.toNat : Int) < 0 from h)]
theorem run_good (n v : Nat) (l : List UInt8) (h : ¬ hexV (headV l) < 0) :
    (runL (n + 1) v l).1 = (runL n (v * 16 + (hexV (headV l)).toNat) l.tail).1 + 1 ∧ (runL (n + 1) v l).2 = (runL n (v * 16 + (hexV (headV l)).toNat) l.tail).2 := by
  cases l with
  | nil => exact absurd (by decide) h
  | cons x l => rw [runL, if_neg (show ¬ hexV (x.toNat : Int) < 0 from h)]; exact ⟨rfl, rfl⟩
theorem hex_some (s : ByteArray) (i : Nat) (h : ¬ hexV (headV (sufL s i)) < 0) : i < s.size := by
  rcases Nat.lt_or_ge i s.size with h' | h'
  · exact h'
  · rw [suf_nil s i (by omega)] at h; exact absurd (by decide) h
theorem suf_tail (s : ByteArray) (i : Nat) (h : i < s.size) : (sufL s i).tail = sufL s (i + 1) := by rw [suf_cons s i h]; rfl

theorem join16 (v d : Nat) (hv : v < 288230376151711744) (hd : d < 16) : bits .or .i64 ((v : Int) * 16) (d : Int) = ((v * 16 + d : Nat) : Int) := by
  rw [show ((v : Int) * 16) = ((v * 16 : Nat) : Int) by omega, Uni.i64_or_nat _ _ (by omega) (by omega)]
  congr 1
  have : v * 16 = v <<< 4 := by rw [Nat.shiftLeft_eq]
  rw [this, Nat.shiftLeft_add_eq_or_of_lt (by omega)]

set_option maxHeartbeats 1000000 in
set_option maxRecDepth 20000 in
theorem digits_any (b : Nat) (s : ByteArray) (i n : Nat) (w : World) (hs : s.size ≤ maxLen) (hi : i ≤ s.size) (hn : n ≤ 4) (h : Rd b s i w) :
    Calls Tryd.prog 53 #[.pointer (some ⟨b, 0, none⟩), .int .i64 n] w (Went b s i (ahead 0 (runL n 0 (sufL s i))) w) := by
  have hm := hs
  unfold maxLen at hs
  have H0 := Lib.hid h
  clear h
  obtain ⟨R, hR⟩ : ∃ R, runL n 0 (sufL s i) = R := ⟨_, rfl⟩
  have HR := Lib.hid hR
  rw [hR]; clear hR
  go_enter Tryd.func53, Tryd.ntmps53
  go_wp2_with fail
  go_loopw [6, 7, 9] (fun v _ c wr => ∃ k x : Nat, k ≤ n ∧ i + k ≤ s.size ∧ c = .int .i64 k ∧ v = .int .i64 x ∧ x < 16 ^ k ∧ Held b s (i + k) w wr ∧ R.1 = k + (runL (n - k) x (sufL s (i + k))).1 ∧ R.2 = (runL (n - k) x (sufL s (i + k))).2) (fun _ _ c _ => n - (intOf c).toNat)
  case atStart => exact ⟨0, 0, by omega, by omega, rfl, rfl, by decide, ⟨H0.out, Bar.refl _ _⟩, by rw [← HR.out]; simp, by rw [← HR.out]; simp⟩
  case round =>
    obtain ⟨k, x, hk, hik, rfl, rfl, hx, hH, hr1, hr2⟩ := hrel
    have hx4 : x < 65536 := Nat.lt_of_lt_of_le hx (Nat.le_trans (Nat.pow_le_pow_right (by decide) (Nat.le_trans hk hn)) (by decide))
    have HH := Lib.hid hH; have Hr1 := Lib.hid hr1; have Hr2 := Lib.hid hr2; have Hx := Lib.hid hx
    clear hH hr1 hr2 hx
    by_cases hlt : k < n
    · go_wp2_with fail
      refine (peek_held b s (i + k) w hm hik wr HH.out).mono ?_
      rintro e w1 ⟨rfl, hH1⟩
      have HH1 := Lib.hid hH1; clear hH1
      have hhr := headV_range (sufL s (i + k))
      go_wp2_with fail
      refine (hexadecimal_any _ hhr w1).mono ?_
      rintro e w2 ⟨rfl, rfl⟩
      have hvr := hexV_range (headV (sufL s (i + k)))
      have hg0 := HH1.out.1.cell1
      have hgf := HH1.out.1.frozen 1
      have HB := Lib.hid (run_bad (n - k - 1) x (sufL s (i + k)))
      have HG := Lib.hid (run_good (n - k - 1) x (sufL s (i + k)))
      have HS := Lib.hid (hex_some s (i + k))
      have HT := Lib.hid (suf_tail s (i + k))
      rw [show n - k - 1 + 1 = n - k by omega] at HB HG
      obtain ⟨D, hD⟩ : ∃ D, hexV (headV (sufL s (i + k))) = D := ⟨_, rfl⟩
      rw [hD] at hvr HB HG HS ⊢
      clear hD hhr
      by_cases hneg : D < 0
      · go_wp2_with fail
        go_ret2
        refine went_none (k := k) ?_ HH1.out
        unfold ahead
        rw [Hr1.out, Hr2.out, HB.out hneg, Nat.zero_add]; rfl
      · obtain ⟨d, rfl⟩ : ∃ d : Nat, D = d := ⟨D.toNat, by omega⟩
        have hlt2 := HS.out hneg
        have HT2 := Lib.hid (HT.out hlt2)
        have HG2 := Lib.hid (HG.out hneg)
        rw [HT2.out] at HG2
        go_wp2_with fail
        go_roundw
        case rel =>
          have hd : d < 16 := by omega
          refine ⟨k + 1, x * 16 + d, by omega, by omega, by go_num, by rw [join16 x d (by omega) hd], ?_, ⟨?_, HH1.out.2.set _ _ _⟩, ?_, ?_⟩
          · have := Hx.out
            rw [Nat.pow_succ]; omega
          · exact HH1.out.1.sets (by omega)
          · rw [Hr1.out, HG2.out.1, ← Nat.add_assoc i k 1, show n - (k + 1) = n - k - 1 by omega]
            simp only [Int.toNat_natCast]
            omega
          · rw [Hr2.out, HG2.out.2, ← Nat.add_assoc i k 1, show n - (k + 1) = n - k - 1 by omega]
            rfl
        case measure => simp [intOf]; omega
    · go_wp2_with fail
      go_ret2
      obtain rfl : k = n := by omega
      refine ⟨?_, ?_, HH.out.2⟩
      · unfold ahead
        rw [Hr2.out, Nat.sub_self]; rfl
      · have := HH.out.1
        unfold ahead
        rw [Hr1.out, Nat.sub_self]
        simpa [runL] using this

theorem bra_dig (f : Bool) (x : Nat) (l : List UInt8) (h : ¬ hexV (headV l) < 0) :
    (braL f x l).1 = (braL false (if x ≤ 1114111 then x * 16 + (hexV (headV l)).toNat else x) l.tail).1 + 1 ∧ (braL f x l).2 = (braL false (if x ≤ 1114111 then x * 16 + (hexV (headV l)).toNat else x) l.tail).2 := by
  cases l with
  | nil => exact absurd (by decide) h
  | cons y l => rw [braL, if_pos (show 0 ≤ hexV (y.toNat : Int) from by have : ¬ hexV (y.toNat : Int) < 0 := h
                                                                        omega)]; exact ⟨rfl, rfl⟩
theorem bra_end (f : Bool) (x : Nat) (l : List UInt8) (h : headV l = 125) (hf : f = false) (hx : x ≤ 1114111) : braL f x l = (1, some x) := by
  cases l with
  | nil => exact absurd h (by decide)
  | cons y l =>
    have hy : y = 125 := by
      have : (y.toNat : Int) = 125 := h
      exact UInt8.toNat_inj.1 (by show y.toNat = 125; omega)
    subst hy
    rw [braL, if_neg (by decide), if_pos ⟨rfl, hf, hx⟩]
theorem bra_bad (f : Bool) (x : Nat) (l : List UInt8) (hD : hexV (headV l) < 0) (h : ¬ (headV l = 125 ∧ f = false ∧ x ≤ 1114111)) : braL f x l = (0, none) := by
  cases l with
  | nil => rfl
  | cons y l =>
    have hD' : ¬ 0 ≤ hexV (y.toNat : Int) := by have : hexV (y.toNat : Int) < 0 := hD
                                                omega
    rw [braL, if_neg hD', if_neg (fun ⟨h1, h2⟩ => h ⟨by rw [h1]; rfl, h2⟩)]

set_option maxHeartbeats 1000000 in
set_option maxRecDepth 20000 in
theorem braced_any (b : Nat) (s : ByteArray) (i : Nat) (w : World) (hs : s.size ≤ maxLen) (hi : i ≤ s.size) (h : Rd b s i w) :
    Calls Tryd.prog 54 #[.pointer (some ⟨b, 0, none⟩)] w (Went b s i (ahead 0 (braL true 0 (sufL s i))) w) := by
  have hm := hs
  unfold maxLen at hs
  have h1 := h.cell1
  have H0 := Lib.hid h
  clear h
  obtain ⟨R, hR⟩ : ∃ R, braL true 0 (sufL s i) = R := ⟨_, rfl⟩
  rw [hR]
  have HR := Lib.hid hR
  clear hR
  go_enter Tryd.func54, Tryd.ntmps54
  go_wp2_with fail
  go_step3
  go_wp2_with fail
  go_quiet (fail)
  go_wp2_with fail
  go_step3
  go_wp2_with fail
  go_loopg [4, 6, 7] (s.size - i) (fun g v _ _ wr => ∃ k x : Nat, g + i + k = s.size ∧ v = .int .i64 x ∧ x < 17825808 ∧ Held b s (i + k) w wr ∧ R.1 = k + (braL (k == 0) x (sufL s (i + k))).1 ∧ R.2 = (braL (k == 0) x (sufL s (i + k))).2)
  case atStart => exact ⟨0, 0, by omega, rfl, by decide, ⟨H0.out.drewN _, (Bar.refl _ _).drewN _⟩, by rw [← HR.out]; simp, by rw [← HR.out]; rfl⟩
  case round =>
    obtain ⟨k, x, hik, rfl, hx, hH, hr1, hr2⟩ := hrel
    have hik2 : i + k ≤ s.size := by omega
    have HH := Lib.hid hH; have Hr1 := Lib.hid hr1; have Hr2 := Lib.hid hr2; have Hik := Lib.hid hik
    clear hH hr1 hr2 hik
    go_wp2_with fail
    refine (peek_held b s (i + k) w hm hik2 wr HH.out).mono ?_
    rintro e w1 ⟨rfl, hH1⟩
    have HH1 := Lib.hid hH1; clear hH1
    have hhr := headV_range (sufL s (i + k))
    go_wp2_with fail
    refine (hexadecimal_any _ hhr w1).mono ?_
    rintro e w2 ⟨rfl, rfl⟩
    have hvr := hexV_range (headV (sufL s (i + k)))
    have hg0 := HH1.out.1.cell1
    have hgf := HH1.out.1.frozen 1
    have HB := Lib.hid (bra_dig (k == 0) x (sufL s (i + k)))
    have HG := Lib.hid (bra_end (k == 0) x (sufL s (i + k)))
    have HQ := Lib.hid (bra_bad (k == 0) x (sufL s (i + k)))
    have HS := Lib.hid (hex_some s (i + k))
    have HT := Lib.hid (suf_tail s (i + k))
    have HN : Hid (headV (sufL s (i + k)) = 125 → i + k < s.size) := Lib.hid (fun h => by
      rcases Nat.lt_or_ge (i + k) s.size with h' | h'
      · exact h'
      · rw [suf_nil s _ (by omega)] at h; exact absurd h (by decide))
    obtain ⟨D, hD⟩ : ∃ D, hexV (headV (sufL s (i + k))) = D := ⟨_, rfl⟩
    rw [hD] at hvr HB HQ HS ⊢
    clear hD
    obtain ⟨C, hC⟩ : ∃ C, headV (sufL s (i + k)) = C := ⟨_, rfl⟩
    rw [hC] at hhr HG HQ HN ⊢
    clear hC
    by_cases hneg : D < 0
    · by_cases c1 : C = 125
      · have hN2 := HN.out c1
        subst c1
        by_cases c2 : k = 0
        · subst c2
          go_wp2_with fail
          rw [Exit.noGoto_ret]
          go_ret2
          refine went_none (k := 0) ?_ HH1.out
          unfold ahead
          rw [Hr1.out, Hr2.out, HQ.out hneg (by rintro ⟨_, h, _⟩; exact absurd h (by decide))]; rfl
        · have c2' : (k == 0) = false := beq_eq_false_iff_ne.2 c2
          have hk0 : (0 : Int) < (k : Int) := by omega
          have hk1 : (i : Int) < (i : Int) + (k : Int) := by omega
          by_cases c3 : x ≤ 1114111
          · go_wp2_with fail
            rw [Exit.noGoto_ret]
            go_ret2
            refine went_some (k := k + 1) (v := (x : Int)) ?_ rfl HH1.out (by omega) rfl
            unfold ahead
            rw [Hr1.out, Hr2.out, HG.out trivial c2' c3]; simp
          · go_wp2_with fail
            rw [Exit.noGoto_ret]
            go_ret2
            refine went_none (k := k) ?_ HH1.out
            unfold ahead
            rw [Hr1.out, Hr2.out, HQ.out hneg (by rintro ⟨_, _, h⟩; exact absurd h c3)]; simp
      · have c1' : (C == 125) = false := beq_eq_false_iff_ne.2 c1
        go_wp2_with fail
        rw [Exit.noGoto_ret]
        go_ret2
        refine went_none (k := k) ?_ HH1.out
        unfold ahead
        rw [Hr1.out, Hr2.out, HQ.out hneg (by rintro ⟨h, _⟩; exact absurd h c1)]; simp
    · obtain ⟨d, rfl⟩ : ∃ d : Nat, D = d := ⟨D.toNat, by omega⟩
      have hlt2 := HS.out hneg
      have hd : d < 16 := by omega
      have HT2 := Lib.hid (HT.out hlt2)
      have HG2 := Lib.hid (HB.out hneg)
      rw [HT2.out, Int.toNat_natCast] at HG2
      by_cases c3 : x ≤ 1114111
      · rw [if_pos c3] at HG2
        go_wp2_with fail
        go_roundg (gk - 1)
        case rel =>
          refine ⟨k + 1, x * 16 + d, ?_, by rw [join16 x d (by omega) hd], by omega, ⟨HH1.out.1.sets (by omega), HH1.out.2.set _ _ _⟩, ?_, ?_⟩
          · have := Hik.out; omega
          · rw [Hr1.out, HG2.out.1]
            show _ = k + 1 + (braL false _ (sufL s (i + k + 1))).1
            omega
          · rw [Hr2.out, HG2.out.2]; rfl
        case measure => have := Hik.out; omega
      · rw [if_neg c3] at HG2
        go_wp2_with fail
        go_roundg (gk - 1)
        case rel =>
          refine ⟨k + 1, x, ?_, rfl, hx, ⟨HH1.out.1.sets (by omega), HH1.out.2.set _ _ _⟩, ?_, ?_⟩
          · have := Hik.out; omega
          · rw [Hr1.out, HG2.out.1]
            show _ = k + 1 + (braL false _ (sufL s (i + k + 1))).1
            omega
          · rw [Hr2.out, HG2.out.2]; rfl
        case measure => have := Hik.out; omega

end Str
end Go.Proofs.YtggibhlmnfodaaaDoor
