/-
  A template is read.
-/
import Derived.Test.YtggibhlmnfodaaaDoorLexName
namespace Go.Proofs.YtggibhlmnfodaaaDoor
namespace Lex
open Go.RowKit
open Str (lenL runeL)

set_option maxHeartbeats 2000000 in
set_option maxRecDepth 20000 in
theorem template_any (K : Box) (l : List UInt8) (whole part : Int) (hl : 0 ≤ chL l ∧ chL l < 128) (w : World) (h : Rd K l w) :
    Calls Tryd.prog 21 #[K.ptr, .int .i64 whole, .int .i64 part] w (PostO K w (templateP whole part l)) := by
  obtain ⟨ht, hk1⟩ := hd_tail rfl hl.1 hl.2
  have Hat1 := Lib.hid (at_go h hk1)
  have hat1 : ((K.at l : Nat) : Int) + (1 : Nat) ≤ K.s.size := by rw [Hat1.out]; have := at_le K (tl l); omega
  obtain ⟨R, hR⟩ : ∃ R, templateP whole part l = R := ⟨_, rfl⟩
  rw [hR]
  have HR : Hid (R = backTo 505 l (tem whole part (tl l))) := Lib.hid (by rw [← hR, templateP, ht])
  have HS := Lib.hid h.suf
  have hs := h.small
  have g0 := h.cell0
  have g1 := h.frozen 0
  have H := Lib.hid h
  clear h hR ht hk1 hl
  go_enter Tryd.func21, Tryd.ntmps21
  go_wp2_with fail
  have HA := Lib.hid (H.out.to (tl_suf l) Hat1.out)
  have HBA := Lib.hid ((Bar.refl K.b w).set 0 none (.int .i64 (((K.at l : Nat) : Int) + 1)))
  go_loopg [9, 10] (tl l).length (fun n _ _ wr => ∃ m, n = m.length ∧ R = backTo 505 l (tem whole part m) ∧ Rd K m wr ∧ Bar K.b w wr)
  case atStart => exact ⟨tl l, rfl, HR.out, HA.out, HBA.out⟩
  case round =>
    clear g0 g1 HA HBA
    obtain ⟨m, hn, hr, hRd, hBar⟩ := hrel
    obtain ⟨c, hc⟩ : ∃ c, chL m = c := ⟨_, rfl⟩
    obtain ⟨k, hk⟩ : ∃ k, lenL m = k := ⟨_, rfl⟩
    have Hn := Lib.hid hn
    have Hr := Lib.hid hr
    have HRd := Lib.hid hRd
    have HBar := Lib.hid hBar
    have Hat := Lib.hid (at_go hRd hk)
    have hat : ((K.at m : Nat) : Int) + (k : Nat) ≤ K.s.size := by rw [Hat.out]; have := at_le K (tl m); omega
    have Hc := Lib.hid hc
    have Hk := Lib.hid hk
    clear hn hr hRd hBar hc hk
    go_wp2_with fail
    refine (look_any K m c k Hc.out Hk.out _ HRd.out).mono ?_
    rintro e w1 ⟨rfl, h1, hb1⟩
    have H1 := Lib.hid h1; clear h1
    have HB1 := Lib.hid (HBar.out.on hb1)
    clear hb1
    have g0 := H1.out.cell0
    have g1 := H1.out.frozen 0
    by_cases e1 : c = -2
    · have Hf : Hid (R = (0, 502, m)) := Lib.hid (by
        have hS : temS whole part () m = .inl (0, 502, m) := by unfold temS; rw [Hc.out, if_pos e1]
        rw [Hr.out]; show backTo 505 l (loop _ _ _ _) = _; rw [loop_in _ hS]; rfl)
      subst e1
      go_wp2_with fail
      go_ret2
      exact post_o Hf.out H1.out HB1.out
    · have b1 : (c == -2) = false := beq_eq_false_iff_ne.2 e1
      have He1 := Lib.hid e1
      clear e1
      by_cases e2 : c = -1
      · have Hf : Hid (R = (0, 505, l)) := Lib.hid (by
          have hS : temS whole part () m = .inl (0, 505, m) := by unfold temS; rw [Hc.out, if_neg He1.out, if_pos e2]
          rw [Hr.out]; show backTo 505 l (loop _ _ _ _) = _; rw [loop_in _ hS]; rfl)
        subst e2
        go_wp2_with fail
        refine (fail_any K m l _ _ _ H1.out HS.out rfl).mono ?_
        rintro e w3 ⟨rfl, h3, hb3⟩
        have H3 := Lib.hid h3; clear h3
        go_wp2_with fail
        go_ret2
        exact post_o Hf.out H3.out (HB1.out.trans hb3)
      · have b2 : (c == -1) = false := beq_eq_false_iff_ne.2 e2
        have He2 := Lib.hid e2
        clear e2
        by_cases e3 : c = 92
        · obtain ⟨k2, hk2⟩ : ∃ k, lenL (tl m) = k := ⟨_, rfl⟩
          have Hat2 := Lib.hid (at_go (H1.out.to (tl_suf m) Hat.out) hk2)
          have hat2 : ((K.at (tl m) : Nat) : Int) + (k2 : Nat) ≤ K.s.size := by rw [Hat2.out]; have := at_le K (tl (tl m)); omega
          have Hk2 := Lib.hid hk2
          clear hk2
          have Hg : Hid (R = backTo 505 l (tem whole part (tl (tl m))) ∧ (tl (tl m)).length < m.length) := Lib.hid (by
            have hS : temS whole part () m = .inr ((), tl (tl m)) := by unfold temS; rw [Hc.out, if_neg He1.out, if_neg He2.out, if_pos e3]
            refine ⟨?_, (falls_tem whole part) _ _ _ hS⟩
            rw [Hr.out]; show backTo 505 l (loop _ _ _ _) = _; rw [loop_go (falls_tem whole part) _ hS]; rfl)
          subst e3
          go_wp2_with fail
          refine (look_any K (tl m) _ k2 rfl Hk2.out _ (H1.out.to (tl_suf m) Hat.out)).mono ?_
          rintro e w2 ⟨rfl, h2, hb2⟩
          have H2 := Lib.hid h2; clear h2
          have HB2 := Lib.hid ((HB1.out.set 0 none (.int .i64 (((K.at m : Nat) : Int) + (k : Nat)))).on hb2)
          clear hb2 g0 g1
          have g0 := H2.out.cell0
          have g1 := H2.out.frozen 0
          go_wp2_with fail
          go_roundg (tl (tl m)).length
          case rel => exact ⟨tl (tl m), rfl, Hg.out.1, H2.out.to (tl_suf _) Hat2.out, HB2.out.set _ _ _⟩
          case measure => rw [Hn.out]; exact Hg.out.2
        · have b3 : (c == 92) = false := beq_eq_false_iff_ne.2 e3
          have He3 := Lib.hid e3
          clear e3
          by_cases e4 : c = 96
          · have Hf : Hid (R = (whole, 0, tl m)) := Lib.hid (by
              have hS : temS whole part () m = .inl (whole, 0, tl m) := by unfold temS; rw [Hc.out, if_neg He1.out, if_neg He2.out, if_neg He3.out, if_pos e4]
              rw [Hr.out]; show backTo 505 l (loop _ _ _ _) = _; rw [loop_in _ hS]; rfl)
            subst e4
            go_wp2_with fail
            go_ret2
            exact post_o Hf.out (H1.out.to (tl_suf m) Hat.out) (HB1.out.set _ _ _)
          · have b4 : (c == 96) = false := beq_eq_false_iff_ne.2 e4
            have He4 := Lib.hid e4
            clear e4
            obtain ⟨v, hv⟩ : ∃ v, pre [36, 123] m = v := ⟨_, rfl⟩
            have Hv := Lib.hid hv
            clear hv
            go_wp2_with fail
            refine (follows_any K m ⟨#[36, 123]⟩ v Hv.out _ H1.out).mono ?_
            rintro e w2 ⟨rfl, h2, hb2⟩
            have H2 := Lib.hid h2; clear h2
            have HB2 := Lib.hid (HB1.out.on hb2)
            clear hb2 g0 g1
            have g0 := H2.out.cell0
            have g1 := H2.out.frozen 0
            cases v with
            | true =>
              obtain ⟨r', hr'⟩ := (pre_iff _ _).1 Hv.out
              have Hat2 : Hid (((K.at m : Nat) : Int) + 2 = (K.at (m.drop 2) : Nat)) := Lib.hid (by have := at_drop K m 2 H1.out.len (by rw [hr']; simp); exact this)
              have hat2 : ((K.at m : Nat) : Int) + 2 ≤ K.s.size := by rw [Hat2.out]; have := at_le K (m.drop 2); omega
              clear hr' r'
              have Hf : Hid (R = (part, 0, m.drop 2)) := Lib.hid (by
                have hS : temS whole part () m = .inl (part, 0, m.drop 2) := by unfold temS; rw [Hc.out, if_neg He1.out, if_neg He2.out, if_neg He3.out, if_neg He4.out, if_pos Hv.out]
                rw [Hr.out]; show backTo 505 l (loop _ _ _ _) = _; rw [loop_in _ hS]; rfl)
              go_wp2_with fail
              go_ret2
              exact post_o Hf.out (H2.out.to (List.drop_suffix 2 m) Hat2.out) (HB2.out.set _ _ _)
            | false =>
              have Hg : Hid (R = backTo 505 l (tem whole part (tl m)) ∧ (tl m).length < m.length) := Lib.hid (by
                have hS : temS whole part () m = .inr ((), tl m) := by unfold temS; rw [Hc.out, if_neg He1.out, if_neg He2.out, if_neg He3.out, if_neg He4.out, if_neg (by rw [Hv.out]; decide)]
                refine ⟨?_, (falls_tem whole part) _ _ _ hS⟩
                rw [Hr.out]; show backTo 505 l (loop _ _ _ _) = _; rw [loop_go (falls_tem whole part) _ hS]; rfl)
              go_wp2_with fail
              go_roundg (tl m).length
              case rel => exact ⟨tl m, rfl, Hg.out.1, H2.out.to (tl_suf _) Hat.out, HB2.out.set _ _ _⟩
              case measure => rw [Hn.out]; exact Hg.out.2

end Lex
end Go.Proofs.YtggibhlmnfodaaaDoor
