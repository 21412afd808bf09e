/-
  A regular expression is read.
-/
import Derived.Test.YtggibhlmnfodaaaDoorLexName
namespace Go.Proofs.YtggibhlmnfodaaaDoor
namespace Lex
open Go.RowKit
open Str (lenL runeL)

set_option maxHeartbeats 4000000 in
set_option maxRecDepth 20000 in
theorem regex_any (K : Box) (l : List UInt8) (hl : 0 ≤ chL l ∧ chL l < 128) (w : World) (h : Rd K l w) :
    Calls Tryd.prog 36 #[K.ptr] w (PostO K w (regexP l)) := by
  obtain ⟨ht, hk1⟩ := hd_tail rfl hl.1 hl.2
  have Hat1 := Lib.hid (at_go h hk1)
  have hat1 : ((K.at l : Nat) : Int) + (1 : Nat) ≤ K.s.size := by rw [Hat1.out]; have := at_le K (tl l); omega
  obtain ⟨R, hR⟩ : ∃ R, regexP l = R := ⟨_, rfl⟩
  rw [hR]
  have HR : Hid (R = regexQ l (loop regS (999, []) (false, false) (tl l))) := Lib.hid (by rw [← hR, regexP, ht]; rfl)
  have HS := Lib.hid h.suf
  have hs := h.small
  have g0 := h.cell0
  have g1 := h.frozen 0
  have H := Lib.hid h
  clear h hR ht hk1 hl
  go_enter Tryd.func36, Tryd.ntmps36
  go_wp2_with fail
  have HA := Lib.hid (H.out.to (tl_suf l) Hat1.out)
  have HBA := Lib.hid ((Bar.refl K.b w).set 0 none (.int .i64 (((K.at l : Nat) : Int) + 1)))
  go_loopg [5, 6, 7, 8] (tl l).length (fun n a b _ _ wr => ∃ m e d, a = .bool e ∧ b = .bool d ∧ n = m.length ∧ R = regexQ l (loop regS (999, []) (e, d) m) ∧ Rd K m wr ∧ Bar K.b w wr)
  case atStart => exact ⟨tl l, false, false, rfl, rfl, rfl, HR.out, HA.out, HBA.out⟩
  case round =>
    clear g0 g1 HA HBA
    obtain ⟨m, e, d, rfl, rfl, hn, hr, hRd, hBar⟩ := hrel
    obtain ⟨c, hc⟩ : ∃ c, chL m = c := ⟨_, rfl⟩
    obtain ⟨k, hk⟩ : ∃ k, lenL m = k := ⟨_, rfl⟩
    have Hn := Lib.hid hn
    have Hr := Lib.hid hr
    have HRd := Lib.hid hRd
    have HBar := Lib.hid hBar
    have Hat := Lib.hid (at_go hRd hk)
    have hat : ((K.at m : Nat) : Int) + (k : Nat) ≤ K.s.size := by rw [Hat.out]; have := at_le K (tl m); omega
    have Hc := Lib.hid hc
    have Hk := Lib.hid hk
    clear hn hr hRd hBar hc hk
    go_wp2_with fail
    refine (look_any K m c k Hc.out Hk.out _ HRd.out).mono ?_
    rintro e0 w1 ⟨rfl, h1, hb1⟩
    have H1 := Lib.hid h1; clear h1
    have HB1 := Lib.hid (HBar.out.on hb1)
    clear hb1
    have g0 := H1.out.cell0
    have g1 := H1.out.frozen 0
    by_cases e1 : c = -2
    · have Hf : Hid (R = (0, 502, m)) := Lib.hid (by
        have hS : regS (e, d) m = .inl (502, m) := by unfold regS; rw [Hc.out, if_pos e1]
        rw [Hr.out]; show regexQ l (loop _ _ _ _) = _; rw [loop_in _ hS]; try rfl)
      subst e1
      go_wp2_with fail
      go_ret2
      exact post_o Hf.out H1.out HB1.out
    · have b1 : (c == -2) = false := beq_eq_false_iff_ne.2 e1
      have He1 := Lib.hid e1
      clear e1
      by_cases e2 : c = -1
      · have Hf : Hid (R = (0, 506, l)) := Lib.hid (by
          have hS : regS (e, d) m = .inl (506, m) := by unfold regS; rw [Hc.out, if_neg He1.out, if_pos (Or.inl e2)]
          rw [Hr.out]; show regexQ l (loop _ _ _ _) = _; rw [loop_in _ hS]; try rfl)
        subst e2
        go_wp2_with fail
        refine (fail_any K m l _ _ _ H1.out HS.out rfl).mono ?_
        rintro e w3 ⟨rfl, h3, hb3⟩
        have H3 := Lib.hid h3; clear h3
        go_wp2_with fail
        go_ret2
        exact post_o Hf.out H3.out (HB1.out.trans hb3)
      · have b2 : (c == -1) = false := beq_eq_false_iff_ne.2 e2
        have He2 := Lib.hid e2
        clear e2
        go_wp2_with fail
        refine (Uni.ends_any c _).mono ?_
        rintro e0 w2 ⟨rfl, hb2⟩
        have H2 := Lib.hid (H1.out.on hb2)
        have HB2 := Lib.hid (HB1.out.on hb2)
        clear hb2 g0 g1
        have g0 := H2.out.cell0
        have g1 := H2.out.frozen 0
        cases hE : Uni.endsB c with
        | true =>
          have HE := Lib.hid hE
          clear hE
          have Hf : Hid (R = (0, 506, l)) := Lib.hid (by
            have hS : regS (e, d) m = .inl (506, m) := by unfold regS; rw [Hc.out, if_neg He1.out, if_pos (Or.inr HE.out)]
            rw [Hr.out]; show regexQ l (loop _ _ _ _) = _; rw [loop_in _ hS]; try rfl)
          go_wp2_with fail
          refine (fail_any K m l _ _ _ H2.out HS.out rfl).mono ?_
          rintro e w3 ⟨rfl, h3, hb3⟩
          have H3 := Lib.hid h3; clear h3
          go_wp2_with fail
          go_ret2
          exact post_o Hf.out H3.out (HB2.out.trans hb3)
        | false =>
          have HE : Hid (¬ (c = -1 ∨ Uni.endsB c = true)) := Lib.hid (by rw [hE]; exact fun x => x.elim He2.out (fun y => by cases y))
          clear hE
          cases e with
          | true =>
            have Hg : Hid (R = regexQ l (loop regS (999, []) (false, d) (tl m)) ∧ (tl m).length < m.length) := Lib.hid (by
              have hS : regS (true, d) m = .inr ((false, d), tl m) := by unfold regS; rw [Hc.out, if_neg He1.out, if_neg HE.out, if_pos rfl]
              refine ⟨?_, falls_reg _ _ _ hS⟩
              rw [Hr.out]; show regexQ l (loop _ _ _ _) = _; rw [loop_go falls_reg _ hS]; try rfl)
            go_wp2_with fail
            go_roundg (tl m).length
            case rel => exact ⟨tl m, false, d, rfl, rfl, rfl, Hg.out.1, H2.out.to (tl_suf _) Hat.out, HB2.out.set _ _ _⟩
            case measure => rw [Hn.out]; exact Hg.out.2
          | false =>
            by_cases e3 : c = 92
            · have Hg : Hid (R = regexQ l (loop regS (999, []) (true, d) (tl m)) ∧ (tl m).length < m.length) := Lib.hid (by
                have hS : regS (false, d) m = .inr ((true, d), tl m) := by unfold regS; rw [Hc.out, if_neg He1.out, if_neg HE.out, if_neg (fun x => by cases x), if_pos e3]
                refine ⟨?_, falls_reg _ _ _ hS⟩
                rw [Hr.out]; show regexQ l (loop _ _ _ _) = _; rw [loop_go falls_reg _ hS]; try rfl)
              subst e3
              go_wp2_with fail
              go_roundg (tl m).length
              case rel => exact ⟨tl m, true, d, rfl, rfl, rfl, Hg.out.1, H2.out.to (tl_suf _) Hat.out, HB2.out.set _ _ _⟩
              case measure => rw [Hn.out]; exact Hg.out.2
            have b3 : (c == 92) = false := beq_eq_false_iff_ne.2 e3
            have He3 := Lib.hid e3
            clear e3
            by_cases e4 : c = 91
            · have Hg : Hid (R = regexQ l (loop regS (999, []) (false, true) (tl m)) ∧ (tl m).length < m.length) := Lib.hid (by
                have hS : regS (false, d) m = .inr ((false, true), tl m) := by unfold regS; rw [Hc.out, if_neg He1.out, if_neg HE.out, if_neg (fun x => by cases x), if_neg He3.out, if_pos e4]
                refine ⟨?_, falls_reg _ _ _ hS⟩
                rw [Hr.out]; show regexQ l (loop _ _ _ _) = _; rw [loop_go falls_reg _ hS]; try rfl)
              subst e4
              go_wp2_with fail
              go_roundg (tl m).length
              case rel => exact ⟨tl m, false, true, rfl, rfl, rfl, Hg.out.1, H2.out.to (tl_suf _) Hat.out, HB2.out.set _ _ _⟩
              case measure => rw [Hn.out]; exact Hg.out.2
            have b4 : (c == 91) = false := beq_eq_false_iff_ne.2 e4
            have He4 := Lib.hid e4
            clear e4
            by_cases e5 : c = 93
            · have Hg : Hid (R = regexQ l (loop regS (999, []) (false, false) (tl m)) ∧ (tl m).length < m.length) := Lib.hid (by
                have hS : regS (false, d) m = .inr ((false, false), tl m) := by unfold regS; rw [Hc.out, if_neg He1.out, if_neg HE.out, if_neg (fun x => by cases x), if_neg He3.out, if_neg He4.out, if_pos e5]
                refine ⟨?_, falls_reg _ _ _ hS⟩
                rw [Hr.out]; show regexQ l (loop _ _ _ _) = _; rw [loop_go falls_reg _ hS]; try rfl)
              subst e5
              go_wp2_with fail
              go_roundg (tl m).length
              case rel => exact ⟨tl m, false, false, rfl, rfl, rfl, Hg.out.1, H2.out.to (tl_suf _) Hat.out, HB2.out.set _ _ _⟩
              case measure => rw [Hn.out]; exact Hg.out.2
            have b5 : (c == 93) = false := beq_eq_false_iff_ne.2 e5
            have He5 := Lib.hid e5
            clear e5
            by_cases e6 : c = 47
            · cases d with
              | true =>
                have Hg : Hid (R = regexQ l (loop regS (999, []) (false, true) (tl m)) ∧ (tl m).length < m.length) := Lib.hid (by
                  have hS : regS (false, true) m = .inr ((false, true), tl m) := by unfold regS; rw [Hc.out, if_neg He1.out, if_neg HE.out, if_neg (fun x => by cases x), if_neg He3.out, if_neg He4.out, if_neg He5.out, if_neg (fun x => by cases x.2)]
                  refine ⟨?_, falls_reg _ _ _ hS⟩
                  rw [Hr.out]; show regexQ l (loop _ _ _ _) = _; rw [loop_go falls_reg _ hS]; try rfl)
                subst e6
                go_wp2_with fail
                go_roundg (tl m).length
                case rel => exact ⟨tl m, false, true, rfl, rfl, rfl, Hg.out.1, H2.out.to (tl_suf _) Hat.out, HB2.out.set _ _ _⟩
                case measure => rw [Hn.out]; exact Hg.out.2
              | false =>
                have Hf : Hid (R = (6, parts false (tl m))) := Lib.hid (by
                  have hS : regS (false, false) m = .inl (0, tl m) := by unfold regS; rw [Hc.out, if_neg He1.out, if_neg HE.out, if_neg (fun x => by cases x), if_neg He3.out, if_neg He4.out, if_neg He5.out, if_pos ⟨e6, rfl⟩]
                  rw [Hr.out, loop_in _ hS]; rfl)
                subst e6
                go_wp2_with fail
                refine (parts_any K (tl m) false _ (H2.out.to (tl_suf _) Hat.out)).mono ?_
                rintro e0 w3 ⟨rfl, h3, hb3⟩
                have H3 := Lib.hid h3; clear h3
                go_wp2_with fail
                go_ret2
                exact post_o Hf.out H3.out ((HB2.out.set _ _ _).trans hb3)
            have b6 : (c == 47) = false := beq_eq_false_iff_ne.2 e6
            have He6 := Lib.hid e6
            clear e6
            have Hg : Hid (R = regexQ l (loop regS (999, []) (false, d) (tl m)) ∧ (tl m).length < m.length) := Lib.hid (by
              have hS : regS (false, d) m = .inr ((false, d), tl m) := by unfold regS; rw [Hc.out, if_neg He1.out, if_neg HE.out, if_neg (fun x => by cases x), if_neg He3.out, if_neg He4.out, if_neg He5.out, if_neg (fun x => He6.out x.1)]
              refine ⟨?_, falls_reg _ _ _ hS⟩
              rw [Hr.out]; show regexQ l (loop _ _ _ _) = _; rw [loop_go falls_reg _ hS]; try rfl)
            go_wp2_with fail
            go_roundg (tl m).length
            case rel => exact ⟨tl m, false, d, rfl, rfl, rfl, Hg.out.1, H2.out.to (tl_suf _) Hat.out, HB2.out.set _ _ _⟩
            case measure => rw [Hn.out]; exact Hg.out.2

end Lex
end Go.Proofs.YtggibhlmnfodaaaDoor
