/-
  The text of an attribute is read.
-/
import Derived.Test.YtggibhlmnfodaaaDoorLexName
namespace Go.Proofs.YtggibhlmnfodaaaDoor
namespace Lex
open Go.RowKit
open Str (lenL runeL)

set_option maxHeartbeats 2000000 in
set_option maxRecDepth 20000 in
theorem attribute_any (K : Box) (l : List UInt8) (q : Int) (hq : chL l = q) (hq0 : q = 34 ∨ q = 39) (w : World) (h : Rd K l w) :
    Calls Tryd.prog 29 #[K.ptr] w (PostO K w (attrP l)) := by
  obtain ⟨R, hR⟩ : ∃ R, attrP l = R := ⟨_, rfl⟩
  rw [hR]
  have HR : Hid (R = backTo 504 l (att q (tl l))) := Lib.hid (by rw [← hR, attrP, hq])
  obtain ⟨k1, hk1⟩ : ∃ k, lenL l = k := ⟨_, rfl⟩
  have HS := Lib.hid h.suf
  have hs := h.small
  have Hlt : Hid ((tl l).length < l.length) := Lib.hid (tl_lt (by omega) (by omega))
  have Hk1 := Lib.hid hk1
  have Hq := Lib.hid hq
  have Hq0 := Lib.hid hq0
  have g0 := h.cell0
  have g1 := h.frozen 0
  have H := Lib.hid h
  clear h hR hq hq0 hk1
  go_enter Tryd.func29, Tryd.ntmps29
  go_wp2_with fail
  refine (look_any K l q k1 Hq.out Hk1.out _ H.out).mono ?_
  rintro e w1 ⟨rfl, h1, hb1⟩
  have HH1 := Lib.hid h1
  have HB0 := Lib.hid (Bar.of (b := K.b) hb1)
  clear h1 hb1
  go_wp2_with fail
  go_loopg [6, 7] l.length (fun n s _ wr => ∃ p k, s = .int .i64 ((k : Nat) : Int) ∧ lenL p = k ∧ (tl p).length < p.length ∧ n = p.length ∧ R = backTo 504 l (att q (tl p)) ∧ Rd K p wr ∧ Bar K.b w wr)
  case atStart => exact ⟨l, k1, rfl, Hk1.out, Hlt.out, rfl, HR.out, HH1.out, HB0.out⟩
  case round =>
    clear g0 g1 HH1 HB0
    obtain ⟨p, k0, rfl, hk0, hlt, hn, hr, hRd, hBar⟩ := hrel
    have Hat0 := Lib.hid (at_go hRd hk0)
    have hat0 : ((K.at p : Nat) : Int) + (k0 : Nat) ≤ K.s.size := by rw [Hat0.out]; have := at_le K (tl p); omega
    have HM := Lib.hid (hRd.to (tl_suf p) Hat0.out)
    have HBM := Lib.hid (hBar.set 0 none (.int .i64 (((K.at p : Nat) : Int) + (k0 : Nat))))
    have g0 := hRd.cell0
    have g1 := hRd.frozen 0
    obtain ⟨m, hm⟩ : ∃ m, tl p = m := ⟨_, rfl⟩
    rw [hm] at hlt hr Hat0 HM
    obtain ⟨c, hc⟩ : ∃ c, chL m = c := ⟨_, rfl⟩
    obtain ⟨k, hk⟩ : ∃ k, lenL m = k := ⟨_, rfl⟩
    have Hn := Lib.hid hn
    have Hlt := Lib.hid hlt
    have Hr := Lib.hid hr
    have Hat := Lib.hid (at_go HM.out hk)
    have hat : ((K.at m : Nat) : Int) + (k : Nat) ≤ K.s.size := by rw [Hat.out]; have := at_le K (tl m); omega
    have Hc := Lib.hid hc
    have Hk := Lib.hid hk
    clear hn hr hRd hBar hc hk hm hlt hk0
    go_wp2_with fail
    refine (look_any K m c k Hc.out Hk.out _ HM.out).mono ?_
    rintro e w1 ⟨rfl, h1, hb1⟩
    have H1 := Lib.hid h1; clear h1
    have HB1 := Lib.hid (HBM.out.on hb1)
    clear hb1 g0 g1
    have g0 := H1.out.cell0
    have g1 := H1.out.frozen 0
    by_cases e1 : c = -2
    · have Hf : Hid (R = (0, 502, m)) := Lib.hid (by
        have hS : attS q () m = .inl (0, 502, m) := by unfold attS; rw [Hc.out, if_pos e1]
        rw [Hr.out]; show backTo 504 l (loop _ _ _ _) = _; rw [loop_in _ hS]; try rfl)
      subst e1
      go_wp2_with fail
      go_ret2
      exact post_o Hf.out H1.out HB1.out
    · have b1 : (c == -2) = false := beq_eq_false_iff_ne.2 e1
      have He1 := Lib.hid e1
      clear e1
      by_cases e2 : c = -1
      · have Hf : Hid (R = (0, 504, l)) := Lib.hid (by
          have hS : attS q () m = .inl (0, 504, m) := by unfold attS; rw [Hc.out, if_neg He1.out, if_pos e2]
          rw [Hr.out]; show backTo 504 l (loop _ _ _ _) = _; rw [loop_in _ hS]; try rfl)
        subst e2
        go_wp2_with fail
        refine (fail_any K m l _ _ _ H1.out HS.out rfl).mono ?_
        rintro e w3 ⟨rfl, h3, hb3⟩
        have H3 := Lib.hid h3; clear h3
        go_wp2_with fail
        go_ret2
        exact post_o Hf.out H3.out (HB1.out.trans hb3)
      · have b2 : (c == -1) = false := beq_eq_false_iff_ne.2 e2
        have He2 := Lib.hid e2
        clear e2
        by_cases e3 : c = q
        · have Hf : Hid (R = (12, 0, tl m)) := Lib.hid (by
            have hS : attS q () m = .inl (12, 0, tl m) := by unfold attS; rw [Hc.out, if_neg He1.out, if_neg He2.out, if_pos e3]
            rw [Hr.out]; show backTo 504 l (loop _ _ _ _) = _; rw [loop_in _ hS]; try rfl)
          have b3 : (c == q) = true := beq_iff_eq.2 e3
          clear e3
          go_wp2_with fail
          go_ret2
          exact post_o Hf.out (H1.out.to (tl_suf m) Hat.out) (HB1.out.set _ _ _)
        · have b3 : (c == q) = false := beq_eq_false_iff_ne.2 e3
          have He3 := Lib.hid e3
          clear e3
          have Hg : Hid (R = backTo 504 l (att q (tl m)) ∧ (tl m).length < m.length) := Lib.hid (by
            have hS : attS q () m = .inr ((), tl m) := by unfold attS; rw [Hc.out, if_neg He1.out, if_neg He2.out, if_neg He3.out]
            refine ⟨?_, falls_att q _ _ _ hS⟩
            rw [Hr.out]; show backTo 504 l (loop _ _ _ _) = _; rw [loop_go (falls_att q) _ hS]; rfl)
          go_wp2_with fail
          go_roundg m.length
          case rel => exact ⟨m, k, rfl, Hk.out, Hg.out.2, rfl, Hg.out.1, H1.out, HB1.out⟩
          case measure => rw [Hn.out]; exact Hlt.out

end Lex
end Go.Proofs.YtggibhlmnfodaaaDoor
