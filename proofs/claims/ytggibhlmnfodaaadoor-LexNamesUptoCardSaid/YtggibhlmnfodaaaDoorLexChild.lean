/-
  Text between tags is read.
-/
import Derived.Test.YtggibhlmnfodaaaDoorLexName
namespace Go.Proofs.YtggibhlmnfodaaaDoor
namespace Lex
open Go.RowKit
open Str (lenL runeL)

set_option maxHeartbeats 2000000 in
set_option maxRecDepth 20000 in
theorem child_any (K : Box) (l : List UInt8) (w : World) (h : Rd K l w) :
    Calls Tryd.prog 22 #[K.ptr] w (PostO K w (childP l)) := by
  obtain ⟨c0, hc0⟩ : ∃ c, chL l = c := ⟨_, rfl⟩
  obtain ⟨k0, hk0⟩ : ∃ k, lenL l = k := ⟨_, rfl⟩
  obtain ⟨R, hR⟩ : ∃ R, childP l = R := ⟨_, rfl⟩
  rw [hR]
  have HR : Hid (R = if c0 = -1 then (0, 0, l) else if c0 = 123 ∨ c0 = 60 then (5, 0, tl l) else if c0 = 125 ∨ c0 = 62 then (0, 502, l) else chi l) := Lib.hid (by rw [← hR, childP, hc0])
  have Hat0 := Lib.hid (at_go h hk0)
  have hat0 : ((K.at l : Nat) : Int) + (k0 : Nat) ≤ K.s.size := by rw [Hat0.out]; have := at_le K (tl l); omega
  have hs := h.small
  have Hk0 := Lib.hid hk0
  have Hc0 := Lib.hid hc0
  have H := Lib.hid h
  clear h hR hc0 hk0
  go_enter Tryd.func22, Tryd.ntmps22
  go_wp2_with fail
  refine (look_any K l c0 k0 Hc0.out Hk0.out _ H.out).mono ?_
  rintro e w1 ⟨rfl, h1, hb1⟩
  have HH1 := Lib.hid h1
  have HB0 := Lib.hid (Bar.of (b := K.b) hb1)
  have g0 := HH1.out.cell0
  have g1 := HH1.out.frozen 0
  clear h1 hb1
  by_cases a1 : c0 = -1
  · have Hf : Hid (R = (0, 0, l)) := Lib.hid (by rw [HR.out, if_pos a1])
    subst a1
    go_wp2_with fail
    go_ret2
    exact post_o Hf.out HH1.out HB0.out
  by_cases a2 : c0 = 123 ∨ c0 = 60
  · have Hf : Hid (R = (5, 0, tl l)) := Lib.hid (by rw [HR.out, if_neg a1, if_pos a2])
    rcases a2 with rfl | rfl
    all_goals
      go_wp2_with fail
      go_ret2
      exact post_o Hf.out (HH1.out.to (tl_suf l) Hat0.out) (HB0.out.set _ _ _)
  by_cases a3 : c0 = 125 ∨ c0 = 62
  · have Hf : Hid (R = (0, 502, l)) := Lib.hid (by rw [HR.out, if_neg a1, if_neg a2, if_pos a3])
    rcases a3 with rfl | rfl
    all_goals
      go_wp2_with fail
      go_ret2
      exact post_o Hf.out HH1.out HB0.out
  have HR2 : Hid (R = chi l) := Lib.hid (by rw [HR.out, if_neg a1, if_neg a2, if_neg a3])
  have b1 : (c0 == -1) = false := beq_eq_false_iff_ne.2 a1
  have b2 : (c0 == 123) = false := beq_eq_false_iff_ne.2 (fun e => a2 (Or.inl e))
  have b3 : (c0 == 60) = false := beq_eq_false_iff_ne.2 (fun e => a2 (Or.inr e))
  have b4 : (c0 == 125) = false := beq_eq_false_iff_ne.2 (fun e => a3 (Or.inl e))
  have b5 : (c0 == 62) = false := beq_eq_false_iff_ne.2 (fun e => a3 (Or.inr e))
  clear a1 a2 a3 HR hat0
  go_wp2_with fail
  clear b1 b2 b3 b4 b5
  go_loopg [6, 7] l.length (fun n _ _ wr => ∃ m, n = m.length ∧ R = chi m ∧ Rd K m wr ∧ Bar K.b w wr)
  case atStart => exact ⟨l, rfl, HR2.out, HH1.out, HB0.out⟩
  case round =>
    clear g0 g1 HH1 HB0
    obtain ⟨m, hn, hr, hRd, hBar⟩ := hrel
    obtain ⟨c, hc⟩ : ∃ c, chL m = c := ⟨_, rfl⟩
    obtain ⟨k, hk⟩ : ∃ k, lenL m = k := ⟨_, rfl⟩
    have Hn := Lib.hid hn
    have Hr := Lib.hid hr
    have HRd := Lib.hid hRd
    have HBar := Lib.hid hBar
    have Hat := Lib.hid (at_go hRd hk)
    have hat : ((K.at m : Nat) : Int) + (k : Nat) ≤ K.s.size := by rw [Hat.out]; have := at_le K (tl m); omega
    have Hc := Lib.hid hc
    have Hk := Lib.hid hk
    clear hn hr hRd hBar hc hk
    go_wp2_with fail
    refine (look_any K m c k Hc.out Hk.out _ HRd.out).mono ?_
    rintro e w1 ⟨rfl, h1, hb1⟩
    have H1 := Lib.hid h1; clear h1
    have HB1 := Lib.hid (HBar.out.on hb1)
    clear hb1
    have g0 := H1.out.cell0
    have g1 := H1.out.frozen 0
    by_cases e1 : c = -2
    · have Hf : Hid (R = (0, 502, m)) := Lib.hid (by
        have hS : chiS () m = .inl (0, 502, m) := by unfold chiS; rw [Hc.out, if_pos e1]
        rw [Hr.out]; show loop _ _ _ _ = _; rw [loop_in _ hS]; try rfl)
      subst e1
      go_wp2_with fail
      go_ret2
      exact post_o Hf.out H1.out HB1.out
    · have b1 : (c == -2) = false := beq_eq_false_iff_ne.2 e1
      have He1 := Lib.hid e1
      clear e1
      by_cases e2 : c = -1 ∨ c = 123 ∨ c = 125 ∨ c = 60 ∨ c = 62
      · have Hf : Hid (R = (11, 0, m)) := Lib.hid (by
          have hS : chiS () m = .inl (11, 0, m) := by unfold chiS; rw [Hc.out, if_neg He1.out, if_pos e2]
          rw [Hr.out]; show loop _ _ _ _ = _; rw [loop_in _ hS]; try rfl)
        clear b1 He1
        rcases e2 with rfl | rfl | rfl | rfl | rfl
        all_goals
          go_wp2_with fail
          go_ret2
          exact post_o Hf.out H1.out HB1.out
      · have b2 : (c == -1) = false := beq_eq_false_iff_ne.2 (fun e => e2 (Or.inl e))
        have b3 : (c == 123) = false := beq_eq_false_iff_ne.2 (fun e => e2 (Or.inr (Or.inl e)))
        have b4 : (c == 125) = false := beq_eq_false_iff_ne.2 (fun e => e2 (Or.inr (Or.inr (Or.inl e))))
        have b5 : (c == 60) = false := beq_eq_false_iff_ne.2 (fun e => e2 (Or.inr (Or.inr (Or.inr (Or.inl e)))))
        have b6 : (c == 62) = false := beq_eq_false_iff_ne.2 (fun e => e2 (Or.inr (Or.inr (Or.inr (Or.inr e)))))
        have He2 := Lib.hid e2
        clear e2
        have Hg : Hid (R = chi (tl m) ∧ (tl m).length < m.length) := Lib.hid (by
          have hS : chiS () m = .inr ((), tl m) := by unfold chiS; rw [Hc.out, if_neg He1.out, if_neg He2.out]
          refine ⟨?_, falls_chi _ _ _ hS⟩
          rw [Hr.out]; show loop _ _ _ _ = _; rw [loop_go falls_chi _ hS]; try rfl)
        go_wp2_with fail
        go_roundg (tl m).length
        case rel => exact ⟨tl m, rfl, Hg.out.1, H1.out.to (tl_suf _) Hat.out, HB1.out.set _ _ _⟩
        case measure => rw [Hn.out]; exact Hg.out.2

end Lex
end Go.Proofs.YtggibhlmnfodaaaDoor
