/-
  Up to a quote.
-/
import Derived.Test.YtggibhlmnfodaaaDoorLexName
namespace Go.Proofs.YtggibhlmnfodaaaDoor
namespace Lex
open Go.RowKit
open Str (lenL runeL)

set_option maxHeartbeats 1000000 in
set_option maxRecDepth 20000 in
theorem escaped_any (K : Box) (l : List UInt8) (n : Nat) (hn : escN l = n) (w : World) (h : Rd K l w) :
    Calls Tryd.prog 45 #[K.ptr] w fun e w' => e = .returned (.int .i64 (n : Nat)) ∧ Rd K l w' ∧ Below w.heap.size w w' := by
  obtain ⟨v, hv⟩ : ∃ v, pre [13, 10] l = v := ⟨_, rfl⟩
  have Hv := Lib.hid hv
  have Hn := Lib.hid (hn.symm.trans (escN.eq_1 l))
  have H := Lib.hid h
  clear h hv hn
  go_enter Tryd.func45, Tryd.ntmps45
  go_wp2_with fail
  refine (follows_any K l ⟨#[13, 10]⟩ v Hv.out _ H.out).mono ?_
  rintro e w1 ⟨rfl, h1, hb1⟩
  have H1 := Lib.hid h1; clear h1
  cases v with
  | true =>
    have Hf : Hid (n = 2) := Lib.hid (by rw [Hn.out, if_pos Hv.out])
    go_wp2_with fail
    go_ret
    exact ⟨by rw [Hf.out]; rfl, H1.out, hb1⟩
  | false =>
    have Hf : Hid (n = lenL l) := Lib.hid (by rw [Hn.out, if_neg (by rw [Hv.out]; decide)])
    go_wp2_with fail
    refine (look_any K l _ n rfl Hf.out.symm _ H1.out).mono ?_
    rintro e w2 ⟨rfl, h2, hb2⟩
    have H2 := Lib.hid h2; clear h2
    go_wp2_with fail
    go_ret
    exact ⟨rfl, H2.out, hb1.trans (hb2.mono hb1.size)⟩

theorem esc_le (l : List UInt8) : escN l ≤ l.length := by
  unfold escN
  split
  · rename_i h
    obtain ⟨r, rfl⟩ := (pre_iff _ _).1 h
    simp
  · exact Str.lenL_le l

set_option maxHeartbeats 4000000 in
set_option maxRecDepth 20000 in
theorem toQuote_any (K : Box) (l : List UInt8) (q : Int) (hq : chL l = q) (hq0 : q = 34 ∨ q = 39) (w : World) (h : Rd K l w) :
    Calls Tryd.prog 39 #[K.ptr] w (PostE K w (litR l)) := by
  obtain ⟨R, hR⟩ : ∃ R, litR l = R := ⟨_, rfl⟩
  rw [hR]
  have HR : Hid (R = toq q (tl l)) := Lib.hid (by rw [← hR, litR, hq])
  obtain ⟨k0, hk0⟩ : ∃ k, lenL l = k := ⟨_, rfl⟩
  have Hat0 := Lib.hid (at_go h hk0)
  have hat0 : ((K.at l : Nat) : Int) + (k0 : Nat) ≤ K.s.size := by rw [Hat0.out]; have := at_le K (tl l); omega
  have hs := h.small
  have Hk0 := Lib.hid hk0
  have Hq := Lib.hid hq
  have Hq0 := Lib.hid hq0
  have H := Lib.hid h
  clear h hR hq hq0 hk0
  go_enter Tryd.func39, Tryd.ntmps39
  go_wp2_with fail
  refine (look_any K l q k0 Hq.out Hk0.out _ H.out).mono ?_
  rintro e w1 ⟨rfl, h1, hb1⟩
  have g0 := h1.cell0
  have g1 := h1.frozen 0
  have HA := Lib.hid (h1.to (tl_suf l) Hat0.out)
  have HBA := Lib.hid ((Bar.of (b := K.b) hb1).set 0 none (.int .i64 (((K.at l : Nat) : Int) + (k0 : Nat))))
  clear h1 hb1
  go_wp2_with fail
  go_loopg [5, 6] (tl l).length (fun n _ _ wr => ∃ m, n = m.length ∧ R = toq q m ∧ Rd K m wr ∧ Bar K.b w wr)
  case atStart => exact ⟨tl l, rfl, HR.out, HA.out, HBA.out⟩
  case round =>
    clear g0 g1 HA HBA hat0
    obtain ⟨m, hn, hr, hRd, hBar⟩ := hrel
    obtain ⟨c, hc⟩ : ∃ c, chL m = c := ⟨_, rfl⟩
    obtain ⟨k, hk⟩ : ∃ k, lenL m = k := ⟨_, rfl⟩
    have Hn := Lib.hid hn
    have Hr := Lib.hid hr
    have HRd := Lib.hid hRd
    have HBar := Lib.hid hBar
    have Hat := Lib.hid (at_go hRd hk)
    have hat : ((K.at m : Nat) : Int) + (k : Nat) ≤ K.s.size := by rw [Hat.out]; have := at_le K (tl m); omega
    have Hc := Lib.hid hc
    have Hk := Lib.hid hk
    clear hn hr hRd hBar hc hk
    go_wp2_with fail
    refine (look_any K m c k Hc.out Hk.out _ HRd.out).mono ?_
    rintro e w1 ⟨rfl, h1, hb1⟩
    have H1 := Lib.hid h1; clear h1
    have HB1 := Lib.hid (HBar.out.on hb1)
    clear hb1
    have g0 := H1.out.cell0
    have g1 := H1.out.frozen 0
    by_cases e1 : c = -1 ∨ c = -2 ∨ c = 10 ∨ c = 13
    · have Hf : Hid (R = (c, m)) := Lib.hid (by
        have hS : toqS q () m = .inl (c, m) := by unfold toqS; rw [Hc.out, if_pos e1]
        rw [Hr.out]; show loop _ _ _ _ = _; rw [loop_in _ hS]; try rfl)
      rcases e1 with rfl | rfl | rfl | rfl
      all_goals
        go_wp2_with fail
        go_ret
        exact post_e Hf.out H1.out HB1.out
    · have b1 : (c == -1) = false := beq_eq_false_iff_ne.2 (fun e => e1 (Or.inl e))
      have b2 : (c == -2) = false := beq_eq_false_iff_ne.2 (fun e => e1 (Or.inr (Or.inl e)))
      have b3 : (c == 10) = false := beq_eq_false_iff_ne.2 (fun e => e1 (Or.inr (Or.inr (Or.inl e))))
      have b4 : (c == 13) = false := beq_eq_false_iff_ne.2 (fun e => e1 (Or.inr (Or.inr (Or.inr e))))
      have He1 := Lib.hid e1
      clear e1
      by_cases e2 : c = 92
      · have b5 : ((92 : Int) == q) = false := beq_eq_false_iff_ne.2 (by rcases Hq0.out with h | h <;> rw [h] <;> decide)
        obtain ⟨k2, hk2⟩ : ∃ k, escN (tl m) = k := ⟨_, rfl⟩
        have Hat2 : Hid (((K.at (tl m) : Nat) : Int) + (k2 : Nat) = (K.at ((tl m).drop k2) : Nat)) := Lib.hid (at_drop K (tl m) k2 (H1.out.to (tl_suf m) Hat.out).len (by rw [← hk2]; exact esc_le _))
        have hat2 : ((K.at (tl m) : Nat) : Int) + (k2 : Nat) ≤ K.s.size := by rw [Hat2.out]; have := at_le K ((tl m).drop k2); omega
        have Hk2 := Lib.hid hk2
        clear hk2
        have Hg : Hid (R = toq q ((tl m).drop k2) ∧ ((tl m).drop k2).length < m.length) := Lib.hid (by
          have hS : toqS q () m = .inr ((), (tl m).drop k2) := by unfold toqS; rw [Hc.out, if_neg He1.out, if_pos e2, Hk2.out]
          refine ⟨?_, (falls_toq q) _ _ _ hS⟩
          rw [Hr.out]; show loop _ _ _ _ = _; rw [loop_go (falls_toq q) _ hS]; try rfl)
        subst e2
        go_wp2_with fail
        refine (escaped_any K (tl m) k2 Hk2.out _ (H1.out.to (tl_suf m) Hat.out)).mono ?_
        rintro e w2 ⟨rfl, h2, hb2⟩
        have H2 := Lib.hid h2; clear h2
        have HB2 := Lib.hid ((HB1.out.set 0 none (.int .i64 (((K.at m : Nat) : Int) + (k : Nat)))).on hb2)
        clear hb2 g0 g1
        have g0 := H2.out.cell0
        have g1 := H2.out.frozen 0
        go_wp2_with fail
        go_roundg ((tl m).drop k2).length
        case rel => exact ⟨(tl m).drop k2, rfl, Hg.out.1, H2.out.to (List.drop_suffix _ _) Hat2.out, HB2.out.set _ _ _⟩
        case measure => rw [Hn.out]; exact Hg.out.2
      · have b5 : (c == 92) = false := beq_eq_false_iff_ne.2 e2
        have He2 := Lib.hid e2
        clear e2
        by_cases e3 : c = q
        · have Hf : Hid (R = (q, tl m)) := Lib.hid (by
            have hS : toqS q () m = .inl (q, tl m) := by unfold toqS; rw [Hc.out, if_neg He1.out, if_neg He2.out, if_pos e3]
            rw [Hr.out]; show loop _ _ _ _ = _; rw [loop_in _ hS]; try rfl)
          have b6 : (c == q) = true := beq_iff_eq.2 e3
          have He3 := Lib.hid e3
          clear e3
          go_wp2_with fail
          go_ret
          rw [He3.out]
          exact post_e Hf.out (H1.out.to (tl_suf m) Hat.out) (HB1.out.set _ _ _)
        · have b6 : (c == q) = false := beq_eq_false_iff_ne.2 e3
          have He3 := Lib.hid e3
          clear e3
          have Hg : Hid (R = toq q (tl m) ∧ (tl m).length < m.length) := Lib.hid (by
            have hS : toqS q () m = .inr ((), tl m) := by unfold toqS; rw [Hc.out, if_neg He1.out, if_neg He2.out, if_neg He3.out]
            refine ⟨?_, (falls_toq q) _ _ _ hS⟩
            rw [Hr.out]; show loop _ _ _ _ = _; rw [loop_go (falls_toq q) _ hS]; try rfl)
          go_wp2_with fail
          go_roundg (tl m).length
          case rel => exact ⟨tl m, rfl, Hg.out.1, H1.out.to (tl_suf _) Hat.out, HB1.out.set _ _ _⟩
          case measure => rw [Hn.out]; exact Hg.out.2

end Lex
end Go.Proofs.YtggibhlmnfodaaaDoor
