/-
  Names, private names.
-/
import Derived.Test.YtggibhlmnfodaaaDoorLexSmall
import Derived.Deep.LoopGhost
namespace Go.Proofs.YtggibhlmnfodaaaDoor
namespace Lex
open Go.RowKit
open Str (lenL runeL)

/-- What a call comes to that hands back an error. -/
def PostE (K : Box) (w : World) (r : Int × List UInt8) (e : Ending) (w' : World) : Prop := e = .returned (.int .i64 r.1) ∧ Rd K r.2 w' ∧ Bar K.b w w'
/-- What a call comes to that hands back a kind and an error. -/
def PostO (K : Box) (w : World) (r : Out) (e : Ending) (w' : World) : Prop := e = .returned (.tuple #[.int .i64 r.1, .int .i64 r.2.1]) ∧ Rd K r.2.2 w' ∧ Bar K.b w w'
theorem post_o {K : Box} {w w' : World} {r : Out} {a b : Int} {m : List UInt8} (h : r = (a, b, m)) (h1 : Rd K m w') (h2 : Bar K.b w w') : PostO K w r (.returned (.tuple #[.int .i64 a, .int .i64 b])) w' := by subst h; exact ⟨rfl, h1, h2⟩
theorem post_e {K : Box} {w w' : World} {r : Int × List UInt8} {a : Int} {m : List UInt8} (h : r = (a, m)) (h1 : Rd K m w') (h2 : Bar K.b w w') : PostE K w r (.returned (.int .i64 a)) w' := by subst h; exact ⟨rfl, h1, h2⟩
/-- The reader goes on behind its first character. -/
theorem at_go {K : Box} {m : List UInt8} {w : World} (h : Rd K m w) {k : Nat} (hk : lenL m = k) : ((K.at m : Nat) : Int) + (k : Nat) = (K.at (tl m) : Nat) := by subst hk; exact at_tl K m h.len

set_option maxHeartbeats 1000000 in
set_option maxRecDepth 20000 in
theorem parts_any (K : Box) (l : List UInt8) (d : Bool) (w : World) (h : Rd K l w) :
    Calls Tryd.prog 38 #[K.ptr, .bool d] w (PostE K w (parts d l)) := by
  obtain ⟨R, hR⟩ : ∃ R, parts d l = R := ⟨_, rfl⟩
  rw [hR]
  have HR := Lib.hid hR
  have H := Lib.hid h
  have hs := h.small
  clear h hR
  go_enter Tryd.func38, Tryd.ntmps38
  go_wp2_with fail
  go_loopg [5, 6] l.length (fun n _ _ wr => ∃ m, n = m.length ∧ R = parts d m ∧ Rd K m wr ∧ Bar K.b w wr)
  case atStart => exact ⟨l, rfl, HR.out.symm, H.out, Bar.refl _ _⟩
  case round =>
    obtain ⟨m, hn, hr, hRd, hBar⟩ := hrel
    obtain ⟨c, hc⟩ : ∃ c, chL m = c := ⟨_, rfl⟩
    obtain ⟨k, hk⟩ : ∃ k, lenL m = k := ⟨_, rfl⟩
    have Hn := Lib.hid hn
    have Hr := Lib.hid hr
    have HRd := Lib.hid hRd
    have HBar := Lib.hid hBar
    have Hat := Lib.hid (at_go hRd hk)
    have hat : ((K.at m : Nat) : Int) + (k : Nat) ≤ K.s.size := by rw [Hat.out]; have := at_le K (tl m); omega
    have Hc := Lib.hid hc
    have Hk := Lib.hid hk
    clear hn hr hRd hBar hc hk H
    go_wp2_with fail
    refine (look_any K m c k Hc.out Hk.out _ HRd.out).mono ?_
    rintro e w1 ⟨rfl, h1, hb1⟩
    have H1 := Lib.hid h1; clear h1
    by_cases e1 : c = -2
    · have Hf : Hid (R = (502, m)) := Lib.hid (by rw [Hr.out]; exact loop_in _ (by unfold partsS; rw [Hc.out, if_pos e1]))
      subst e1
      go_wp2_with fail
      go_ret
      exact post_e Hf.out H1.out (HBar.out.on hb1)
    · have b1 : (c == -2) = false := beq_eq_false_iff_ne.2 e1
      have He1 := Lib.hid e1
      clear e1
      go_wp2_with fail
      refine (Uni.part_any c _).mono ?_
      rintro e w2 ⟨rfl, hb2⟩
      have H2 := Lib.hid (H1.out.on hb2)
      have HB2 := Lib.hid ((HBar.out.on hb1).on hb2)
      have g0 := H2.out.cell0
      have g1 := H2.out.frozen 0
      clear hb1 hb2
      cases hp : Uni.partB c with
      | true =>
        have Hp := Lib.hid hp
        clear hp
        have Hg : Hid (R = parts d (tl m) ∧ (tl m).length < m.length) := Lib.hid (by
          have hS : partsS d () m = .inr ((), tl m) := by unfold partsS; rw [Hc.out, if_neg He1.out, if_neg (by rw [Hp.out]; rintro ⟨h, _⟩; cases h)]
          exact ⟨by rw [Hr.out]; exact loop_go (falls_parts d) _ hS, falls_parts d _ _ _ hS⟩)
        go_wp2_with fail
        go_roundg (tl m).length
        case rel => exact ⟨tl m, rfl, Hg.out.1, H2.out.to (tl_suf m) Hat.out, HB2.out.set _ _ _⟩
        case measure => rw [Hn.out]; exact Hg.out.2
      | false =>
        have Hp := Lib.hid hp
        clear hp
        by_cases e2 : c = 45
        · have b2 : (c != 45) = false := by rw [e2]; rfl
          have He2 := Lib.hid e2
          clear e2
          cases d with
          | false =>
            have Hf : Hid (R = (0, m)) := Lib.hid (by rw [Hr.out]; exact loop_in _ (by unfold partsS; rw [Hc.out, if_neg He1.out, if_pos (by exact ⟨Hp.out, Or.inr rfl⟩)]))
            go_wp2_with fail
            go_ret
            exact post_e Hf.out H2.out HB2.out
          | true =>
            have Hg : Hid (R = parts true (tl m) ∧ (tl m).length < m.length) := Lib.hid (by
              have hS : partsS true () m = .inr ((), tl m) := by unfold partsS; rw [Hc.out, if_neg He1.out, if_neg (by exact fun x => x.2.elim (fun h => h He2.out) (fun h => by cases h))]
              exact ⟨by rw [Hr.out]; exact loop_go (falls_parts true) _ hS, falls_parts true _ _ _ hS⟩)
            go_wp2_with fail
            go_roundg (tl m).length
            case rel => exact ⟨tl m, rfl, Hg.out.1, H2.out.to (tl_suf m) Hat.out, HB2.out.set _ _ _⟩
            case measure => rw [Hn.out]; exact Hg.out.2
        · have b2 : (c != 45) = true := bne_iff_ne.2 e2
          have He2 := Lib.hid e2
          clear e2
          have Hf : Hid (R = (0, m)) := Lib.hid (by rw [Hr.out]; exact loop_in _ (by unfold partsS; rw [Hc.out, if_neg He1.out, if_pos (by exact ⟨Hp.out, Or.inl He2.out⟩)]))
          go_wp2_with fail
          go_ret
          exact post_e Hf.out H2.out HB2.out

set_option maxHeartbeats 1000000 in
set_option maxRecDepth 20000 in
theorem name_any (K : Box) (l : List UInt8) (d : Bool) (w : World) (h : Rd K l w) :
    Calls Tryd.prog 30 #[K.ptr, .bool d] w (PostO K w (nameP d l)) := by
  obtain ⟨c, hc⟩ : ∃ c, chL l = c := ⟨_, rfl⟩
  obtain ⟨k, hk⟩ : ∃ k, lenL l = k := ⟨_, rfl⟩
  have HN := Lib.hid (nameP.eq_1 d l)
  have Hc := Lib.hid hc
  have Hk := Lib.hid hk
  have H := Lib.hid h
  clear h hc hk
  go_enter Tryd.func30, Tryd.ntmps30
  go_wp2_with fail
  refine (look_any K l c k Hc.out Hk.out _ H.out).mono ?_
  rintro e w1 ⟨rfl, h1, hb1⟩
  have H1 := Lib.hid h1; clear h1
  go_wp2_with fail
  refine (Uni.start_any c _).mono ?_
  rintro e w2 ⟨rfl, hb2⟩
  have H2 := Lib.hid (H1.out.on hb2)
  have HB2 := Lib.hid ((Bar.of (b := K.b) hb1).on hb2)
  clear hb1 hb2
  cases hp : Uni.startB c with
  | true =>
    have Hf : Hid (nameP d l = (1, parts d l)) := Lib.hid (by rw [HN.out, Hc.out, if_pos hp])
    clear hp
    go_wp2_with fail
    refine (parts_any K l d _ H2.out).mono ?_
    rintro e w3 ⟨rfl, h3, hb3⟩
    have H3 := Lib.hid h3; clear h3
    go_wp2_with fail
    go_ret2
    exact post_o Hf.out H3.out (HB2.out.trans hb3)
  | false =>
    by_cases e2 : c = 92
    · have Hf : Hid (nameP d l = (0, 508, l)) := Lib.hid (by rw [HN.out, Hc.out, if_neg (by rw [hp]; decide), if_pos e2])
      clear hp
      subst e2
      go_wp2_with fail
      go_ret2
      exact post_o Hf.out H2.out HB2.out
    · have Hf : Hid (nameP d l = (0, 502, l)) := Lib.hid (by rw [HN.out, Hc.out, if_neg (by rw [hp]; decide), if_neg e2])
      have b2 : (c == 92) = false := beq_eq_false_iff_ne.2 e2
      clear hp e2
      go_wp2_with fail
      go_ret2
      exact post_o Hf.out H2.out HB2.out

theorem hd_tail {l : List UInt8} {c : Int} (h : chL l = c) (h0 : 0 ≤ c) (h1 : c < 128) : l.tail = tl l ∧ lenL l = 1 := by
  obtain ⟨x, e1, _, e2⟩ := ch_head h h0 h1
  refine ⟨?_, e2⟩
  conv => { lhs; rw [e1] }
  rfl

set_option maxHeartbeats 1000000 in
set_option maxRecDepth 20000 in
theorem private_any (K : Box) (l : List UInt8) (hl : chL l = 35) (w : World) (h : Rd K l w) :
    Calls Tryd.prog 32 #[K.ptr] w (PostO K w (privP l)) := by
  obtain ⟨ht, hk1⟩ := hd_tail hl (by omega) (by omega)
  have Hat := Lib.hid (at_go h hk1)
  have hat : ((K.at l : Nat) : Int) + (1 : Nat) ≤ K.s.size := by rw [Hat.out]; have := at_le K (tl l); omega
  have HN := Lib.hid (privP.eq_1 l)
  rw [ht] at HN
  have hs := h.small
  obtain ⟨c, hc⟩ : ∃ c, chL (tl l) = c := ⟨_, rfl⟩
  obtain ⟨k, hk⟩ : ∃ k, lenL (tl l) = k := ⟨_, rfl⟩
  have Hc := Lib.hid hc
  have Hk := Lib.hid hk
  have g0 := h.cell0
  have g1 := h.frozen 0
  have H := Lib.hid h
  clear h hc hk ht hk1 hl
  go_enter Tryd.func32, Tryd.ntmps32
  go_wp2_with fail
  refine (look_any K (tl l) c k Hc.out Hk.out _ (H.out.to (tl_suf l) Hat.out)).mono ?_
  rintro e w1 ⟨rfl, h1, hb1⟩
  have H1 := Lib.hid h1; clear h1
  have HB1 := Lib.hid (((Bar.refl K.b w).set 0 none (.int .i64 ((K.at l : Nat) + 1))).on hb1)
  clear hb1
  by_cases e1 : c = -2
  · have Hf : Hid (privP l = (0, 502, tl l)) := Lib.hid (by rw [HN.out, Hc.out, if_pos e1])
    subst e1
    go_wp2_with fail
    go_ret2
    exact post_o Hf.out H1.out HB1.out
  · have b1 : (c == -2) = false := beq_eq_false_iff_ne.2 e1
    have He1 := Lib.hid e1
    clear e1
    go_wp2_with fail
    refine (Uni.start_any c _).mono ?_
    rintro e w2 ⟨rfl, hb2⟩
    have H2 := Lib.hid (H1.out.on hb2)
    have HB2 := Lib.hid (HB1.out.on hb2)
    clear hb2
    cases hp : Uni.startB c with
    | true =>
      have Hf : Hid (privP l = (2, parts false (tl l))) := Lib.hid (by rw [HN.out, Hc.out, if_neg He1.out, if_neg (by rw [hp]; decide)])
      clear hp
      go_wp2_with fail
      refine (parts_any K (tl l) false _ H2.out).mono ?_
      rintro e w3 ⟨rfl, h3, hb3⟩
      have H3 := Lib.hid h3; clear h3
      go_wp2_with fail
      go_ret2
      exact post_o Hf.out H3.out (HB2.out.trans hb3)
    | false =>
      have Hf : Hid (privP l = (0, 509, l)) := Lib.hid (by rw [HN.out, Hc.out, if_neg He1.out, if_pos hp])
      clear hp
      go_wp2_with fail
      refine (fail_any K (tl l) l _ _ _ H2.out H.out.suf rfl).mono ?_
      rintro e w3 ⟨rfl, h3, hb3⟩
      have H3 := Lib.hid h3; clear h3
      go_wp2_with fail
      go_ret2
      exact post_o Hf.out H3.out (HB2.out.trans hb3)

end Lex
end Go.Proofs.YtggibhlmnfodaaaDoor
