/-
  A string literal is read.
-/
import Derived.Test.YtggibhlmnfodaaaDoorLexToQuote
import Derived.Test.YtggibhlmnfodaaaDoorLexSuf
import Derived.Test.YtggibhlmnfodaaaDoorStrCheck
namespace Go.Proofs.YtggibhlmnfodaaaDoor
namespace Lex
open Go.RowKit
open Str (lenL runeL)

/-- The piece of the text between two places. -/
theorem extract_up (K : Box) {l m : List UInt8} (h : l <:+ K.s.data.toList) (hm : m.length ≤ l.length) : (K.s.extract (K.at l) (K.at m)).data.toList = upTo l m := by
  obtain ⟨t, ht⟩ := h
  have hl : K.s.size = t.length + l.length := by
    have : K.s.data.toList.length = (t ++ l).length := by rw [ht]
    simpa using this
  simp only [ByteArray.data_extract, Array.toList_extract, List.extract_eq_take_drop]
  rw [← ht]
  unfold Box.at upTo
  rw [List.drop_append_of_le_length (by omega), show K.s.size - l.length = t.length by omega, List.drop_length, List.nil_append]
  congr 1; omega

theorem check_held (K : Box) (l m : List UInt8) (hl : l <:+ K.s.data.toList) (hm : m.length ≤ l.length) (a b : Nat) (ha : (Str.litL (upTo l m)).1 = a) (hb' : Str.codeL (Str.litL (upTo l m)) = b) (u : World) (w : World) (h : Rd K m w) (hb : Below u.heap.size u w) :
    Calls Tryd.prog 40 #[.string (K.s.extract (K.at l) (K.at m))] w fun e w' => e = .returned (.tuple #[.int .i64 (a : Nat), .int .i64 (b : Nat)]) ∧ w'.cell? ⟨K.b, 0, none⟩ = some (.int .i64 (K.at m)) ∧ w'.cell? ⟨K.b, 1, none⟩ = some (.string K.s) ∧ Rd K m w' ∧ Below u.heap.size u w' := by
  refine (Str.check_any _ w ?_ h.tabs.str).mono ?_
  · have h1 := h.small
    have h2 := congrArg List.length (extract_up K hl hm)
    have h3 := hl.length_le
    have h4 : (upTo l m).length ≤ l.length := by unfold upTo; rw [List.length_take]; omega
    have h5 : (K.s.extract (K.at l) (K.at m)).size = (upTo l m).length := by rw [← h2, Array.length_toList]; rfl
    have h6 : K.s.data.toList.length = K.s.size := by simp
    unfold maxLen
    omega
  · rintro e w' ⟨he, hw⟩
    rw [extract_up K hl hm, ha, hb'] at he
    exact ⟨he, (h.on hw).cell0, (h.on hw).cell1, h.on hw, hb.trans (hw.mono hb.size)⟩

set_option maxHeartbeats 4000000 in
set_option maxRecDepth 20000 in
theorem literal_any (K : Box) (l : List UInt8) (q : Int) (hq : chL l = q) (hq0 : q = 34 ∨ q = 39) (w : World) (h : Rd K l w) :
    Calls Tryd.prog 31 #[K.ptr] w (PostO K w (litP l)) := by
  obtain ⟨R, hR⟩ : ∃ R, litP l = R := ⟨_, rfl⟩
  rw [hR]
  have hr := litP.eq_1 l
  rw [hR] at hr
  obtain ⟨Q, hQ⟩ : ∃ Q, litR l = Q := ⟨_, rfl⟩
  have hsf := litR_suf l
  rw [hQ] at hr hsf
  obtain ⟨v, m⟩ := Q
  obtain ⟨a, ha⟩ : ∃ a, (Str.litL (upTo l m)).1 = a := ⟨_, rfl⟩
  obtain ⟨b, hb⟩ : ∃ b, Str.codeL (Str.litL (upTo l m)) = b := ⟨_, rfl⟩
  have hal := lit_le (upTo l m)
  simp only at hr hsf
  rw [ha] at hr hal
  rw [hb] at hr
  have hml := hsf.length_le
  have hul : (upTo l m).length = l.length - m.length := by unfold upTo; rw [List.length_take]; omega
  have hlen := h.len
  have Hat : Hid (((K.at l : Nat) : Int) + (a : Nat) = (K.at (l.drop a) : Nat)) := Lib.hid (at_drop K l a hlen (by omega))
  have hat : ((K.at l : Nat) : Int) + (a : Nat) ≤ K.s.size := by rw [Hat.out]; have := at_le K (l.drop a); omega
  have Heq : Hid (((K.at l : Nat) : Int) + (a : Nat) = (K.at m : Nat) ↔ a = l.length - m.length) := Lib.hid (by unfold Box.at; omega)
  have hle : K.at l ≤ K.at m := by unfold Box.at; omega
  have hlm := at_le K m
  have hs := h.small
  have HR := Lib.hid hr
  have HQ := Lib.hid hQ
  have HS := Lib.hid h.suf
  have CC := Lib.hid (check_held K l m h.suf hml a b ha hb)
  have g0 := h.cell0
  have H := Lib.hid h
  clear h hR hr hQ hsf ha hb hal hml hul hlen
  go_enter Tryd.func31, Tryd.ntmps31
  go_wp2_with fail
  refine (toQuote_any K l q hq hq0 _ H.out).mono ?_
  rintro e w1 ⟨rfl, h1, hb1⟩
  rw [HQ.out] at h1 ⊢
  have h0 := h1.cell0
  have h1' := h1.cell1
  have hK : Rd K m w1 := h1
  have hB : Below w1.heap.size w1 w1 := Below.refl _ _
  have CD : ∀ wx n, Rd K m wx → Rd K m (wx.drewN n) := fun wx n hx => hx.drewN n
  have CE : ∀ wx n, Below w1.heap.size w1 wx → Below w1.heap.size w1 (wx.drewN n) := fun wx n hx => below_drewN hx n
  have C1 := Lib.hid (CC.out w1)
  have HB1 := Lib.hid hb1
  clear h1 hb1 CC g0
  go_upto_region 3 with fail
  go_cut [6, 7] from 8 to 30 (fun c k wx => c = .int .i64 (a : Nat) ∧ k = .int .i64 (b : Nat) ∧ Rd K m wx ∧ Below w1.heap.size w1 wx)
  case first =>
    go_region_held3 (fun wx => wx.cell? ⟨K.b, 0, none⟩ = some (.int .i64 (K.at m)) ∧ wx.cell? ⟨K.b, 1, none⟩ = some (.string K.s) ∧ Rd K m wx ∧ Below w1.heap.size w1 wx)
      (first | exact ⟨h0, h1', hK, hB⟩ | exact ⟨h0, h1', CD _ _ hK, CE _ _ hB⟩ | assumption)
      (first
      | (go_at_call 40; refine (C1.out _ ?_ ?_).mono ?_; (first | exact hK | assumption | exact CD _ _ hK); (first | exact hB | assumption | exact CE _ _ hB); rintro e wx ⟨rfl, h0, h1', hK, hB⟩))
    all_goals (go_wp2_with fail; go_meet; exact ⟨rfl, rfl, hK, hB⟩)
  case rest =>
    obtain ⟨rfl, rfl, hx, hxb⟩ := hcut
    have g0 := hx.cell0
    have HX := Lib.hid hx
    have HXB := Lib.hid (HB1.out.on hxb)
    clear h0 h1' hK hx CD CE C1 hB hxb
    by_cases e1 : b = 0
    · have Hf : Hid (R = (4, 0, m)) := Lib.hid (by rw [HR.out, if_pos e1])
      subst e1
      go_wp2_with fail
      go_ret2
      exact post_o Hf.out HX.out HXB.out
    · have b1 : ((b : Int) == 0) = false := beq_eq_false_iff_ne.2 (by omega)
      have He1 := Lib.hid e1
      clear e1
      by_cases e2 : v = -2
      · subst e2
        by_cases e3 : a = l.length - m.length
        · have Hf : Hid (R = (0, 502, m)) := Lib.hid (by rw [HR.out, if_neg He1.out, if_pos ⟨rfl, e3⟩])
          have b3 : (((K.at l : Nat) : Int) + (a : Nat) == (K.at m : Nat)) = true := beq_iff_eq.2 (Heq.out.2 e3)
          clear e3
          go_wp2_with fail
          go_ret2
          exact post_o Hf.out HX.out HXB.out
        · have Hf : Hid (R = (0, 504, l.drop a)) := Lib.hid (by rw [HR.out, if_neg He1.out, if_neg (fun x => e3 x.2)])
          have b3 : (((K.at l : Nat) : Int) + (a : Nat) == (K.at m : Nat)) = false := beq_eq_false_iff_ne.2 (fun x => e3 (Heq.out.1 x))
          clear e3
          go_wp2_with fail
          refine (fail_any K m (l.drop a) _ _ _ HX.out ((drop_suf l a).trans HS.out) Hat.out).mono ?_
          rintro e w3 ⟨rfl, h3, hb3⟩
          have H3 := Lib.hid h3; clear h3
          go_wp2_with fail
          go_ret2
          exact post_o Hf.out H3.out (HXB.out.trans hb3)
      · have Hf : Hid (R = (0, 504, l.drop a)) := Lib.hid (by rw [HR.out, if_neg He1.out, if_neg (fun x => e2 x.1)])
        have b2 : (v == -2) = false := beq_eq_false_iff_ne.2 e2
        clear e2
        go_wp2_with fail
        refine (fail_any K m (l.drop a) _ _ _ HX.out ((drop_suf l a).trans HS.out) Hat.out).mono ?_
        rintro e w3 ⟨rfl, h3, hb3⟩
        have H3 := Lib.hid h3; clear h3
        go_wp2_with fail
        go_ret2
        exact post_o Hf.out H3.out (HXB.out.trans hb3)

end Lex
end Go.Proofs.YtggibhlmnfodaaaDoor
