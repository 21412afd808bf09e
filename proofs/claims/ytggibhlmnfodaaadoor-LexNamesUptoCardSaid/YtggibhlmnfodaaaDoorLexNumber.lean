/-
  A numeric literal is read.
-/
import Derived.Test.YtggibhlmnfodaaaDoorLexReach
import Derived.Test.YtggibhlmnfodaaaDoorNumAccepts
namespace Go.Proofs.YtggibhlmnfodaaaDoor
namespace Lex
open Go.RowKit
open Str (lenL runeL)

set_option maxHeartbeats 1000000 in
theorem numcheck_any (s : ByteArray) (w : World) (hs : s.size ≤ maxLen) (b : Bool) (hb : numB s.data.toList = b) :
    Calls Tryd.prog 44 #[.string s] w fun e w' => e = .returned (.int .i64 (if b = true then 0 else 200)) ∧ Below w.heap.size w w' := by
  have Ha : Hid (Num.accS s = b) := Lib.hid hb
  clear hb
  cases b
  all_goals
    go_enter Tryd.func44, Tryd.ntmps44
    go_wp2_with fail
    refine (Num.accepts_any s w hs).mono ?_
    rintro e w1 ⟨rfl, hb1⟩
    rw [Ha.out]
    go_wp2_with fail
    go_ret
    exact ⟨rfl, hb1⟩

theorem ncheck_held (K : Box) (l m : List UInt8) (hl : l <:+ K.s.data.toList) (hm : m.length ≤ l.length) (b : Bool) (hb' : numB (upTo l m) = b) (u : World) (w : World) (h : Rd K m w) (hb : Below u.heap.size u w) :
    Calls Tryd.prog 44 #[.string (K.s.extract (K.at l) (K.at m))] w fun e w' => e = .returned (.int .i64 (if b = true then 0 else 200)) ∧ w'.cell? ⟨K.b, 0, none⟩ = some (.int .i64 (K.at m)) ∧ w'.cell? ⟨K.b, 1, none⟩ = some (.string K.s) ∧ Rd K m w' ∧ Below u.heap.size u w' := by
  refine (numcheck_any _ w ?_ b (by rw [extract_up K hl hm]; exact hb')).mono ?_
  · have h1 := h.small
    have h2 := congrArg List.length (extract_up K hl hm)
    have h3 := hl.length_le
    have h4 : (upTo l m).length ≤ l.length := by unfold upTo; rw [List.length_take]; omega
    have h5 : (K.s.extract (K.at l) (K.at m)).size = (upTo l m).length := by rw [← h2, Array.length_toList]; rfl
    have h6 : K.s.data.toList.length = K.s.size := by simp
    unfold maxLen
    omega
  · rintro e w' ⟨he, hw⟩
    exact ⟨he, (h.on hw).cell0, (h.on hw).cell1, h.on hw, hb.trans (hw.mono hb.size)⟩

theorem digs_dot (t : List UInt8) : digsP (46 :: t) = (true, 46 :: t) := by rw [digsP, if_neg (by decide), if_pos (by decide)]
theorem digs_len (l : List UInt8) : (digsP l).2.length ≤ l.length := (digs_suf l).length_le
theorem reach_pos (l : List UInt8) (h : digC (chL l) = true ∨ (chL l = 46)) : 1 ≤ (upTo l (reachW l)).length := by
  have hl := (reachW_suf l).length_le
  have : (reachW l).length < l.length := by
    rcases h with h | h
    · have h2 := of_decide_eq_true h
      obtain ⟨x, e1, e2, _⟩ := ch_head (l := l) rfl (by omega) (by omega)
      have hd : digC (x.toNat : Int) = true := by rw [e2]; exact h
      have h3 : (digsP l).2.length < l.length := by
        rw [e1, digsP, if_pos (Or.inl hd), List.length_cons]
        exact Nat.lt_succ_of_le (digs_len _)
      unfold reachW
      split
      · have h4 := digs_len (digsP l).2.tail
        rw [List.length_tail] at h4
        omega
      · exact h3
    · obtain ⟨x, e1, e2, _⟩ := ch_head h (by omega) (by omega)
      have hx : x = 46 := UInt8.toNat_inj.1 (by show x.toNat = 46; omega)
      subst hx
      rw [e1]
      unfold reachW
      rw [digs_dot]
      simp only
      rw [if_pos (by simp [pre])]
      have h4 := digs_len (List.tail (46 :: tl l))
      simp only [List.tail_cons, List.length_cons] at h4 ⊢
      omega
  unfold upTo
  rw [List.length_take]
  omega

set_option maxHeartbeats 4000000 in
set_option maxRecDepth 20000 in
theorem number_any (K : Box) (l : List UInt8) (hl : digC (chL l) = true ∨ chL l = 46) (w : World) (h : Rd K l w) :
    Calls Tryd.prog 35 #[K.ptr] w (PostO K w (numP l)) := by
  obtain ⟨R, hR⟩ : ∃ R, numP l = R := ⟨_, rfl⟩
  rw [hR]
  have hr := numP.eq_1 l
  rw [hR] at hr
  obtain ⟨m, hm⟩ : ∃ m, reachP l = m := ⟨_, rfl⟩
  have hsf := reach_suf l
  rw [hm] at hr hsf
  obtain ⟨b, hb⟩ : ∃ b, numB (upTo l m) = b := ⟨_, rfl⟩
  rw [hb] at hr
  have hml := hsf.length_le
  have hlen := h.len
  have hle : K.at l ≤ K.at m := by unfold Box.at; omega
  have hlm := at_le K m
  have hs := h.small
  have HR := Lib.hid hr
  have HM := Lib.hid hm
  have HS := Lib.hid h.suf
  have HP := Lib.hid (reach_pos l hl)
  have CC := Lib.hid (ncheck_held K l m h.suf hml b hb)
  obtain ⟨c, hc⟩ : ∃ c, chL m = c := ⟨_, rfl⟩
  obtain ⟨k, hk⟩ : ∃ k, lenL m = k := ⟨_, rfl⟩
  have Hc := Lib.hid hc
  have Hk := Lib.hid hk
  have g0 := h.cell0
  have H := Lib.hid h
  clear h hR hr hm hsf hb hml hlen hc hk hl
  go_enter Tryd.func35, Tryd.ntmps35
  go_wp2_with fail
  refine (reach_any K l HP.out _ H.out).mono ?_
  rintro e w1 ⟨rfl, h1, hb1⟩
  rw [HM.out] at h1
  have h0 := h1.cell0
  have h1' := h1.cell1
  have hK : Rd K m w1 := h1
  have hB : Below w1.heap.size w1 w1 := Below.refl _ _
  have CD : ∀ wx n, Rd K m wx → Rd K m (wx.drewN n) := fun wx n hx => hx.drewN n
  have CE : ∀ wx n, Below w1.heap.size w1 wx → Below w1.heap.size w1 (wx.drewN n) := fun wx n hx => below_drewN hx n
  have C1 := Lib.hid (CC.out w1)
  have HB1 := Lib.hid hb1
  clear h1 hb1 CC g0
  go_upto_region 3 with fail
  go_cut [26] from 7 to 26 (fun d wx => d = .bool (!b) ∧ Rd K m wx ∧ Below w1.heap.size w1 wx)
  case first =>
    cases b
    all_goals
      go_region_held3 (fun wx => wx.cell? ⟨K.b, 0, none⟩ = some (.int .i64 (K.at m)) ∧ wx.cell? ⟨K.b, 1, none⟩ = some (.string K.s) ∧ Rd K m wx ∧ Below w1.heap.size w1 wx)
        (first | exact ⟨h0, h1', hK, hB⟩ | exact ⟨h0, h1', CD _ _ hK, CE _ _ hB⟩ | assumption)
        (first
        | (go_at_call 44; refine (C1.out _ ?_ ?_).mono ?_; (first | exact hK | assumption | exact CD _ _ hK); (first | exact hB | assumption | exact CE _ _ hB); rintro e wx ⟨rfl, h0, h1', hK, hB⟩))
      all_goals (go_wp2_with fail; go_meet; exact ⟨rfl, hK, hB⟩)
  case rest =>
    obtain ⟨rfl, hx, hxb⟩ := hcut
    have HX := Lib.hid hx
    have HXB := Lib.hid (HB1.out.on hxb)
    clear h0 h1' hK hx CD CE C1 hB hxb
    cases b with
    | false =>
      have Hf : Hid (R = (0, 503, l)) := Lib.hid (by rw [HR.out, if_pos rfl])
      go_wp2_with fail
      refine (fail_any K m l _ _ _ HX.out HS.out rfl).mono ?_
      rintro e w3 ⟨rfl, h3, hb3⟩
      have H3 := Lib.hid h3; clear h3
      go_wp2_with fail
      go_ret2
      exact post_o Hf.out H3.out (HXB.out.trans hb3)
    | true =>
      have HR2 : Hid (R = if c = -2 then (0, 502, m) else if Uni.startB c = true ∨ digC c = true then (0, 503, l) else (3, 0, m)) := Lib.hid (by rw [HR.out, if_neg (by decide), Hc.out])
      go_wp2_with fail
      refine (look_any K m c k Hc.out Hk.out _ HX.out).mono ?_
      rintro e w4 ⟨rfl, h4, hb4⟩
      have H4 := Lib.hid h4
      have HB4 := Lib.hid (HXB.out.on hb4)
      clear h4 hb4
      by_cases e1 : c = -2
      · have Hf : Hid (R = (0, 502, m)) := Lib.hid (by rw [HR2.out, if_pos e1])
        subst e1
        go_wp2_with fail
        go_ret2
        exact post_o Hf.out H4.out HB4.out
      · have b1 : (c == -2) = false := beq_eq_false_iff_ne.2 e1
        have He1 := Lib.hid e1
        clear e1
        go_wp2_with fail
        refine (Uni.start_any c _).mono ?_
        rintro e w5 ⟨rfl, hb5⟩
        have H5 := Lib.hid (H4.out.on hb5)
        have HB5 := Lib.hid (HB4.out.on hb5)
        clear hb5
        cases hp : Uni.startB c with
        | true =>
          have Hf : Hid (R = (0, 503, l)) := Lib.hid (by rw [HR2.out, if_neg He1.out, if_pos (Or.inl hp)])
          clear hp
          go_wp2_with fail
          refine (fail_any K m l _ _ _ H5.out HS.out rfl).mono ?_
          rintro e w3 ⟨rfl, h3, hb3⟩
          have H3 := Lib.hid h3; clear h3
          go_wp2_with fail
          go_ret2
          exact post_o Hf.out H3.out (HB5.out.trans hb3)
        | false =>
          have Hp := Lib.hid hp
          clear hp
          go_wp2_with fail
          refine (digit_any c _ rfl _).mono ?_
          rintro e w6 ⟨rfl, rfl⟩
          cases hd : digC c with
          | true =>
            have Hf : Hid (R = (0, 503, l)) := Lib.hid (by rw [HR2.out, if_neg He1.out, if_pos (Or.inr hd)])
            clear hd
            go_wp2_with fail
            refine (fail_any K m l _ _ _ H5.out HS.out rfl).mono ?_
            rintro e w3 ⟨rfl, h3, hb3⟩
            have H3 := Lib.hid h3; clear h3
            go_wp2_with fail
            go_ret2
            exact post_o Hf.out H3.out (HB5.out.trans hb3)
          | false =>
            have Hf : Hid (R = (3, 0, m)) := Lib.hid (by rw [HR2.out, if_neg He1.out, if_neg (by rw [Hp.out, hd]; decide)])
            clear hd
            go_wp2_with fail
            go_ret2
            exact post_o Hf.out H5.out HB5.out

end Lex
end Go.Proofs.YtggibhlmnfodaaaDoor
