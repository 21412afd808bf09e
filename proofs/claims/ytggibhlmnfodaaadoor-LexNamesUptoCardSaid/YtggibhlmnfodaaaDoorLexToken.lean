/-
  A token of a goal is read.
-/
import Derived.Test.YtggibhlmnfodaaaDoorLexPun
import Derived.Test.YtggibhlmnfodaaaDoorLexNumber
import Derived.Test.YtggibhlmnfodaaaDoorLexTemplate
import Derived.Test.YtggibhlmnfodaaaDoorLexAttr
import Derived.Test.YtggibhlmnfodaaaDoorLexChild
import Derived.Test.YtggibhlmnfodaaaDoorLexRegex
namespace Go.Proofs.YtggibhlmnfodaaaDoor
namespace Lex
open Go.RowKit
open Str (lenL runeL)

theorem ne_nil {l : List UInt8} {c : Int} (h : chL l = c) (hc : c ≠ -1) : l ≠ [] := fun e => hc (by rw [← h, e]; rfl)

set_option maxHeartbeats 4000000 in
set_option maxRecDepth 20000 in
theorem tag_any (K : Box) (l : List UInt8) (w : World) (h : Rd K l w) :
    Calls Tryd.prog 23 #[K.ptr] w (PostO K w (tagP l)) := by
  obtain ⟨c, hc⟩ : ∃ c, chL l = c := ⟨_, rfl⟩
  obtain ⟨k, hk⟩ : ∃ k, lenL l = k := ⟨_, rfl⟩
  obtain ⟨R, hR⟩ : ∃ R, tagP l = R := ⟨_, rfl⟩
  rw [hR]
  have HR : Hid (R = if c = -1 then (0, 0, l) else if tagB c = true then (5, 0, tl l) else if c = 34 ∨ c = 39 then attrP l else nameP true l) := Lib.hid (by rw [← hR, tagP, hc])
  have Hat := Lib.hid (at_go h hk)
  have hat : ((K.at l : Nat) : Int) + (k : Nat) ≤ K.s.size := by rw [Hat.out]; have := at_le K (tl l); omega
  have hs := h.small
  have Hk := Lib.hid hk
  have Hc := Lib.hid hc
  have H := Lib.hid h
  clear h hR hc hk
  go_enter Tryd.func23, Tryd.ntmps23
  go_wp2_with fail
  refine (look_any K l c k Hc.out Hk.out _ H.out).mono ?_
  rintro e w1 ⟨rfl, h1, hb1⟩
  have H1 := Lib.hid h1
  have HB1 := Lib.hid (Bar.of (b := K.b) hb1)
  have g0 := H1.out.cell0
  have g1 := H1.out.frozen 0
  clear h1 hb1
  by_cases a1 : c = -1
  · have Hf : Hid (R = (0, 0, l)) := Lib.hid (by rw [HR.out, if_pos a1])
    subst a1
    go_wp2_with fail
    go_ret2
    exact post_o Hf.out H1.out HB1.out
  by_cases a2 : tagB c = true
  · have Hf : Hid (R = (5, 0, tl l)) := Lib.hid (by rw [HR.out, if_neg a1, if_pos a2])
    rcases of_decide_eq_true a2 with rfl | rfl | rfl | rfl | rfl | rfl | rfl
    all_goals
      clear a1 a2
      go_wp2_with fail
      go_ret2
      exact post_o Hf.out (H1.out.to (tl_suf l) Hat.out) (HB1.out.set _ _ _)
  by_cases a3 : c = 34 ∨ c = 39
  · have Hf : Hid (R = attrP l) := Lib.hid (by rw [HR.out, if_neg a1, if_neg a2, if_pos a3])
    rcases a3 with rfl | rfl
    all_goals
      clear a1 a2
      go_wp2_with fail
      refine (attribute_any K l _ Hc.out (by decide) _ H1.out).mono ?_
      rintro e w3 ⟨rfl, h3, hb3⟩
      have H3 := Lib.hid h3; clear h3
      go_wp2_with fail
      go_ret2
      exact post_o Hf.out H3.out (HB1.out.trans hb3)
  have Hf : Hid (R = nameP true l) := Lib.hid (by rw [HR.out, if_neg a1, if_neg a2, if_neg a3])
  have fm : (c == -1) = false := beq_eq_false_iff_ne.2 a1
  have f60 : (c == 60) = false := beq_eq_false_iff_ne.2 (fun e => a2 (by rw [e]; rfl))
  have f62 : (c == 62) = false := beq_eq_false_iff_ne.2 (fun e => a2 (by rw [e]; rfl))
  have f47 : (c == 47) = false := beq_eq_false_iff_ne.2 (fun e => a2 (by rw [e]; rfl))
  have f123 : (c == 123) = false := beq_eq_false_iff_ne.2 (fun e => a2 (by rw [e]; rfl))
  have f61 : (c == 61) = false := beq_eq_false_iff_ne.2 (fun e => a2 (by rw [e]; rfl))
  have f46 : (c == 46) = false := beq_eq_false_iff_ne.2 (fun e => a2 (by rw [e]; rfl))
  have f58 : (c == 58) = false := beq_eq_false_iff_ne.2 (fun e => a2 (by rw [e]; rfl))
  have f34 : (c == 34) = false := beq_eq_false_iff_ne.2 (fun e => a3 (Or.inl e))
  have f39 : (c == 39) = false := beq_eq_false_iff_ne.2 (fun e => a3 (Or.inr e))
  clear a1 a2 a3 HR
  go_wp2_with fail
  refine (name_any K l true _ H1.out).mono ?_
  rintro e w3 ⟨rfl, h3, hb3⟩
  have H3 := Lib.hid h3; clear h3
  go_wp2_with fail
  go_ret2
  exact post_o Hf.out H3.out (HB1.out.trans hb3)

set_option maxHeartbeats 16000000 in
set_option maxRecDepth 20000 in
theorem common_any (K : Box) (l : List UInt8) (x : Bool) (w : World) (h : Rd K l w) :
    Calls Tryd.prog 24 #[K.ptr, .bool x] w (PostO K w (commonP x l)) := by
  obtain ⟨c, hc⟩ : ∃ c, chL l = c := ⟨_, rfl⟩
  obtain ⟨k, hk⟩ : ∃ k, lenL l = k := ⟨_, rfl⟩
  obtain ⟨R, hR⟩ : ∃ R, commonP x l = R := ⟨_, rfl⟩
  rw [hR]
  have HR : Hid (R = if c = -1 then (0, 0, l) else if c = 34 ∨ c = 39 then litP l else if c = 96 then templateP 7 8 l else if c = 35 then privP l
  else if c = 46 then (if digAt l.tail = true then numP l else punP l)
  else if digC c = true then numP l
  else if c = 47 then (if x = true then regexP l else punP l)
  else if punC c = true then punP l else nameP false l) := Lib.hid (by rw [← hR, commonP, hc])
  have Hk := Lib.hid hk
  have Hc := Lib.hid hc
  have H := Lib.hid h
  clear h hR hc hk
  go_enter Tryd.func24, Tryd.ntmps24
  go_wp2_with fail
  refine (look_any K l c k Hc.out Hk.out _ H.out).mono ?_
  rintro e w1 ⟨rfl, h1, hb1⟩
  have H1 := Lib.hid h1
  have HB1 := Lib.hid (Bar.of (b := K.b) hb1)
  clear h1 hb1
  by_cases a1 : c = -1
  · have Hf : Hid (R = (0, 0, l)) := Lib.hid (by rw [HR.out, if_pos a1])
    subst a1
    go_wp2_with fail
    go_ret2
    exact post_o Hf.out H1.out HB1.out
  have HN := Lib.hid (ne_nil Hc.out a1)
  by_cases a2 : c = 34 ∨ c = 39
  · have Hf : Hid (R = litP l) := Lib.hid (by rw [HR.out, if_neg a1, if_pos a2])
    rcases a2 with rfl | rfl
    all_goals
      clear a1
      go_wp2_with fail
      refine (literal_any K l _ Hc.out (by decide) _ H1.out).mono ?_
      rintro e w3 ⟨rfl, h3, hb3⟩
      have H3 := Lib.hid h3; clear h3
      go_wp2_with fail
      go_ret2
      exact post_o Hf.out H3.out (HB1.out.trans hb3)
  by_cases a3 : c = 96
  · have Hf : Hid (R = templateP 7 8 l) := Lib.hid (by rw [HR.out, if_neg a1, if_neg a2, if_pos a3])
    subst a3
    clear a1 a2
    go_wp2_with fail
    refine (template_any K l 7 8 (by rw [Hc.out]; decide) _ H1.out).mono ?_
    rintro e w3 ⟨rfl, h3, hb3⟩
    have H3 := Lib.hid h3; clear h3
    go_wp2_with fail
    go_ret2
    exact post_o Hf.out H3.out (HB1.out.trans hb3)
  by_cases a4 : c = 35
  · have Hf : Hid (R = privP l) := Lib.hid (by rw [HR.out, if_neg a1, if_neg a2, if_neg a3, if_pos a4])
    subst a4
    clear a1 a2 a3
    go_wp2_with fail
    refine (private_any K l Hc.out _ H1.out).mono ?_
    rintro e w3 ⟨rfl, h3, hb3⟩
    have H3 := Lib.hid h3; clear h3
    go_wp2_with fail
    go_ret2
    exact post_o Hf.out H3.out (HB1.out.trans hb3)
  by_cases a5 : c = 46
  · have Hf0 : Hid (R = if digAt l.tail = true then numP l else punP l) := Lib.hid (by rw [HR.out, if_neg a1, if_neg a2, if_neg a3, if_neg a4, if_pos a5])
    subst a5
    clear a1 a2 a3 a4
    obtain ⟨v, hv⟩ : ∃ v, digAt l.tail = v := ⟨_, rfl⟩
    have Hv := Lib.hid hv
    clear hv
    have HL : Hid (1 ≤ l.length) := Lib.hid (Str.pos_of_ne HN.out)
    go_wp2_with fail
    refine (digitBehind_any K l 1 HL.out v (by rw [List.drop_one]; exact Hv.out) _ H1.out).mono ?_
    rintro e w2 ⟨rfl, h2, hb2⟩
    have H2 := Lib.hid h2
    have HB2 := Lib.hid (HB1.out.on hb2)
    clear h2 hb2
    cases v with
    | true =>
      have Hf : Hid (R = numP l) := Lib.hid (by rw [Hf0.out, if_pos Hv.out])
      go_wp2_with fail
      refine (number_any K l (Or.inr Hc.out) _ H2.out).mono ?_
      rintro e w3 ⟨rfl, h3, hb3⟩
      have H3 := Lib.hid h3; clear h3
      go_wp2_with fail
      go_ret2
      exact post_o Hf.out H3.out (HB2.out.trans hb3)
    | false =>
      have Hf : Hid (R = punP l) := Lib.hid (by rw [Hf0.out, if_neg (by rw [Hv.out]; decide)])
      go_wp2_with fail
      refine (punctuator_any K l HN.out _ H2.out).mono ?_
      rintro e w3 ⟨rfl, h3, hb3⟩
      have H3 := Lib.hid h3; clear h3
      go_wp2_with fail
      go_ret2
      exact post_o Hf.out H3.out (HB2.out.trans hb3)
  by_cases a6 : digC c = true
  · have Hf : Hid (R = numP l) := Lib.hid (by rw [HR.out, if_neg a1, if_neg a2, if_neg a3, if_neg a4, if_neg a5, if_pos a6])
    have hd := of_decide_eq_true a6
    have hd2 : c = 48 ∨ c = 49 ∨ c = 50 ∨ c = 51 ∨ c = 52 ∨ c = 53 ∨ c = 54 ∨ c = 55 ∨ c = 56 ∨ c = 57 := by omega
    clear hd a1 a2 a3 a4 a5 a6 HR
    rcases hd2 with rfl | rfl | rfl | rfl | rfl | rfl | rfl | rfl | rfl | rfl
    all_goals
      go_wp2_with fail
      refine (number_any K l (Or.inl (by rw [Hc.out]; rfl)) _ H1.out).mono ?_
      rintro e w3 ⟨rfl, h3, hb3⟩
      have H3 := Lib.hid h3; clear h3
      go_wp2_with fail
      go_ret2
      exact post_o Hf.out H3.out (HB1.out.trans hb3)
  by_cases a7 : c = 47
  · have Hf0 : Hid (R = if x = true then regexP l else punP l) := Lib.hid (by rw [HR.out, if_neg a1, if_neg a2, if_neg a3, if_neg a4, if_neg a5, if_neg a6, if_pos a7])
    subst a7
    clear a1 a2 a3 a4 a5 a6 HR
    cases x with
    | true =>
      have Hf : Hid (R = regexP l) := Lib.hid (by rw [Hf0.out, if_pos rfl])
      go_wp2_with fail
      refine (regex_any K l (by rw [Hc.out]; decide) _ H1.out).mono ?_
      rintro e w3 ⟨rfl, h3, hb3⟩
      have H3 := Lib.hid h3; clear h3
      go_wp2_with fail
      go_ret2
      exact post_o Hf.out H3.out (HB1.out.trans hb3)
    | false =>
      have Hf : Hid (R = punP l) := Lib.hid (by rw [Hf0.out, if_neg (by decide)])
      go_wp2_with fail
      refine (punctuator_any K l HN.out _ H1.out).mono ?_
      rintro e w3 ⟨rfl, h3, hb3⟩
      have H3 := Lib.hid h3; clear h3
      go_wp2_with fail
      go_ret2
      exact post_o Hf.out H3.out (HB1.out.trans hb3)
  by_cases a8 : punC c = true
  · have Hf : Hid (R = punP l) := Lib.hid (by rw [HR.out, if_neg a1, if_neg a2, if_neg a3, if_neg a4, if_neg a5, if_neg a6, if_neg a7, if_pos a8])
    have hd2 := of_decide_eq_true a8
    clear a1 a2 a3 a4 a5 a6 a7 a8 HR
    rcases hd2 with rfl | rfl | rfl | rfl | rfl | rfl | rfl | rfl | rfl | rfl | rfl | rfl | rfl | rfl | rfl | rfl | rfl | rfl | rfl | rfl | rfl | rfl
    all_goals
      go_wp2_with fail
      refine (punctuator_any K l HN.out _ H1.out).mono ?_
      rintro e w3 ⟨rfl, h3, hb3⟩
      have H3 := Lib.hid h3; clear h3
      go_wp2_with fail
      go_ret2
      exact post_o Hf.out H3.out (HB1.out.trans hb3)
  have Hf : Hid (R = nameP false l) := Lib.hid (by rw [HR.out, if_neg a1, if_neg a2, if_neg a3, if_neg a4, if_neg a5, if_neg a6, if_neg a7, if_neg a8])
  have fm : (c == -1) = false := beq_eq_false_iff_ne.2 a1
  have f34 : (c == 34) = false := beq_eq_false_iff_ne.2 (fun e => a2 (Or.inl e))
  have f39 : (c == 39) = false := beq_eq_false_iff_ne.2 (fun e => a2 (Or.inr e))
  have f96 : (c == 96) = false := beq_eq_false_iff_ne.2 (fun e => a3 e)
  have f35 : (c == 35) = false := beq_eq_false_iff_ne.2 (fun e => a4 e)
  have f46 : (c == 46) = false := beq_eq_false_iff_ne.2 (fun e => a5 e)
  have f47 : (c == 47) = false := beq_eq_false_iff_ne.2 (fun e => a7 e)
  have f48 : (c == 48) = false := beq_eq_false_iff_ne.2 (fun e => a6 (by rw [e]; rfl))
  have f49 : (c == 49) = false := beq_eq_false_iff_ne.2 (fun e => a6 (by rw [e]; rfl))
  have f50 : (c == 50) = false := beq_eq_false_iff_ne.2 (fun e => a6 (by rw [e]; rfl))
  have f51 : (c == 51) = false := beq_eq_false_iff_ne.2 (fun e => a6 (by rw [e]; rfl))
  have f52 : (c == 52) = false := beq_eq_false_iff_ne.2 (fun e => a6 (by rw [e]; rfl))
  have f53 : (c == 53) = false := beq_eq_false_iff_ne.2 (fun e => a6 (by rw [e]; rfl))
  have f54 : (c == 54) = false := beq_eq_false_iff_ne.2 (fun e => a6 (by rw [e]; rfl))
  have f55 : (c == 55) = false := beq_eq_false_iff_ne.2 (fun e => a6 (by rw [e]; rfl))
  have f56 : (c == 56) = false := beq_eq_false_iff_ne.2 (fun e => a6 (by rw [e]; rfl))
  have f57 : (c == 57) = false := beq_eq_false_iff_ne.2 (fun e => a6 (by rw [e]; rfl))
  have f123 : (c == 123) = false := beq_eq_false_iff_ne.2 (fun e => a8 (by rw [e]; rfl))
  have f125 : (c == 125) = false := beq_eq_false_iff_ne.2 (fun e => a8 (by rw [e]; rfl))
  have f40 : (c == 40) = false := beq_eq_false_iff_ne.2 (fun e => a8 (by rw [e]; rfl))
  have f41 : (c == 41) = false := beq_eq_false_iff_ne.2 (fun e => a8 (by rw [e]; rfl))
  have f91 : (c == 91) = false := beq_eq_false_iff_ne.2 (fun e => a8 (by rw [e]; rfl))
  have f93 : (c == 93) = false := beq_eq_false_iff_ne.2 (fun e => a8 (by rw [e]; rfl))
  have f59 : (c == 59) = false := beq_eq_false_iff_ne.2 (fun e => a8 (by rw [e]; rfl))
  have f44 : (c == 44) = false := beq_eq_false_iff_ne.2 (fun e => a8 (by rw [e]; rfl))
  have f60 : (c == 60) = false := beq_eq_false_iff_ne.2 (fun e => a8 (by rw [e]; rfl))
  have f62 : (c == 62) = false := beq_eq_false_iff_ne.2 (fun e => a8 (by rw [e]; rfl))
  have f61 : (c == 61) = false := beq_eq_false_iff_ne.2 (fun e => a8 (by rw [e]; rfl))
  have f33 : (c == 33) = false := beq_eq_false_iff_ne.2 (fun e => a8 (by rw [e]; rfl))
  have f43 : (c == 43) = false := beq_eq_false_iff_ne.2 (fun e => a8 (by rw [e]; rfl))
  have f45 : (c == 45) = false := beq_eq_false_iff_ne.2 (fun e => a8 (by rw [e]; rfl))
  have f42 : (c == 42) = false := beq_eq_false_iff_ne.2 (fun e => a8 (by rw [e]; rfl))
  have f37 : (c == 37) = false := beq_eq_false_iff_ne.2 (fun e => a8 (by rw [e]; rfl))
  have f38 : (c == 38) = false := beq_eq_false_iff_ne.2 (fun e => a8 (by rw [e]; rfl))
  have f124 : (c == 124) = false := beq_eq_false_iff_ne.2 (fun e => a8 (by rw [e]; rfl))
  have f94 : (c == 94) = false := beq_eq_false_iff_ne.2 (fun e => a8 (by rw [e]; rfl))
  have f126 : (c == 126) = false := beq_eq_false_iff_ne.2 (fun e => a8 (by rw [e]; rfl))
  have f63 : (c == 63) = false := beq_eq_false_iff_ne.2 (fun e => a8 (by rw [e]; rfl))
  have f58 : (c == 58) = false := beq_eq_false_iff_ne.2 (fun e => a8 (by rw [e]; rfl))
  clear a1 a2 a3 a4 a5 a6 a7 a8 HR
  go_wp2_with fail
  refine (name_any K l false _ H1.out).mono ?_
  rintro e w3 ⟨rfl, h3, hb3⟩
  have H3 := Lib.hid h3; clear h3
  go_wp2_with fail
  go_ret2
  exact post_o Hf.out H3.out (HB1.out.trans hb3)

set_option maxHeartbeats 4000000 in
set_option maxRecDepth 20000 in
theorem token_any (K : Box) (l : List UInt8) (g : Int) (w : World) (h : Rd K l w) (h3 : g = 3 → chL l = 125) :
    Calls Tryd.prog 13 #[K.ptr, .int .i64 g] w (PostO K w (tokenP g l)) := by
  obtain ⟨R, hR⟩ : ∃ R, tokenP g l = R := ⟨_, rfl⟩
  rw [hR]
  have HR := Lib.hid (hR.symm.trans (tokenP.eq_1 g l))
  have H3 := Lib.hid h3
  have H1 := Lib.hid h
  have HB1 : Hid (Bar K.b w w) := Lib.hid (Bar.refl _ _)
  clear h hR h3
  go_enter Tryd.func13, Tryd.ntmps13
  by_cases a1 : g = 3
  · have Hf : Hid (R = templateP 9 10 l) := Lib.hid (by rw [HR.out, if_pos a1])
    have HC := Lib.hid (H3.out a1)
    clear H3
    subst a1
    go_wp2_with fail
    refine (template_any K l 9 10 (by rw [HC.out]; decide) _ H1.out).mono ?_
    rintro e w3 ⟨rfl, h3, hb3⟩
    have H3 := Lib.hid h3; clear h3
    go_wp2_with fail
    go_ret2
    exact post_o Hf.out H3.out (HB1.out.trans hb3)
  by_cases a2 : g = 4
  · have Hf : Hid (R = childP l) := Lib.hid (by rw [HR.out, if_neg a1, if_pos a2])
    clear H3
    subst a2
    go_wp2_with fail
    refine (child_any K l _ H1.out).mono ?_
    rintro e w3 ⟨rfl, h3, hb3⟩
    have H3 := Lib.hid h3; clear h3
    go_wp2_with fail
    go_ret2
    exact post_o Hf.out H3.out (HB1.out.trans hb3)
  by_cases a3 : g = 5
  · have Hf : Hid (R = tagP l) := Lib.hid (by rw [HR.out, if_neg a1, if_neg a2, if_pos a3])
    clear H3
    subst a3
    go_wp2_with fail
    refine (tag_any K l _ H1.out).mono ?_
    rintro e w3 ⟨rfl, h3, hb3⟩
    have H3 := Lib.hid h3; clear h3
    go_wp2_with fail
    go_ret2
    exact post_o Hf.out H3.out (HB1.out.trans hb3)
  have f3 : (g == 3) = false := beq_eq_false_iff_ne.2 a1
  have f4 : (g == 4) = false := beq_eq_false_iff_ne.2 a2
  have f5 : (g == 5) = false := beq_eq_false_iff_ne.2 a3
  by_cases a4 : g = 2
  · have Hf : Hid (R = commonP true l) := Lib.hid (by rw [HR.out, if_neg a1, if_neg a2, if_neg a3, decide_eq_true a4])
    clear H3 a1 a2 a3
    subst a4
    go_wp2_with fail
    refine (common_any K l true _ H1.out).mono ?_
    rintro e w3 ⟨rfl, h3, hb3⟩
    have H3 := Lib.hid h3; clear h3
    go_wp2_with fail
    go_ret2
    exact post_o Hf.out H3.out (HB1.out.trans hb3)
  · have Hf : Hid (R = commonP false l) := Lib.hid (by rw [HR.out, if_neg a1, if_neg a2, if_neg a3, decide_eq_false a4])
    have f2 : (g == 2) = false := beq_eq_false_iff_ne.2 a4
    clear H3 a1 a2 a3 a4
    go_wp2_with fail
    refine (common_any K l false _ H1.out).mono ?_
    rintro e w3 ⟨rfl, h3, hb3⟩
    have H3 := Lib.hid h3; clear h3
    go_wp2_with fail
    go_ret2
    exact post_o Hf.out H3.out (HB1.out.trans hb3)

end Lex
end Go.Proofs.YtggibhlmnfodaaaDoor
