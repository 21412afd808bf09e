/-
  What tells a group's kind; what begins with a backslash.
-/
import Derived.Test.YtjoohpdohdehgaaGreatDoorRegGroup
namespace Go.Proofs.YtjoohpdohdehgaaGreatDoor
namespace Reg
open Go.RowKit Go.Maps Go.WideMaps
open Str (lenL runeL hexV)

/-- One byte on. -/
theorem Full.step {C : Ctx} {st : St} {v : Value} {w : World} (h : Full C st v w) {x : UInt8} {t : List UInt8} (hl : st.rest = x :: t) :
    Full C (st.at t) v (w.setCell ⟨C.b, 1, none⟩ (.int .i64 ((((C.box st.groups v).at (x :: t) : Nat) : Int) + 1))) ∧ Bar C.b w (w.setCell ⟨C.b, 1, none⟩ (.int .i64 ((((C.box st.groups v).at (x :: t) : Nat) : Int) + 1))) := by
  have hr := h.rd
  rw [hl] at hr
  have hb : Bar C.b w (w.setCell ⟨C.b, 1, none⟩ (.int .i64 ((((C.box st.groups v).at (x :: t) : Nat) : Int) + 1))) := (Bar.refl _ _).set _ _ _
  exact ⟨h.bar (hr.to (tail_suf (x :: t)) (at_tail _ x t hr.len)) hb (by rw [hl]; simp), hb⟩

set_option maxHeartbeats 4000000 in
set_option maxRecDepth 20000 in
theorem mark_any (C : Ctx) (st : St) (v : Value) (w : World) (h : Full C st v w) (hq : st.rest.length + 1 ≤ C.s.size) :
    Calls Tryz.prog 68 #[.pointer (some ⟨C.b, 0, none⟩)] w (PostS C w (fun b : Bool => .bool b) (markP st)) := by
  have hsm : C.s.size ≤ 4096 := h.rd.small
  have H := Lib.hid h; clear h
  obtain ⟨R, hR⟩ : ∃ R, markP st = R := ⟨_, rfl⟩
  have HN := Lib.hid hR
  rw [hR]; clear hR
  have hle : (C.box st.groups v).at st.rest ≤ C.s.size := at_le (C.box st.groups v) st.rest
  have C1 := Lib.hid (peek_any (C.box st.groups v) st.rest w H.out.rd)
  have HP := Lib.hid (fun (w1 : World) (h1 : Rd (C.box st.groups v) st.rest w1) (h2 : Below w.heap.size w w1) => (show Full C st v w1 from H.out.bar h1 (Bar.of h2) (Nat.le_refl _)))
  have HB := Lib.hid (fun (w1 : World) (h2 : Below w.heap.size w w1) => (show Below C.B w w1 from h2.mono H.out.rd.tabs.le))
  by_cases e0 : hd st.rest = -1
  · have HV : Hid (R = wrong st.rest) := Lib.hid (by rw [← HN.out, markP, if_pos e0])
    have E0 := Lib.hid e0; clear e0
    go_enter Tryz.func68, Tryz.ntmps68
    go_wp2_with fail
    refine C1.out.mono ?_
    rintro e w1 ⟨rfl, hr1, hb1⟩
    have HR1 := Lib.hid hr1; clear hr1
    rw [E0.out]
    go_wp2_with fail
    refine (refuse_any _ _ _ HR1.out).mono ?_
    rintro e w2 ⟨rfl, rfl⟩
    unfold thrown
    go_wp2_with fail
    rw [HV.out]
    exact ⟨rfl, rfl, HB.out _ hb1⟩
  by_cases e1 : hd st.rest = 58
  · have HV : Hid (R = .ok (true, st.at st.rest.tail)) := Lib.hid (by rw [← HN.out, markP, if_neg e0, if_pos e1])
    obtain ⟨x, t, hx, -⟩ := hd_cons e1 (by decide)
    have E := Lib.hid e1; have HX := Lib.hid hx
    have Htl : Hid (st.rest.tail = t) := Lib.hid (by rw [hx]; rfl)
    clear hx e0 e1
    go_enter Tryz.func68, Tryz.ntmps68
    go_wp2_with fail
    refine C1.out.mono ?_
    rintro e w1 ⟨rfl, hr1, hb1⟩
    rw [E.out]
    have HF1 := Lib.hid (HP.out _ hr1 hb1)
    have g1 := hr1.cell1
    have gf := hr1.frozen 1
    have HS := Lib.hid (HF1.out.step HX.out)
    rw [HX.out] at g1 hle
    have hbw : Bar C.b w w1 := Bar.of hb1
    clear hr1 hb1
    go_wp2_with fail
    go_ret
    rw [HV.out, Htl.out]
    exact ⟨rfl, ⟨v, HS.out.1⟩, H.out.below (hbw.trans HS.out.2)⟩
  by_cases e2 : hd st.rest = 61
  · have HV : Hid (R = .ok (false, st.at st.rest.tail)) := Lib.hid (by rw [← HN.out, markP, if_neg e0, if_neg e1, if_pos (Or.inl e2)])
    obtain ⟨x, t, hx, -⟩ := hd_cons e2 (by decide)
    have E := Lib.hid e2; have HX := Lib.hid hx
    have Htl : Hid (st.rest.tail = t) := Lib.hid (by rw [hx]; rfl)
    clear hx e0 e1 e2
    go_enter Tryz.func68, Tryz.ntmps68
    go_wp2_with fail
    refine C1.out.mono ?_
    rintro e w1 ⟨rfl, hr1, hb1⟩
    rw [E.out]
    have HF1 := Lib.hid (HP.out _ hr1 hb1)
    have g1 := hr1.cell1
    have gf := hr1.frozen 1
    have HS := Lib.hid (HF1.out.step HX.out)
    rw [HX.out] at g1 hle
    have hbw : Bar C.b w w1 := Bar.of hb1
    clear hr1 hb1
    go_wp2_with fail
    go_ret
    rw [HV.out, Htl.out]
    exact ⟨rfl, ⟨v, HS.out.1⟩, H.out.below (hbw.trans HS.out.2)⟩
  by_cases e3 : hd st.rest = 33
  · have HV : Hid (R = .ok (false, st.at st.rest.tail)) := Lib.hid (by rw [← HN.out, markP, if_neg e0, if_neg e1, if_pos (Or.inr e3)])
    obtain ⟨x, t, hx, -⟩ := hd_cons e3 (by decide)
    have E := Lib.hid e3; have HX := Lib.hid hx
    have Htl : Hid (st.rest.tail = t) := Lib.hid (by rw [hx]; rfl)
    clear hx e0 e1 e2 e3
    go_enter Tryz.func68, Tryz.ntmps68
    go_wp2_with fail
    refine C1.out.mono ?_
    rintro e w1 ⟨rfl, hr1, hb1⟩
    rw [E.out]
    have HF1 := Lib.hid (HP.out _ hr1 hb1)
    have g1 := hr1.cell1
    have gf := hr1.frozen 1
    have HS := Lib.hid (HF1.out.step HX.out)
    rw [HX.out] at g1 hle
    have hbw : Bar C.b w w1 := Bar.of hb1
    clear hr1 hb1
    go_wp2_with fail
    go_ret
    rw [HV.out, Htl.out]
    exact ⟨rfl, ⟨v, HS.out.1⟩, H.out.below (hbw.trans HS.out.2)⟩
  by_cases e4 : hd st.rest = 60
  · have HV : Hid (R = if hd st.rest.tail = 61 ∨ hd st.rest.tail = 33 then .ok (false, st.at st.rest.tail.tail) else match declP (st.at st.rest.tail) with
        | .error e => .error e
        | .ok s => .ok (true, s)) := Lib.hid (by rw [← HN.out, markP, if_neg e0, if_neg e1, if_neg (by omega), if_pos e4]; rfl)
    obtain ⟨x, t, hx, -⟩ := hd_cons e4 (by decide)
    have E4 := Lib.hid e4; have HX := Lib.hid hx; clear e0 e1 e2 e3 e4
    have Htl : Hid (st.rest.tail = t) := Lib.hid (by rw [hx]; rfl)
    clear hx
    go_enter Tryz.func68, Tryz.ntmps68
    go_wp2_with fail
    refine C1.out.mono ?_
    rintro e w1 ⟨rfl, hr1, hb1⟩
    rw [E4.out]
    have HF1 := Lib.hid (HP.out _ hr1 hb1)
    have g1 := hr1.cell1
    have gf := hr1.frozen 1
    have HS := Lib.hid (HF1.out.step HX.out)
    rw [HX.out] at g1 hle
    have hbw : Bar C.b w w1 := Bar.of hb1
    clear hr1 hb1
    go_wp2_with fail
    have hF2 := HS.out.1
    have hbw2 : Bar C.b w _ := hbw.trans HS.out.2
    clear g1 gf hbw
    generalize w1.setCell ⟨C.b, 1, none⟩ (.int .i64 ((((C.box st.groups v).at (x :: t) : Nat) : Int) + 1)) = w2 at *
    have HF2 := Lib.hid hF2; clear hF2
    refine (take_any (C.box st.groups v) t 61 (by decide) _ HF2.out.rd).mono ?_
    rintro e w3 ⟨rfl, hr3, hb3⟩
    by_cases f1 : hd t = 61
    · have eb : (hd t == 61) = true := beq_iff_eq.2 f1
      have hF3 : Full C (st.at t.tail) v w3 := HF2.out.bar (by rw [tak_yes f1] at hr3; exact hr3) hb3 (tail_len t)
      have HV2 : Hid (R = .ok (false, st.at t.tail)) := Lib.hid (by rw [HV.out, Htl.out, if_pos (Or.inl f1)])
      have HF3 := Lib.hid hF3
      have hbw3 := hbw2.trans hb3
      clear f1 hr3 hb3 hF3
      go_wp2_with fail
      go_ret
      rw [HV2.out]
      exact ⟨rfl, ⟨v, HF3.out⟩, H.out.below hbw3⟩
    · have eb : (hd t == 61) = false := beq_eq_false_iff_ne.2 f1
      have hF3 : Full C (st.at t) v w3 := HF2.out.bar (by rw [tak_no f1] at hr3; exact hr3) hb3 (Nat.le_refl _)
      have HF3 := Lib.hid hF3
      have hbw3 := hbw2.trans hb3
      clear hr3 hb3 hF3
      go_wp2_with fail
      refine (take_any (C.box st.groups v) t 33 (by decide) _ HF3.out.rd).mono ?_
      rintro e w4 ⟨rfl, hr4, hb4⟩
      by_cases f2 : hd t = 33
      · have eb2 : (hd t == 33) = true := beq_iff_eq.2 f2
        have hF4 : Full C (st.at t.tail) v w4 := HF3.out.bar (by rw [tak_yes f2] at hr4; exact hr4) hb4 (tail_len t)
        have HV2 : Hid (R = .ok (false, st.at t.tail)) := Lib.hid (by rw [HV.out, Htl.out, if_pos (Or.inr f2)])
        have HF4 := Lib.hid hF4
        have hbw4 := hbw3.trans hb4
        clear f1 f2 hr4 hb4 hF4
        go_wp2_with fail
        go_ret
        rw [HV2.out]
        exact ⟨rfl, ⟨v, HF4.out⟩, H.out.below hbw4⟩
      · have eb2 : (hd t == 33) = false := beq_eq_false_iff_ne.2 f2
        have hF4 : Full C (st.at t) v w4 := HF3.out.bar (by rw [tak_no f2] at hr4; exact hr4) hb4 (Nat.le_refl _)
        have HV2 : Hid (R = match declP (st.at t) with
          | .error e => .error e
          | .ok s => .ok (true, s)) := Lib.hid (by rw [HV.out, Htl.out, if_neg (fun x => x.elim f1 f2)])
        have HF4 := Lib.hid hF4
        have hbw4 := H.out.below (hbw3.trans hb4)
        clear f1 f2 hr4 hb4 hF4
        go_wp2_with fail
        refine (declare_any C (st.at t) v _ HF4.out).mono ?_
        intro e w5 hp
        cases hc : declP (st.at t) with
        | error x =>
          rw [hc] at hp
          obtain ⟨rfl, hb5⟩ := hp
          have HV3 : Hid (R = .error x) := Lib.hid (by rw [HV2.out, hc])
          clear hc
          unfold thrown
          go_wp2_with fail
          rw [HV3.out]
          exact ⟨rfl, rfl, hbw4.trans hb5⟩
        | ok s =>
          rw [hc] at hp
          obtain ⟨rfl, hF5, hb5⟩ := hp
          have HV3 : Hid (R = .ok (true, s)) := Lib.hid (by rw [HV2.out, hc])
          have HF5 := Lib.hid hF5
          clear hc hF5
          go_wp2_with fail
          go_ret
          rw [HV3.out]
          exact ⟨rfl, HF5.out, hbw4.trans hb5⟩
  · have HV : Hid (R = .error (st.rest.length + 1, 400)) := Lib.hid (by rw [← HN.out, markP, if_neg e0, if_neg e1, if_neg (by omega), if_neg e4])
    have b0 : (hd st.rest == -1) = false := beq_eq_false_iff_ne.2 e0
    have b1 : (hd st.rest == 58) = false := beq_eq_false_iff_ne.2 e1
    have b2 : (hd st.rest == 61) = false := beq_eq_false_iff_ne.2 e2
    have b3 : (hd st.rest == 33) = false := beq_eq_false_iff_ne.2 e3
    have b4 : (hd st.rest == 60) = false := beq_eq_false_iff_ne.2 e4
    have hpl : Hid ((((C.box st.groups v).at st.rest : Nat) : Int) - 1 = ((C.s.size - (st.rest.length + 1) : Nat) : Int)) := Lib.hid (by simp only [Box.at]; omega)
    have h1i : (1 : Int) ≤ (((C.box st.groups v).at st.rest : Nat) : Int) := by simp only [Box.at]; omega
    clear e0 e1 e2 e3 e4
    go_enter Tryz.func68, Tryz.ntmps68
    go_wp2_with fail
    refine C1.out.mono ?_
    rintro e w1 ⟨rfl, hr1, hb1⟩
    have g1 := hr1.cell1
    clear hr1
    go_wp2_with fail
    refine (throw_any _ _ _).mono ?_
    rintro e w2 ⟨rfl, rfl⟩
    unfold thrown
    go_wp2_with fail
    rw [HV.out, hpl.out]
    exact ⟨rfl, rfl, HB.out _ hb1⟩

end Reg
end Go.Proofs.YtjoohpdohdehgaaGreatDoor
