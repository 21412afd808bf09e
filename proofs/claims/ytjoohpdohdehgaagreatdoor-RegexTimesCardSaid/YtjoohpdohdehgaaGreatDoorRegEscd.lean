/-
  What begins with a backslash.
-/
import Derived.Test.YtjoohpdohdehgaaGreatDoorRegMark
namespace Go.Proofs.YtjoohpdohdehgaaGreatDoor
namespace Reg
open Go.RowKit Go.Maps Go.WideMaps
open Str (lenL runeL hexV)

set_option maxHeartbeats 4000000 in
set_option maxRecDepth 20000 in
theorem escaped_any (C : Ctx) (st : St) (v : Value) (w : World) (h : Full C st v w) (hq : hd st.rest = 92) :
    Calls Tryz.prog 55 #[.pointer (some ⟨C.b, 0, none⟩)] w (PostS C w (fun b : Bool => .bool b) (escdP C.u st)) := by
  have hsm : C.s.size ≤ 4096 := h.rd.small
  have hrb := h.rb
  obtain ⟨x, t, hx, -⟩ := hd_cons hq (by decide)
  have g1 := h.rd.cell1
  have gf := h.rd.frozen 1
  have HS := Lib.hid (h.step hx)
  have Hp0 : Hid ((((C.box st.groups v).at st.rest : Nat) : Int) = ((C.s.size - st.rest.length : Nat) : Int)) := Lib.hid rfl
  have hle : (C.box st.groups v).at st.rest ≤ C.s.size := at_le (C.box st.groups v) st.rest
  have hlen : st.rest.length = t.length + 1 := by rw [hx]; rfl
  have HLen := Lib.hid hlen
  have H := Lib.hid h
  have Htl : Hid (st.rest.tail = t) := Lib.hid (by rw [hx]; rfl)
  obtain ⟨R, hR⟩ : ∃ R, escdP C.u st = R := ⟨_, rfl⟩
  have HN := Lib.hid hR
  rw [hR]; clear hR hlen
  rw [hx] at g1 hle
  have hbw0 := HS.out.2
  have hF1 := HS.out.1
  have HX := Lib.hid hx
  have hrg := hd_range t
  clear h hq hx
  -- the place, a step, a peek
  go_enter Tryz.func55, Tryz.ntmps55
  go_wp2_with fail
  clear g1 gf HS
  generalize w.setCell ⟨C.b, 1, none⟩ (.int .i64 ((((C.box st.groups v).at (x :: t) : Nat) : Int) + 1)) = w1 at *
  have HF1 := Lib.hid hF1; clear hF1
  refine (peek_any (C.box st.groups v) t _ HF1.out.rd).mono ?_
  rintro e w2 ⟨rfl, hr2, hb2⟩
  have hF2 : Full C (st.at t) v w2 := HF1.out.bar hr2 (Bar.of hb2) (Nat.le_refl _)
  have hbw2 : Bar C.b w w2 := hbw0.on hb2
  have g1 := hr2.cell1
  have gf := hr2.frozen 1
  have HF2 := Lib.hid hF2
  clear hF2 hr2 hb2 hbw0 HF1
  by_cases e1 : hd t = 98
  · have HV : Hid (R = .ok (false, st.at t.tail)) := Lib.hid (by rw [← HN.out, escdP, Htl.out, if_pos (Or.inl e1)])
    obtain ⟨y, t2, hy, -⟩ := hd_cons e1 (by decide)
    have E := Lib.hid e1
    have Ht2 : Hid (t.tail = t2) := Lib.hid (by rw [hy]; rfl)
    have HS := Lib.hid (HF2.out.step hy)
    rw [hy] at g1
    have hle2 : (C.box st.groups v).at (y :: t2) ≤ C.s.size := at_le _ _
    clear e1 hy
    rw [E.out]
    go_wp2_with fail
    go_ret
    rw [HV.out, Ht2.out]
    exact ⟨rfl, ⟨v, HS.out.1⟩, H.out.below (hbw2.trans HS.out.2)⟩
  by_cases e2 : hd t = 66
  · have HV : Hid (R = .ok (false, st.at t.tail)) := Lib.hid (by rw [← HN.out, escdP, Htl.out, if_pos (Or.inr e2)])
    obtain ⟨y, t2, hy, -⟩ := hd_cons e2 (by decide)
    have E := Lib.hid e2
    have Ht2 : Hid (t.tail = t2) := Lib.hid (by rw [hy]; rfl)
    have HS := Lib.hid (HF2.out.step hy)
    rw [hy] at g1
    have hle2 : (C.box st.groups v).at (y :: t2) ≤ C.s.size := at_le _ _
    clear e1 e2 hy
    rw [E.out]
    go_wp2_with fail
    go_ret
    rw [HV.out, Ht2.out]
    exact ⟨rfl, ⟨v, HS.out.1⟩, H.out.below (hbw2.trans HS.out.2)⟩
  have b1 : (hd t == 98) = false := beq_eq_false_iff_ne.2 e1
  have b2 : (hd t == 66) = false := beq_eq_false_iff_ne.2 e2
  by_cases e3 : hd t = 107
  · have HV : Hid (R = match expP 60 t.tail with
      | .error e => .error e
      | .ok m => match nameP m with
        | .error e => .error e
        | .ok r => .ok (true, { st with rest := r.2, refs := st.refs ++ [⟨st.rest.length, true, r.1⟩] })) := Lib.hid (by rw [← HN.out, escdP, Htl.out, if_neg (fun h => h.elim e1 e2), if_pos e3]; rfl)
    obtain ⟨y, t2, hy, -⟩ := hd_cons e3 (by decide)
    have E := Lib.hid e3; have HY := Lib.hid hy
    have Ht2 : Hid (t.tail = t2) := Lib.hid (by rw [hy]; rfl)
    have hl2 : t.length = t2.length + 1 := by rw [hy]; rfl
    have HL2 := Lib.hid hl2
    have HS := Lib.hid (HF2.out.step hy)
    rw [hy] at g1
    have hle2 : (C.box st.groups v).at (y :: t2) ≤ C.s.size := at_le _ _
    clear e1 e2 e3 hy b1 b2 hl2
    rw [E.out]
    go_wp2_with fail
    have hF3 : Full C (st.at t2) v _ := HS.out.1
    have hbw3 : Bar C.b w _ := hbw2.trans HS.out.2
    clear HS g1 gf hbw2
    have e0 : (C.box (st.at t).groups v).at (y :: t2) = (C.box st.groups v).at (y :: t2) := rfl
    rw [e0] at hF3 hbw3
    clear e0
    generalize w2.setCell ⟨C.b, 1, none⟩ (.int .i64 ((((C.box st.groups v).at (y :: t2) : Nat) : Int) + 1)) = w3 at *
    have HF3 := Lib.hid hF3; clear hF3
    refine (expect_any (C.box st.groups v) t2 60 (by decide) _ HF3.out.rd).mono ?_
    intro e w4 hp
    cases hc : expP 60 t2 with
    | error z =>
      rw [hc] at hp
      obtain ⟨rfl, hb4⟩ := hp
      have HV2 : Hid (R = .error z) := Lib.hid (by rw [HV.out, Ht2.out, hc])
      clear hc
      unfold thrown
      go_wp2_with fail
      rw [HV2.out]
      exact ⟨rfl, rfl, H.out.below (hbw3.trans hb4)⟩
    | ok m =>
      rw [hc] at hp
      obtain ⟨rfl, hr4, hb4⟩ := hp
      have hlm := exp_len (by decide) hc
      have HV2 : Hid (R = match nameP m with
        | .error e => .error e
        | .ok r => .ok (true, { st with rest := r.2, refs := st.refs ++ [⟨st.rest.length, true, r.1⟩] })) := Lib.hid (by rw [HV.out, Ht2.out, hc])
      have hF4 : Full C (st.at m) v w4 := HF3.out.bar hr4 hb4 (Nat.le_of_lt hlm)
      have HF4 := Lib.hid hF4
      have hbw4 := hbw3.trans hb4
      have HLm := Lib.hid hlm
      clear hc hr4 hb4 hF4 hlm hbw3
      go_wp2_with fail
      refine (name_any (C.box st.groups v) m _ HF4.out.rd).mono ?_
      intro e w5 hp
      cases hc : nameP m with
      | error z =>
        rw [hc] at hp
        obtain ⟨rfl, hb5⟩ := hp
        have HV3 : Hid (R = .error z) := Lib.hid (by rw [HV2.out, hc])
        clear hc
        unfold thrown
        go_wp2_with fail
        rw [HV3.out]
        exact ⟨rfl, rfl, H.out.below (hbw4.trans hb5)⟩
      | ok r =>
        rw [hc] at hp
        obtain ⟨rfl, hr5, hb5⟩ := hp
        have hln := name_len hc
        have HV3 : Hid (R = .ok (true, { st with rest := r.2, refs := st.refs ++ [⟨st.rest.length, true, r.1⟩] })) := Lib.hid (by rw [HV2.out, hc])
        have hF5 : Full C (st.at r.2) v w5 := HF4.out.bar hr5 hb5 (Nat.le_of_lt hln)
        have HF5 := Lib.hid hF5
        have hbw5 := H.out.below (hbw4.trans hb5)
        have hrb5 : (st.at r.2).refs.length + 1 + (st.at r.2).rest.length ≤ C.s.size := by
          have h1 := HLen.out; have h2 := HL2.out; have h3 := HLm.out
          show st.refs.length + 1 + r.2.length ≤ C.s.size
          omega
        clear hc hr5 hb5 hF5 hln hbw4
        go_wp2_with fail
        refine (referName_any C (st.at r.2) v _ HF5.out st.rest.length r.1 _ (by rw [← HX.out]; rfl) hrb5).mono ?_
        rintro e w6 ⟨rfl, hF6, hb6⟩
        have HF6 := Lib.hid hF6; clear hF6
        go_wp2_with fail
        go_ret
        rw [HV3.out]
        exact ⟨rfl, HF6.out, hbw5.trans hb6⟩
  have b3 : (hd t == 107) = false := beq_eq_false_iff_ne.2 e3
  by_cases e4 : hd t ≠ 48 ∧ digB (hd t) = true
  · have HV : Hid (R = match numP t with
      | .error e => .error e
      | .ok r => .ok (true, { st with rest := r.2, refs := st.refs ++ [⟨st.rest.length, false, r.1⟩] })) := Lib.hid (by rw [← HN.out, escdP, Htl.out, if_neg (fun h => h.elim e1 e2), if_neg e3, if_pos e4]; rfl)
    have b4 : (hd t != 48) = true := by rw [bne_iff_ne]; exact e4.1
    have HD := Lib.hid e4.2
    clear e1 e2 e3 e4
    go_wp2_with fail
    refine (digit_any _ _).mono ?_
    rintro e w3 ⟨rfl, rfl⟩
    rw [HD.out]
    go_wp2_with fail
    refine (number_any (C.box st.groups v) t _ HF2.out.rd).mono ?_
    intro e w5 hp
    cases hc : numP t with
    | error z =>
      rw [hc] at hp
      obtain ⟨rfl, hb5⟩ := hp
      have HV3 : Hid (R = .error z) := Lib.hid (by rw [HV.out, hc])
      clear hc
      unfold thrown
      go_wp2_with fail
      rw [HV3.out]
      exact ⟨rfl, rfl, H.out.below (hbw2.trans hb5)⟩
    | ok r =>
      rw [hc] at hp
      obtain ⟨rfl, hr5, hb5⟩ := hp
      have hln := num_len hc
      have HV3 : Hid (R = .ok (true, { st with rest := r.2, refs := st.refs ++ [⟨st.rest.length, false, r.1⟩] })) := Lib.hid (by rw [HV.out, hc])
      have hF5 : Full C (st.at r.2) v w5 := HF2.out.bar hr5 hb5 (Nat.le_of_lt hln)
      have HF5 := Lib.hid hF5
      have hbw5 := H.out.below (hbw2.trans hb5)
      have hrb5 : (st.at r.2).refs.length + 1 + (st.at r.2).rest.length ≤ C.s.size := by
        have h1 := HLen.out
        show st.refs.length + 1 + r.2.length ≤ C.s.size
        omega
      clear hc hr5 hb5 hF5 hln hbw2 g1 gf
      go_wp2_with fail
      refine (referNumber_any C (st.at r.2) v _ HF5.out st.rest.length r.1 _ (by rw [← HX.out]; rfl) hrb5).mono ?_
      rintro e w6 ⟨rfl, hF6, hb6⟩
      have HF6 := Lib.hid hF6; clear hF6
      go_wp2_with fail
      go_ret
      rw [HV3.out]
      exact ⟨rfl, HF6.out, hbw5.trans hb6⟩
  · have HV : Hid (R = match escP C.u t with
      | .error e => .error e
      | .ok r => .ok (true, st.at r.2)) := Lib.hid (by rw [← HN.out, escdP, Htl.out, if_neg (fun h => h.elim e1 e2), if_neg e3, if_neg e4]; rfl)
    by_cases e5 : hd t = 48
    · have b4 : (hd t != 48) = false := by rw [e5]; rfl
      clear e1 e2 e3 e4 e5
      go_wp2_with fail
      refine (escape_any (C.box st.groups v) t _ HF2.out.rd).mono ?_
      intro e w5 hp
      cases hc : escP C.u t with
      | error z =>
        rw [show escP (C.box st.groups v).u t = escP C.u t from rfl, hc] at hp
        obtain ⟨rfl, hb5⟩ := hp
        have HV3 : Hid (R = .error z) := Lib.hid (by rw [HV.out, hc])
        clear hc
        unfold thrown
        go_wp2_with fail
        rw [HV3.out]
        exact ⟨rfl, rfl, H.out.below (hbw2.trans hb5)⟩
      | ok r =>
        rw [show escP (C.box st.groups v).u t = escP C.u t from rfl, hc] at hp
        obtain ⟨rfl, hr5, hb5⟩ := hp
        have hln := esc_len hc
        have HV3 : Hid (R = .ok (true, st.at r.2)) := Lib.hid (by rw [HV.out, hc])
        have hF5 : Full C (st.at r.2) v w5 := HF2.out.bar hr5 hb5 (Nat.le_of_lt hln)
        have HF5 := Lib.hid hF5
        have hbw5 := H.out.below (hbw2.trans hb5)
        clear hc hr5 hb5 hF5 hln hbw2 g1 gf
        go_wp2_with fail
        go_ret
        rw [HV3.out]
        exact ⟨rfl, ⟨v, HF5.out⟩, hbw5⟩
    · have b4 : (hd t != 48) = true := by rw [bne_iff_ne]; exact e5
      have HD : Hid (digB (hd t) = false) := Lib.hid (by
        cases hd2 : digB (hd t) with
        | false => rfl
        | true => exact absurd ⟨e5, hd2⟩ e4)
      clear e1 e2 e3 e4 e5
      go_wp2_with fail
      refine (digit_any _ _).mono ?_
      rintro e w3 ⟨rfl, rfl⟩
      rw [HD.out]
      go_wp2_with fail
      refine (escape_any (C.box st.groups v) t _ HF2.out.rd).mono ?_
      intro e w5 hp
      cases hc : escP C.u t with
      | error z =>
        rw [show escP (C.box st.groups v).u t = escP C.u t from rfl, hc] at hp
        obtain ⟨rfl, hb5⟩ := hp
        have HV3 : Hid (R = .error z) := Lib.hid (by rw [HV.out, hc])
        clear hc
        unfold thrown
        go_wp2_with fail
        rw [HV3.out]
        exact ⟨rfl, rfl, H.out.below (hbw2.trans hb5)⟩
      | ok r =>
        rw [show escP (C.box st.groups v).u t = escP C.u t from rfl, hc] at hp
        obtain ⟨rfl, hr5, hb5⟩ := hp
        have hln := esc_len hc
        have HV3 : Hid (R = .ok (true, st.at r.2)) := Lib.hid (by rw [HV.out, hc])
        have hF5 : Full C (st.at r.2) v w5 := HF2.out.bar hr5 hb5 (Nat.le_of_lt hln)
        have HF5 := Lib.hid hF5
        have hbw5 := H.out.below (hbw2.trans hb5)
        clear hc hr5 hb5 hF5 hln hbw2 g1 gf
        go_wp2_with fail
        go_ret
        rw [HV3.out]
        exact ⟨rfl, ⟨v, HF5.out⟩, hbw5⟩

end Reg
end Go.Proofs.YtjoohpdohdehgaaGreatDoor
