/-
  Patterns, alternatives, pieces: each by those of shorter bodies.
-/
import Derived.Test.YtjoohpdohdehgaaGreatDoorRegEscd
import Derived.Test.YtjoohpdohdehgaaGreatDoorRegRead
namespace Go.Proofs.YtjoohpdohdehgaaGreatDoor
namespace Reg
open Go.RowKit Go.Maps Go.WideMaps
open Str (lenL runeL hexV)

/-- Patterns of bodies shorter than k are read as they should be. -/
def PatBelow (k : Nat) : Prop := ∀ (C : Ctx) (st : St) (v : Value) (w : World), Full C st v w → st.rest.length < k →
  Calls Tryz.prog 26 #[.pointer (some ⟨C.b, 0, none⟩)] w (PostT C w (patV C.u st))

set_option maxHeartbeats 4000000 in
set_option maxRecDepth 20000 in
theorem group_of (k : Nat) (hP : PatBelow k) (C : Ctx) (st : St) (v : Value) (w : World) (h : Full C st v w) (hk : st.rest.length < k) (hq : st.groups + 1 + st.rest.length ≤ C.s.size) :
    Calls Tryz.prog 53 #[.pointer (some ⟨C.b, 0, none⟩)] w (PostS C w (fun b : Bool => .bool b) (groupP (patV C.u) st)) := by
  have hsm : C.s.size ≤ 4096 := h.rd.small
  have H := Lib.hid h; clear h
  have HPat := Lib.hid hP; clear hP
  obtain ⟨R, hR⟩ : ∃ R, groupP (patV C.u) st = R := ⟨_, rfl⟩
  have HN := Lib.hid hR
  rw [hR]; clear hR
  go_enter Tryz.func53, Tryz.ntmps53
  go_wp2_with fail
  refine (take_any (C.box st.groups v) st.rest 63 (by decide) _ H.out.rd).mono ?_
  rintro e w1 ⟨rfl, hr1, hb1⟩
  by_cases hx : hd st.rest = 63
  · have eb : (hd st.rest == 63) = true := beq_iff_eq.2 hx
    have HV : Hid (R = match markP (st.at st.rest.tail) with
      | .error e => .error e
      | .ok r => match patV C.u r.2 with
        | .error e => .error e
        | .ok s => match expP 41 s.rest with
          | .error e => .error e
          | .ok m => .ok (r.1, s.at m)) := Lib.hid (by rw [← HN.out, groupP, if_pos hx]; rfl)
    have htl := tail_lt hx (by decide)
    have hF1 : Full C (st.at st.rest.tail) v w1 := H.out.bar (by rw [tak_yes hx] at hr1; exact hr1) hb1 (Nat.le_of_lt htl)
    have HF1 := Lib.hid hF1
    have hbw1 := H.out.below hb1
    have hq1 : (st.at st.rest.tail).rest.length + 1 ≤ C.s.size := by show st.rest.tail.length + 1 ≤ _; omega
    have Htl := Lib.hid htl
    clear hx hr1 hb1 hF1 htl
    go_wp2_with fail
    refine (mark_any C (st.at st.rest.tail) v _ HF1.out hq1).mono ?_
    intro e w2 hp
    cases hc : markP (st.at st.rest.tail) with
    | error x =>
      rw [hc] at hp
      obtain ⟨rfl, hb2⟩ := hp
      have HV2 : Hid (R = .error x) := Lib.hid (by rw [HV.out, hc])
      clear hc
      unfold thrown
      go_wp2_with fail
      rw [HV2.out]
      exact ⟨rfl, rfl, hbw1.trans hb2⟩
    | ok r =>
      rw [hc] at hp
      obtain ⟨rfl, ⟨v2, hF2⟩, hb2⟩ := hp
      have hlm := mark_len hc
      have HN4 : Hid (R = match patV C.u r.2 with
        | .error e => .error e
        | .ok s => match expP 41 s.rest with
          | .error e => .error e
          | .ok m => .ok (r.1, s.at m)) := Lib.hid (by rw [HV.out, hc])
      have HF2 := Lib.hid hF2
      have hbw2 := hbw1.trans hb2
      have hlk : r.2.rest.length < k := by
        have h1 := Htl.out
        have h2 : (st.at st.rest.tail).rest = st.rest.tail := rfl
        rw [h2] at hlm; omega
      clear hc hF2 hb2 hlm hbw1
      obtain ⟨atom, s2⟩ := r
      go_wp2_with fail
      refine (HPat.out C s2 v2 _ HF2.out hlk).mono ?_
      intro e w3 hp
      cases hc : patV C.u s2 with
      | error x =>
        rw [hc] at hp
        obtain ⟨rfl, hb3⟩ := hp
        have HV2 : Hid (R = .error x) := Lib.hid (by rw [HN4.out, hc])
        clear hc
        unfold thrown
        go_wp2_with fail
        rw [HV2.out]
        exact ⟨rfl, rfl, hbw2.trans hb3⟩
      | ok s =>
        rw [hc] at hp
        obtain ⟨rfl, ⟨v3, hF3⟩, hb3⟩ := hp
        have HN5 : Hid (R = match expP 41 s.rest with
          | .error e => .error e
          | .ok m => .ok (atom, s.at m)) := Lib.hid (by rw [HN4.out, hc])
        have HF3 := Lib.hid hF3
        have hbw3 := hbw2.trans hb3
        clear hc hF3 hb3 hbw2
        go_wp2_with fail
        refine (expect_any (C.box s.groups v3) s.rest 41 (by decide) _ HF3.out.rd).mono ?_
        intro e w4 hp
        cases hc : expP 41 s.rest with
        | error x =>
          rw [hc] at hp
          obtain ⟨rfl, hb4⟩ := hp
          have HV2 : Hid (R = .error x) := Lib.hid (by rw [HN5.out, hc])
          clear hc
          unfold thrown
          go_wp2_with fail
          rw [HV2.out]
          exact ⟨rfl, rfl, hbw3.trans (HF3.out.below hb4)⟩
        | ok m =>
          rw [hc] at hp
          obtain ⟨rfl, hr4, hb4⟩ := hp
          have HV2 : Hid (R = .ok (atom, s.at m)) := Lib.hid (by rw [HN5.out, hc])
          have hF4 : Full C (s.at m) v3 w4 := HF3.out.bar hr4 hb4 (Nat.le_of_lt (exp_len (by decide) hc))
          have HF4 := Lib.hid hF4
          have hbw4 := hbw3.trans (HF3.out.below hb4)
          clear hc hr4 hb4 hF4
          go_wp2_with fail
          go_ret
          rw [HV2.out]
          exact ⟨rfl, ⟨v3, HF4.out⟩, hbw4⟩
  · have eb : (hd st.rest == 63) = false := beq_eq_false_iff_ne.2 hx
    have HV : Hid (R = match patV C.u { st with groups := st.groups + 1 } with
        | .error e => .error e
        | .ok s => match expP 41 s.rest with
          | .error e => .error e
          | .ok m => .ok (true, s.at m)) := Lib.hid (by rw [← HN.out, groupP, if_neg hx]; rfl)
    have hF1 : Full C st v w1 := H.out.bar (by rw [tak_no hx] at hr1; exact hr1) hb1 (Nat.le_refl _)
    have hbw1 := H.out.below hb1
    have g3 : w1.cell? ⟨C.b, 3, none⟩ = some (.int .i64 (st.groups : Nat)) := hF1.rd.cell3
    have gf : w1.frozen? ⟨C.b, 3, none⟩ = false := hF1.rd.frozen 3
    have hgs : (st.groups : Int) ≤ 4096 := by omega
    have hboth := hF1.more hq
    have hF2 := hboth.1
    have hbw2 := hbw1.trans hboth.2
    have HN4 : Hid (R = match patV C.u { st with groups := st.groups + 1 } with
        | .error e => .error e
        | .ok s => match expP 41 s.rest with
          | .error e => .error e
          | .ok m => .ok (true, s.at m)) := HV
    clear hx hr1 hb1 hF1 hboth hbw1
    go_wp2_with fail
    clear g3 gf
    generalize w1.setCell ⟨C.b, 3, none⟩ (.int .i64 ((st.groups : Int) + 1)) = w2 at *
    obtain ⟨s2, hs2⟩ : ∃ s2 : St, s2 = { st with groups := st.groups + 1 } := ⟨_, rfl⟩
    rw [← hs2] at hF2 HN4
    have hlk : s2.rest.length < k := by rw [hs2]; exact hk
    clear hs2
    have HF2 := Lib.hid hF2; clear hF2
    obtain ⟨v2, hv2⟩ : ∃ v2, v2 = v := ⟨v, rfl⟩
    rw [← hv2] at HF2
    clear hv2
    refine (HPat.out C s2 v2 _ HF2.out hlk).mono ?_
    intro e w3 hp
    cases hc : patV C.u s2 with
    | error x =>
      rw [hc] at hp
      obtain ⟨rfl, hb3⟩ := hp
      have HV2 : Hid (R = .error x) := Lib.hid (by rw [HN4.out, hc])
      clear hc
      unfold thrown
      go_wp2_with fail
      rw [HV2.out]
      exact ⟨rfl, rfl, hbw2.trans hb3⟩
    | ok s =>
      rw [hc] at hp
      obtain ⟨rfl, ⟨v3, hF3⟩, hb3⟩ := hp
      have HN5 : Hid (R = match expP 41 s.rest with
        | .error e => .error e
        | .ok m => .ok (true, s.at m)) := Lib.hid (by rw [HN4.out, hc])
      have HF3 := Lib.hid hF3
      have hbw3 := hbw2.trans hb3
      clear hc hF3 hb3 hbw2
      go_wp2_with fail
      refine (expect_any (C.box s.groups v3) s.rest 41 (by decide) _ HF3.out.rd).mono ?_
      intro e w4 hp
      cases hc : expP 41 s.rest with
      | error x =>
        rw [hc] at hp
        obtain ⟨rfl, hb4⟩ := hp
        have HV2 : Hid (R = .error x) := Lib.hid (by rw [HN5.out, hc])
        clear hc
        unfold thrown
        go_wp2_with fail
        rw [HV2.out]
        exact ⟨rfl, rfl, hbw3.trans (HF3.out.below hb4)⟩
      | ok m =>
        rw [hc] at hp
        obtain ⟨rfl, hr4, hb4⟩ := hp
        have HV2 : Hid (R = .ok (true, s.at m)) := Lib.hid (by rw [HN5.out, hc])
        have hF4 : Full C (s.at m) v3 w4 := HF3.out.bar hr4 hb4 (Nat.le_of_lt (exp_len (by decide) hc))
        have HF4 := Lib.hid hF4
        have hbw4 := hbw3.trans (HF3.out.below hb4)
        clear hc hr4 hb4 hF4
        go_wp2_with fail
        go_ret
        rw [HV2.out]
        exact ⟨rfl, ⟨v3, HF4.out⟩, hbw4⟩

set_option maxHeartbeats 4000000 in
set_option maxRecDepth 20000 in
theorem piece_of (k : Nat) (hP : PatBelow k) (C : Ctx) (st : St) (v : Value) (w : World) (h : Full C st v w) (hk : st.rest.length ≤ k) :
    Calls Tryz.prog 41 #[.pointer (some ⟨C.b, 0, none⟩)] w (PostS C w (fun b : Bool => .bool b) (pieceP C.u (patV C.u) st)) := by
  have hsm : C.s.size ≤ 4096 := h.rd.small
  have H := Lib.hid h; clear h
  have HPat := Lib.hid hP; clear hP
  obtain ⟨R, hR⟩ : ∃ R, pieceP C.u (patV C.u) st = R := ⟨_, rfl⟩
  have HN := Lib.hid hR
  rw [hR]; clear hR
  have hle : (C.box st.groups v).at st.rest ≤ C.s.size := at_le (C.box st.groups v) st.rest
  have C1 := Lib.hid (peek_any (C.box st.groups v) st.rest w H.out.rd)
  have HP := Lib.hid (fun (w1 : World) (h1 : Rd (C.box st.groups v) st.rest w1) (h2 : Below w.heap.size w w1) => (show Full C st v w1 from H.out.bar h1 (Bar.of h2) (Nat.le_refl _)))
  have HB := Lib.hid (fun (w1 : World) (h2 : Below w.heap.size w w1) => (show Below C.B w w1 from h2.mono H.out.rd.tabs.le))
  by_cases e1 : hd st.rest = 94
  · have HV : Hid (R = .ok (false, st.at st.rest.tail)) := Lib.hid (by rw [← HN.out, pieceP, if_pos (Or.inl e1)])
    obtain ⟨x, t, hx, -⟩ := hd_cons e1 (by decide)
    have E := Lib.hid e1; have HX := Lib.hid hx
    have Htl : Hid (st.rest.tail = t) := Lib.hid (by rw [hx]; rfl)
    have hlt : Hid (st.rest.length = t.length + 1) := Lib.hid (by rw [hx]; rfl)
    clear hx e1
    go_enter Tryz.func41, Tryz.ntmps41
    go_wp2_with fail
    refine C1.out.mono ?_
    rintro e w1 ⟨rfl, hr1, hb1⟩
    rw [E.out]
    have HF1 := Lib.hid (HP.out _ hr1 hb1)
    have g1 := hr1.cell1
    have gf := hr1.frozen 1
    have HS := Lib.hid (HF1.out.step HX.out)
    rw [HX.out] at g1 hle
    have hbw : Below C.B w w1 := HB.out _ hb1
    clear hr1 hb1
    go_wp2_with fail
    go_ret
    rw [HV.out, Htl.out]
    exact ⟨rfl, ⟨v, HS.out.1⟩, hbw.trans (HF1.out.below HS.out.2)⟩
  by_cases e2 : hd st.rest = 36
  · have HV : Hid (R = .ok (false, st.at st.rest.tail)) := Lib.hid (by rw [← HN.out, pieceP, if_pos (Or.inr e2)])
    obtain ⟨x, t, hx, -⟩ := hd_cons e2 (by decide)
    have E := Lib.hid e2; have HX := Lib.hid hx
    have Htl : Hid (st.rest.tail = t) := Lib.hid (by rw [hx]; rfl)
    have hlt : Hid (st.rest.length = t.length + 1) := Lib.hid (by rw [hx]; rfl)
    clear hx e1 e2
    go_enter Tryz.func41, Tryz.ntmps41
    go_wp2_with fail
    refine C1.out.mono ?_
    rintro e w1 ⟨rfl, hr1, hb1⟩
    rw [E.out]
    have HF1 := Lib.hid (HP.out _ hr1 hb1)
    have g1 := hr1.cell1
    have gf := hr1.frozen 1
    have HS := Lib.hid (HF1.out.step HX.out)
    rw [HX.out] at g1 hle
    have hbw : Below C.B w w1 := HB.out _ hb1
    clear hr1 hb1
    go_wp2_with fail
    go_ret
    rw [HV.out, Htl.out]
    exact ⟨rfl, ⟨v, HS.out.1⟩, hbw.trans (HF1.out.below HS.out.2)⟩
  have q1 : ¬ (hd st.rest = 94 ∨ hd st.rest = 36) := fun x => x.elim e1 e2
  by_cases e3 : hd st.rest = 40
  · have HV : Hid (R = groupP (patV C.u) (st.at st.rest.tail)) := Lib.hid (by rw [← HN.out, pieceP, if_neg q1, if_pos e3])
    obtain ⟨x, t, hx, -⟩ := hd_cons e3 (by decide)
    have E := Lib.hid e3; have HX := Lib.hid hx
    have Htl : Hid (st.rest.tail = t) := Lib.hid (by rw [hx]; rfl)
    have hlt : Hid (st.rest.length = t.length + 1) := Lib.hid (by rw [hx]; rfl)
    clear hx q1 e1 e2 e3
    go_enter Tryz.func41, Tryz.ntmps41
    go_wp2_with fail
    refine C1.out.mono ?_
    rintro e w1 ⟨rfl, hr1, hb1⟩
    rw [E.out]
    have HF1 := Lib.hid (HP.out _ hr1 hb1)
    have g1 := hr1.cell1
    have gf := hr1.frozen 1
    have HS := Lib.hid (HF1.out.step HX.out)
    rw [HX.out] at g1 hle
    have hbw : Below C.B w w1 := HB.out _ hb1
    clear hr1 hb1
    go_wp2_with fail
    have hF2 : Full C (st.at t) v _ := HS.out.1
    have hbw2 := hbw.trans (HF1.out.below HS.out.2)
    clear g1 gf hbw HS
    generalize w1.setCell ⟨C.b, 1, none⟩ (.int .i64 ((((C.box st.groups v).at (x :: t) : Nat) : Int) + 1)) = w2 at *
    have HF2 := Lib.hid hF2; clear hF2
    have hkk : (st.at t).rest.length < k := by have := hlt.out; show t.length < k; omega
    have hqq : (st.at t).groups + 1 + (st.at t).rest.length ≤ C.s.size := by have := hlt.out; have := H.out.gb; show st.groups + 1 + t.length ≤ _; omega
    refine (group_of k HPat.out C (st.at t) v _ HF2.out hkk hqq).mono ?_
    intro e w5 hp
    cases hc : groupP (patV C.u) (st.at t) with
    | error x =>
      rw [hc] at hp
      obtain ⟨rfl, hb5⟩ := hp
      have HV2 : Hid (R = .error x) := Lib.hid (by rw [HV.out, Htl.out, hc])
      clear hc
      unfold thrown
      go_wp2_with fail
      rw [HV2.out]
      exact ⟨rfl, rfl, hbw2.trans hb5⟩
    | ok r =>
      rw [hc] at hp
      obtain ⟨rfl, hF5, hb5⟩ := hp
      have HV2 : Hid (R = .ok r) := Lib.hid (by rw [HV.out, Htl.out, hc])
      have HF5 := Lib.hid hF5
      clear hc hF5
      go_wp2_with fail
      go_ret
      rw [HV2.out]
      exact ⟨rfl, HF5.out, hbw2.trans hb5⟩
  by_cases e4 : hd st.rest = 91
  · have HV : Hid (R = match classP C.u st.rest.tail with
      | .error e => .error e
      | .ok m => .ok (true, st.at m)) := Lib.hid (by rw [← HN.out, pieceP, if_neg q1, if_neg e3, if_pos e4]; rfl)
    obtain ⟨x, t, hx, -⟩ := hd_cons e4 (by decide)
    have E := Lib.hid e4; have HX := Lib.hid hx
    have Htl : Hid (st.rest.tail = t) := Lib.hid (by rw [hx]; rfl)
    have hlt : Hid (st.rest.length = t.length + 1) := Lib.hid (by rw [hx]; rfl)
    clear hx q1 e1 e2 e3 e4
    go_enter Tryz.func41, Tryz.ntmps41
    go_wp2_with fail
    refine C1.out.mono ?_
    rintro e w1 ⟨rfl, hr1, hb1⟩
    rw [E.out]
    have HF1 := Lib.hid (HP.out _ hr1 hb1)
    have g1 := hr1.cell1
    have gf := hr1.frozen 1
    have HS := Lib.hid (HF1.out.step HX.out)
    rw [HX.out] at g1 hle
    have hbw : Below C.B w w1 := HB.out _ hb1
    clear hr1 hb1
    go_wp2_with fail
    have hF2 : Full C (st.at t) v _ := HS.out.1
    have hbw2 := hbw.trans (HF1.out.below HS.out.2)
    clear g1 gf hbw HS
    generalize w1.setCell ⟨C.b, 1, none⟩ (.int .i64 ((((C.box st.groups v).at (x :: t) : Nat) : Int) + 1)) = w2 at *
    have HF2 := Lib.hid hF2; clear hF2
    refine (class_any (C.box st.groups v) t _ HF2.out.rd).mono ?_
    intro e w5 hp
    rw [show classP (C.box st.groups v).u t = classP C.u t from rfl] at hp
    cases hc : classP C.u t with
    | error x =>
      rw [hc] at hp
      obtain ⟨rfl, hb5⟩ := hp
      have HV2 : Hid (R = .error x) := Lib.hid (by rw [HV.out, Htl.out, hc])
      clear hc
      unfold thrown
      go_wp2_with fail
      rw [HV2.out]
      exact ⟨rfl, rfl, hbw2.trans (HF2.out.below hb5)⟩
    | ok m =>
      rw [hc] at hp
      obtain ⟨rfl, hr5, hb5⟩ := hp
      have hF5 : Full C (st.at m) v w5 := HF2.out.bar hr5 hb5 (class_len hc)
      have HV2 : Hid (R = .ok (true, st.at m)) := Lib.hid (by rw [HV.out, Htl.out, hc])
      have HF5 := Lib.hid hF5
      have hbw5 := hbw2.trans (HF2.out.below hb5)
      clear hc hr5 hb5 hF5
      go_wp2_with fail
      go_ret
      rw [HV2.out]
      exact ⟨rfl, ⟨v, HF5.out⟩, hbw5⟩
  by_cases e5 : hd st.rest = 92
  · have HV : Hid (R = escdP C.u st) := Lib.hid (by rw [← HN.out, pieceP, if_neg q1, if_neg e3, if_neg e4, if_pos e5])
    have E := Lib.hid e5
    clear q1 e1 e2 e3 e4 e5
    go_enter Tryz.func41, Tryz.ntmps41
    go_wp2_with fail
    refine C1.out.mono ?_
    rintro e w1 ⟨rfl, hr1, hb1⟩
    rw [E.out]
    have HF2 := Lib.hid (HP.out _ hr1 hb1)
    have hbw2 := HB.out _ hb1
    clear hr1 hb1
    go_wp2_with fail
    refine (escaped_any C st v _ HF2.out E.out).mono ?_
    intro e w5 hp
    cases hc : escdP C.u st with
    | error x =>
      rw [hc] at hp
      obtain ⟨rfl, hb5⟩ := hp
      have HV2 : Hid (R = .error x) := Lib.hid (by rw [HV.out, hc])
      clear hc
      unfold thrown
      go_wp2_with fail
      rw [HV2.out]
      exact ⟨rfl, rfl, hbw2.trans hb5⟩
    | ok r =>
      rw [hc] at hp
      obtain ⟨rfl, hF5, hb5⟩ := hp
      have HV2 : Hid (R = .ok r) := Lib.hid (by rw [HV.out, hc])
      have HF5 := Lib.hid hF5
      clear hc hF5
      go_wp2_with fail
      go_ret
      rw [HV2.out]
      exact ⟨rfl, HF5.out, hbw2.trans hb5⟩
  by_cases e6 : hd st.rest = 42 ∨ hd st.rest = 43 ∨ hd st.rest = 63 ∨ hd st.rest = 93 ∨ hd st.rest = 123 ∨ hd st.rest = 125
  · have HV : Hid (R = wrong st.rest) := Lib.hid (by rw [← HN.out, pieceP, if_neg q1, if_neg e3, if_neg e4, if_neg e5, if_pos e6])
    have E := Lib.hid e6
    clear q1 e1 e2 e3 e4 e5 e6
    go_enter Tryz.func41, Tryz.ntmps41
    go_wp2_with fail
    refine C1.out.mono ?_
    rintro e w1 ⟨rfl, hr1, hb1⟩
    have HR1 := Lib.hid hr1
    clear hr1
    rcases E.out with E1 | E1 | E1 | E1 | E1 | E1
    all_goals
      rw [E1]
      clear E1
      go_wp2_with fail
      refine (refuse_any _ _ _ HR1.out).mono ?_
      rintro e w2 ⟨rfl, rfl⟩
      unfold thrown
      go_wp2_with fail
      rw [HV.out]
      exact ⟨rfl, rfl, HB.out _ hb1⟩
  · have HV : Hid (R = match chrP anyP st.rest with
      | .error e => .error e
      | .ok r => .ok (true, st.at r.2)) := Lib.hid (by rw [← HN.out, pieceP, if_neg q1, if_neg e3, if_neg e4, if_neg e5, if_neg e6]; rfl)
    have b1 : (hd st.rest == 94) = false := beq_eq_false_iff_ne.2 e1
    have b2 : (hd st.rest == 36) = false := beq_eq_false_iff_ne.2 e2
    have b3 : (hd st.rest == 40) = false := beq_eq_false_iff_ne.2 e3
    have b4 : (hd st.rest == 91) = false := beq_eq_false_iff_ne.2 e4
    have b5 : (hd st.rest == 92) = false := beq_eq_false_iff_ne.2 e5
    have b6 : (hd st.rest == 42) = false := beq_eq_false_iff_ne.2 (by omega)
    have b7 : (hd st.rest == 43) = false := beq_eq_false_iff_ne.2 (by omega)
    have b8 : (hd st.rest == 63) = false := beq_eq_false_iff_ne.2 (by omega)
    have b9 : (hd st.rest == 93) = false := beq_eq_false_iff_ne.2 (by omega)
    have b10 : (hd st.rest == 123) = false := beq_eq_false_iff_ne.2 (by omega)
    have b11 : (hd st.rest == 125) = false := beq_eq_false_iff_ne.2 (by omega)
    clear q1 e1 e2 e3 e4 e5 e6
    go_enter Tryz.func41, Tryz.ntmps41
    go_wp2_with fail
    refine C1.out.mono ?_
    rintro e w1 ⟨rfl, hr1, hb1⟩
    have HF2 := Lib.hid (HP.out _ hr1 hb1)
    have hbw2 := HB.out _ hb1
    clear hr1 hb1
    go_wp2_with fail
    refine (character_any (C.box st.groups v) st.rest _ HF2.out.rd).mono ?_
    intro e w5 hp
    cases hc : chrP anyP st.rest with
    | error x =>
      rw [hc] at hp
      obtain ⟨rfl, hb5⟩ := hp
      have HV2 : Hid (R = .error x) := Lib.hid (by rw [HV.out, hc])
      clear hc
      unfold thrown
      go_wp2_with fail
      rw [HV2.out]
      exact ⟨rfl, rfl, hbw2.trans (HF2.out.below hb5)⟩
    | ok r =>
      rw [hc] at hp
      obtain ⟨rfl, hr5, hb5⟩ := hp
      have hF5 : Full C (st.at r.2) v w5 := HF2.out.bar hr5 hb5 (Nat.le_of_lt (chr_len hc))
      have HV2 : Hid (R = .ok (true, st.at r.2)) := Lib.hid (by rw [HV.out, hc])
      have HF5 := Lib.hid hF5
      have hbw5 := hbw2.trans (HF2.out.below hb5)
      clear hc hr5 hb5 hF5
      go_wp2_with fail
      go_ret
      rw [HV2.out]
      exact ⟨rfl, ⟨v, HF5.out⟩, hbw5⟩

end Reg
end Go.Proofs.YtjoohpdohdehgaaGreatDoor
