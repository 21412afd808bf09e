/-
  Patterns, whatever their length.
-/
import Derived.Test.YtjoohpdohdehgaaGreatDoorRegPattern
namespace Go.Proofs.YtjoohpdohdehgaaGreatDoor
namespace Reg
open Go.RowKit Go.Maps Go.WideMaps
open Str (lenL runeL hexV)

set_option maxHeartbeats 4000000 in
set_option maxRecDepth 20000 in
theorem alternative_of (k : Nat) (hP : PatBelow k) (C : Ctx) (st : St) (v : Value) (w : World) (h : Full C st v w) (hk : st.rest.length ≤ k) :
    Calls Tryz.prog 32 #[.pointer (some ⟨C.b, 0, none⟩)] w (PostT C w (altV C.u st)) := by
  have H := Lib.hid h; clear h
  have HPat := Lib.hid hP; clear hP
  obtain ⟨R, hR⟩ : ∃ R, altV C.u st = R := ⟨_, rfl⟩
  have HN := Lib.hid hR
  rw [hR]; clear hR
  go_enter Tryz.func32, Tryz.ntmps32
  go_wp2_with fail
  go_loopg [2] st.rest.length (fun n _ wr => ∃ s vv, n = s.rest.length ∧ s.rest.length ≤ k ∧ R = altV C.u s ∧ Full C s vv wr ∧ Below C.B w wr)
  case atStart => exact ⟨st, v, rfl, hk, HN.out.symm, H.out, Below.refl _ _⟩
  case round =>
    obtain ⟨s, vv, hn, hsk, hr, hF, hbw⟩ := hrel
    have Hn := Lib.hid hn; have Hr := Lib.hid hr; have HF := Lib.hid hF
    clear hn hr hF hk
    go_wp2_with fail
    refine (peek_any (C.box s.groups vv) s.rest _ HF.out.rd).mono ?_
    rintro e w1 ⟨rfl, hr1, hb1⟩
    have hF1 : Full C s vv w1 := HF.out.bar hr1 (Bar.of hb1) (Nat.le_refl _)
    have HF1 := Lib.hid hF1
    have hbw1 : Below C.B w w1 := hbw.trans (hb1.mono HF.out.rd.tabs.le)
    clear hr1 hb1 hF1 hbw
    by_cases e0 : hd s.rest = -1 ∨ hd s.rest = 124 ∨ hd s.rest = 41
    · have HV : Hid (R = .ok s) := Lib.hid (by rw [Hr.out, alt_eq, if_pos e0])
      have E := Lib.hid e0; clear e0
      rcases E.out with E1 | E1 | E1
      all_goals
        rw [E1]
        clear E1
        go_wp2_with fail
        go_end0
        rw [HV.out]
        exact ⟨rfl, ⟨vv, HF1.out⟩, hbw1⟩
    · have HV : Hid (R = match termP C.u (patV C.u) s with
        | .error e => .error e
        | .ok a => altV C.u a) := Lib.hid (by rw [Hr.out, alt_eq, if_neg e0]; rfl)
      have b0 : (hd s.rest == -1) = false := beq_eq_false_iff_ne.2 (by omega)
      have b1 : (hd s.rest == 124) = false := beq_eq_false_iff_ne.2 (by omega)
      have b2 : (hd s.rest == 41) = false := beq_eq_false_iff_ne.2 (by omega)
      clear e0
      go_wp2_with fail
      refine (piece_of k HPat.out C s vv _ HF1.out hsk).mono ?_
      intro e w2 hp
      cases hc : pieceP C.u (patV C.u) s with
      | error x =>
        rw [hc] at hp
        obtain ⟨rfl, hb2⟩ := hp
        have HV2 : Hid (R = .error x) := Lib.hid (by rw [HV.out, termP, hc])
        clear hc
        unfold thrown
        go_wp2_with fail
        rw [HV2.out]
        exact ⟨rfl, rfl, hbw1.trans hb2⟩
      | ok r =>
        rw [hc] at hp
        obtain ⟨rfl, ⟨v2, hF2⟩, hb2⟩ := hp
        have Hlp := Lib.hid (piece_len (pat_down C.u) hc)
        obtain ⟨atom, s2⟩ := r
        have HF2 : Hid (Full C s2 v2 w2) := Lib.hid hF2
        have hbw2 := hbw1.trans hb2
        have HTp : Hid (termP C.u (patV C.u) s = if atom = true then (match quanP s2.rest with
            | .error e => .error e
            | .ok m => .ok (s2.at m)) else .ok s2) := Lib.hid (by rw [termP, hc]; rfl)
        clear hc hF2 hb2 hbw1
        cases atom with
        | false =>
          have HV2 : Hid (R = altV C.u s2) := Lib.hid (by rw [HV.out, HTp.out]; rfl)
          go_wp2_with fail
          go_roundg s2.rest.length
          case measure => rw [Hn.out]; exact Hlp.out
          case rel => exact ⟨s2, v2, rfl, by have : s2.rest.length < s.rest.length := Hlp.out; omega, HV2.out, HF2.out, hbw2⟩
        | true =>
          go_wp2_with fail
          refine (quantifier_any (C.box s2.groups v2) s2.rest _ HF2.out.rd).mono ?_
          intro e w3 hp
          cases hc : quanP s2.rest with
          | error x =>
            rw [hc] at hp
            obtain ⟨rfl, hb3⟩ := hp
            have HV2 : Hid (R = .error x) := Lib.hid (by rw [HV.out, HTp.out, if_pos True.intro, hc])
            clear hc
            unfold thrown
            go_wp2_with fail
            rw [HV2.out]
            exact ⟨rfl, rfl, hbw2.trans (HF2.out.below hb3)⟩
          | ok m =>
            rw [hc] at hp
            obtain ⟨rfl, hr3, hb3⟩ := hp
            have hql := quan_len hc
            have hF3 : Full C (s2.at m) v2 w3 := HF2.out.bar hr3 hb3 hql
            have HV2 : Hid (R = altV C.u (s2.at m)) := Lib.hid (by rw [HV.out, HTp.out, if_pos True.intro, hc])
            have HF3 := Lib.hid hF3
            have hbw3 := hbw2.trans (HF2.out.below hb3)
            have Hql := Lib.hid hql
            clear hc hr3 hb3 hF3 hql
            go_wp2_with fail
            go_roundg m.length
            case measure => rw [Hn.out]; have h1 : s2.rest.length < s.rest.length := Hlp.out; have := Hql.out; omega
            case rel => exact ⟨s2.at m, v2, rfl, by have h1 : s2.rest.length < s.rest.length := Hlp.out; have := Hql.out; show m.length ≤ k; omega, HV2.out, HF3.out, hbw3⟩

/-- What stands behind an alternative. -/
def contV (u : Bool) (s : St) : Except (Nat × Nat) St := if hd s.rest = 124 then patV u (s.at s.rest.tail) else .ok s
theorem pat_cont (u : Bool) (st : St) : patV u st = match altV u st with
    | .error e => .error e
    | .ok s => contV u s := pat_eq u st

set_option maxHeartbeats 4000000 in
set_option maxRecDepth 20000 in
theorem pattern_of (k : Nat) (hP : PatBelow k) (C : Ctx) (st : St) (v : Value) (w : World) (h : Full C st v w) (hk : st.rest.length ≤ k) :
    Calls Tryz.prog 26 #[.pointer (some ⟨C.b, 0, none⟩)] w (PostT C w (patV C.u st)) := by
  have H := Lib.hid h; clear h
  have HA := Lib.hid (alternative_of k hP); clear hP
  obtain ⟨R, hR⟩ : ∃ R, patV C.u st = R := ⟨_, rfl⟩
  have HN : Hid (R = match altV C.u st with
    | .error e => .error e
    | .ok s => contV C.u s) := Lib.hid (by rw [← hR]; exact pat_cont _ _)
  rw [hR]; clear hR
  go_enter Tryz.func26, Tryz.ntmps26
  go_wp2_with fail
  refine (HA.out C st v _ H.out hk).mono ?_
  intro e w1 hp
  cases hc : altV C.u st with
  | error x =>
    rw [hc] at hp
    obtain ⟨rfl, hb1⟩ := hp
    have HV2 : Hid (R = .error x) := Lib.hid (by rw [HN.out, hc])
    clear hc
    unfold thrown
    go_wp2_with fail
    rw [HV2.out]
    exact ⟨rfl, rfl, hb1⟩
  | ok s1 =>
    rw [hc] at hp
    obtain ⟨rfl, ⟨v1, hF1⟩, hb1⟩ := hp
    have hl1 := alt_down _ _ _ hc
    have HV : Hid (R = contV C.u s1) := Lib.hid (by rw [HN.out, hc])
    have HF1 := Lib.hid hF1
    have hk1 : s1.rest.length ≤ k := by omega
    clear hc hF1 hl1 HN
    go_wp2_with fail
    go_loopg [4] s1.rest.length (fun n _ wr => ∃ s vv, n = s.rest.length ∧ s.rest.length ≤ k ∧ R = contV C.u s ∧ Full C s vv wr ∧ Below C.B w wr)
    case atStart => exact ⟨s1, v1, rfl, hk1, HV.out, HF1.out, hb1⟩
    case round =>
      obtain ⟨s, vv, hn, hsk, hr, hF, hbw⟩ := hrel
      have Hn := Lib.hid hn; have Hr := Lib.hid hr; have HF := Lib.hid hF
      clear hn hr hF hk hk1 hb1
      go_wp2_with fail
      refine (take_any (C.box s.groups vv) s.rest 124 (by decide) _ HF.out.rd).mono ?_
      rintro e w2 ⟨rfl, hr2, hb2⟩
      by_cases hx : hd s.rest = 124
      · have eb : (hd s.rest == 124) = true := beq_iff_eq.2 hx
        have htl := tail_lt hx (by decide)
        have hF2 : Full C (s.at s.rest.tail) vv w2 := HF.out.bar (by rw [tak_yes hx] at hr2; exact hr2) hb2 (Nat.le_of_lt htl)
        have HV2 : Hid (R = match altV C.u (s.at s.rest.tail) with
          | .error e => .error e
          | .ok s => contV C.u s) := Lib.hid (by rw [Hr.out, contV, if_pos hx]; exact pat_cont _ _)
        have HF2 := Lib.hid hF2
        have hbw2 := hbw.trans (HF.out.below hb2)
        have hk2 : (s.at s.rest.tail).rest.length ≤ k := by show s.rest.tail.length ≤ k; omega
        have Htl := Lib.hid htl
        clear hx hr2 hb2 hF2 htl hbw
        go_wp2_with fail
        refine (HA.out C (s.at s.rest.tail) vv _ HF2.out hk2).mono ?_
        intro e w3 hp
        cases hc : altV C.u (s.at s.rest.tail) with
        | error x =>
          rw [hc] at hp
          obtain ⟨rfl, hb3⟩ := hp
          have HV3 : Hid (R = .error x) := Lib.hid (by rw [HV2.out, hc])
          clear hc
          unfold thrown
          go_wp2_with fail
          rw [HV3.out]
          exact ⟨rfl, rfl, hbw2.trans hb3⟩
        | ok s3 =>
          rw [hc] at hp
          obtain ⟨rfl, ⟨v3, hF3⟩, hb3⟩ := hp
          have hl3 := alt_down _ _ _ hc
          have HV3 : Hid (R = contV C.u s3) := Lib.hid (by rw [HV2.out, hc])
          have HF3 := Lib.hid hF3
          have Hl3 : Hid (s3.rest.length < s.rest.length) := Lib.hid (by
            have h1 := Htl.out
            have h2 : (s.at s.rest.tail).rest = s.rest.tail := rfl
            rw [h2] at hl3; omega)
          clear hc hF3 hl3
          go_wp2_with fail
          go_roundg s3.rest.length
          case measure => rw [Hn.out]; exact Hl3.out
          case rel => exact ⟨s3, v3, rfl, by have := Hl3.out; omega, HV3.out, HF3.out, hbw2.trans hb3⟩
      · have eb : (hd s.rest == 124) = false := beq_eq_false_iff_ne.2 hx
        have hF2 : Full C s vv w2 := HF.out.bar (by rw [tak_no hx] at hr2; exact hr2) hb2 (Nat.le_refl _)
        have HV2 : Hid (R = .ok s) := Lib.hid (by rw [Hr.out, contV, if_neg hx])
        have HF2 := Lib.hid hF2
        have hbw2 := hbw.trans (HF.out.below hb2)
        clear hx hr2 hb2 hF2 hbw
        go_wp2_with fail
        go_end0
        rw [HV2.out]
        exact ⟨rfl, ⟨vv, HF2.out⟩, hbw2⟩

theorem pat_below : ∀ k, PatBelow k
  | 0 => fun _ _ _ _ _ h => absurd h (Nat.not_lt_zero _)
  | k + 1 => fun C st v w h hk => pattern_of k (pat_below k) C st v w h (Nat.le_of_lt_succ hk)
theorem pattern_any (C : Ctx) (st : St) (v : Value) (w : World) (h : Full C st v w) :
    Calls Tryz.prog 26 #[.pointer (some ⟨C.b, 0, none⟩)] w (PostT C w (patV C.u st)) :=
  pat_below (st.rest.length + 1) C st v w h (Nat.lt_succ_self _)

end Reg
end Go.Proofs.YtjoohpdohdehgaaGreatDoor
