/-
  A quantifier.
-/
import Derived.Test.YtjoohpdohdehgaaGreatDoorRegClass
namespace Go.Proofs.YtjoohpdohdehgaaGreatDoor
namespace Reg
open Go.RowKit
open Str (lenL runeL hexV)

set_option maxHeartbeats 2000000 in
set_option maxRecDepth 20000 in
theorem repeat_any (K : Box) (l : List UInt8) (w : World) (h : Rd K l w) (hl : hd l = 123) :
    Calls Tryz.prog 58 #[K.ptr] w (PostN K w (repP l)) := by
  have hs := h.small
  have hle := at_le K l
  have h1 := h.cell1
  have f1 := h.frozen 1
  obtain ⟨x, t, rfl, -⟩ := hd_cons hl (by decide)
  have Ht := Lib.hid (at_tail K x t h.len)
  have HR0 : Hid (Rd K t (w.setCell ⟨K.b, 1, none⟩ (.int .i64 ((K.at (x :: t) : Nat) + 1)))) := Lib.hid (h.to (tail_suf (x :: t)) Ht.out)
  have hb0 : Bar K.b w (w.setCell ⟨K.b, 1, none⟩ (.int .i64 ((K.at (x :: t) : Nat) + 1))) := (Bar.refl _ _).set _ _ _
  obtain ⟨R, hR⟩ : ∃ R, repP (x :: t) = R := ⟨_, rfl⟩
  have HN : Hid (R = match numP t with
    | .error e => .error e
    | .ok a => match (if hd a.2 = 44 ∧ hd a.2.tail ≠ 125 then numP a.2.tail else .ok (a.1, tak 44 a.2)) with
      | .error e => .error e
      | .ok b => match expP 125 b.2 with
        | .error e => .error e
        | .ok m => if lessB b.1 a.1 = true then .error ((x :: t).length, 403) else .ok m) := Lib.hid (by rw [← hR]; rfl)
  rw [hR]; clear hR h hl
  go_enter Tryz.func58, Tryz.ntmps58
  go_wp2_with fail
  refine (number_any K t _ HR0.out).mono ?_
  intro e w2 hp
  cases hc : numP t with
  | error y =>
    rw [hc] at hp
    obtain ⟨rfl, hb2⟩ := hp
    have HV : Hid (R = .error y) := Lib.hid (by rw [HN.out, hc])
    clear hc
    unfold thrown
    go_wp2_with fail
    rw [HV.out]
    exact ⟨rfl, rfl, hb0.trans hb2⟩
  | ok a =>
    rw [hc] at hp
    obtain ⟨rfl, hr2, hb2⟩ := hp
    have HN2 : Hid (R = match (if hd a.2 = 44 ∧ hd a.2.tail ≠ 125 then numP a.2.tail else .ok (a.1, tak 44 a.2)) with
      | .error e => .error e
      | .ok b => match expP 125 b.2 with
        | .error e => .error e
        | .ok m => if lessB b.1 a.1 = true then .error ((x :: t).length, 403) else .ok m) := Lib.hid (by rw [HN.out, hc])
    have HR2 := Lib.hid hr2
    have hbw := hb0.trans hb2
    clear hc hr2 hb0 hb2 HN HR0 Ht h1 f1
    obtain ⟨n, l2⟩ := a
    have HN3 : Hid (R = match (if hd l2 = 44 ∧ hd l2.tail ≠ 125 then numP l2.tail else .ok (n, tak 44 l2)) with
      | .error e => .error e
      | .ok b => match expP 125 b.2 with
        | .error e => .error e
        | .ok m => if lessB b.1 n = true then .error ((x :: t).length, 403) else .ok m) := HN2
    have HR3 : Hid (Rd K l2 w2) := HR2
    clear HN2 HR2
    go_wp2_with fail
    refine (take_any K l2 44 (by decide) _ HR3.out).mono ?_
    rintro e w3 ⟨rfl, hr3, hb3⟩
    have HR4 := Lib.hid hr3
    have hbw3 := hbw.trans hb3
    clear hr3 hb3 hbw
    by_cases hq : hd l2 = 44
    · have eb : (hd l2 == 44) = true := beq_iff_eq.2 hq
      have HR5 : Hid (Rd K l2.tail w3) := Lib.hid (by have := HR4.out; rw [tak_yes hq] at this; exact this)
      have HT := Lib.hid (tak_yes hq)
      clear HR4
      go_wp2_with fail
      refine (peek_any K l2.tail _ HR5.out).mono ?_
      rintro e w4 ⟨rfl, hr4, hb4⟩
      have HR6 := Lib.hid hr4
      have hbw4 := hbw3.on hb4
      clear hr4 hb4 hbw3
      by_cases hz : hd l2.tail = 125
      · have HN4 : Hid (R = match expP 125 l2.tail with
          | .error e => .error e
          | .ok m => if lessB n n = true then .error ((x :: t).length, 403) else .ok m) := Lib.hid (by rw [HN3.out, if_neg (fun e => e.2 hz), HT.out])
        have eb2 : (hd l2.tail != 125) = false := by rw [hz]; rfl
        clear hz hq HN3
        go_wp2_with fail
        refine (expect_any K l2.tail 125 (by decide) _ HR6.out).mono ?_
        intro e w8 hp
        cases hc : expP 125 l2.tail with
        | error y =>
          rw [hc] at hp
          obtain ⟨rfl, hb8⟩ := hp
          have HV : Hid (R = .error y) := Lib.hid (by rw [HN4.out, hc])
          clear hc
          unfold thrown
          go_wp2_with fail
          rw [HV.out]
          exact ⟨rfl, rfl, hbw4.trans hb8⟩
        | ok m =>
          rw [hc] at hp
          obtain ⟨rfl, hr8, hb8⟩ := hp
          have HV : Hid (R = if lessB n n = true then .error ((x :: t).length, 403) else .ok m) := Lib.hid (by rw [HN4.out, hc])
          have HRm := Lib.hid hr8
          clear hc hr8 HN4
          go_wp2_with fail
          refine (less_ofL n n _).mono ?_
          rintro e w9 ⟨rfl, rfl⟩
          cases hL : lessB n n with
          | true =>
            have HV2 : Hid (R = .error ((x :: t).length, 403)) := Lib.hid (by rw [HV.out, if_pos hL])
            clear hL
            go_wp2_with fail
            refine (throw_any _ _ _).mono ?_
            rintro e w10 ⟨rfl, rfl⟩
            unfold thrown
            go_wp2_with fail
            rw [HV2.out]
            exact ⟨rfl, rfl, hbw4.trans hb8⟩
          | false =>
            have HV2 : Hid (R = .ok m) := Lib.hid (by rw [HV.out, if_neg (by rw [hL]; decide)])
            clear hL
            go_wp2_with fail
            go_end0
            rw [HV2.out]
            exact ⟨rfl, HRm.out, hbw4.trans hb8⟩
      · have HN4 : Hid (R = match numP l2.tail with
          | .error e => .error e
          | .ok b => match expP 125 b.2 with
            | .error e => .error e
            | .ok m => if lessB b.1 n = true then .error ((x :: t).length, 403) else .ok m) := Lib.hid (by rw [HN3.out, if_pos ⟨hq, hz⟩])
        have eb2 : (hd l2.tail != 125) = true := by rw [bne_iff_ne]; exact hz
        clear hz hq HN3
        go_wp2_with fail
        refine (number_any K l2.tail _ HR6.out).mono ?_
        intro e w5 hp
        cases hc : numP l2.tail with
        | error y =>
          rw [hc] at hp
          obtain ⟨rfl, hb5⟩ := hp
          have HV : Hid (R = .error y) := Lib.hid (by rw [HN4.out, hc])
          clear hc
          unfold thrown
          go_wp2_with fail
          rw [HV.out]
          exact ⟨rfl, rfl, hbw4.trans hb5⟩
        | ok b =>
          rw [hc] at hp
          obtain ⟨rfl, hr5, hb5⟩ := hp
          have HN5 : Hid (R = match expP 125 b.2 with
            | .error e => .error e
            | .ok m => if lessB b.1 n = true then .error ((x :: t).length, 403) else .ok m) := Lib.hid (by rw [HN4.out, hc])
          have HR7 := Lib.hid hr5
          have hbw5 := hbw4.trans hb5
          clear hc hr5 hb5 HN4 hbw4
          obtain ⟨b, l3⟩ := b
          have HN4 : Hid (R = match expP 125 l3 with
            | .error e => .error e
            | .ok m => if lessB b n = true then .error ((x :: t).length, 403) else .ok m) := HN5
          have HR8 : Hid (Rd K l3 w5) := HR7
          clear HN5 HR7
          go_wp2_with fail
          refine (expect_any K l3 125 (by decide) _ HR8.out).mono ?_
          intro e w8 hp
          cases hc : expP 125 l3 with
          | error y =>
            rw [hc] at hp
            obtain ⟨rfl, hb8⟩ := hp
            have HV : Hid (R = .error y) := Lib.hid (by rw [HN4.out, hc])
            clear hc
            unfold thrown
            go_wp2_with fail
            rw [HV.out]
            exact ⟨rfl, rfl, hbw5.trans hb8⟩
          | ok m =>
            rw [hc] at hp
            obtain ⟨rfl, hr8, hb8⟩ := hp
            have HV : Hid (R = if lessB b n = true then .error ((x :: t).length, 403) else .ok m) := Lib.hid (by rw [HN4.out, hc])
            have HRm := Lib.hid hr8
            clear hc hr8 HN4
            go_wp2_with fail
            refine (less_ofL b n _).mono ?_
            rintro e w9 ⟨rfl, rfl⟩
            cases hL : lessB b n with
            | true =>
              have HV2 : Hid (R = .error ((x :: t).length, 403)) := Lib.hid (by rw [HV.out, if_pos hL])
              clear hL
              go_wp2_with fail
              refine (throw_any _ _ _).mono ?_
              rintro e w10 ⟨rfl, rfl⟩
              unfold thrown
              go_wp2_with fail
              rw [HV2.out]
              exact ⟨rfl, rfl, hbw5.trans hb8⟩
            | false =>
              have HV2 : Hid (R = .ok m) := Lib.hid (by rw [HV.out, if_neg (by rw [hL]; decide)])
              clear hL
              go_wp2_with fail
              go_end0
              rw [HV2.out]
              exact ⟨rfl, HRm.out, hbw5.trans hb8⟩
    · have eb : (hd l2 == 44) = false := beq_eq_false_iff_ne.2 hq
      have HR5 : Hid (Rd K l2 w3) := Lib.hid (by have := HR4.out; rw [tak_no hq] at this; exact this)
      have HN4 : Hid (R = match expP 125 l2 with
        | .error e => .error e
        | .ok m => if lessB n n = true then .error ((x :: t).length, 403) else .ok m) := Lib.hid (by rw [HN3.out, if_neg (fun e => hq e.1), tak_no hq])
      clear HR4 hq HN3
      go_wp2_with fail
      refine (expect_any K l2 125 (by decide) _ HR5.out).mono ?_
      intro e w8 hp
      cases hc : expP 125 l2 with
      | error y =>
        rw [hc] at hp
        obtain ⟨rfl, hb8⟩ := hp
        have HV : Hid (R = .error y) := Lib.hid (by rw [HN4.out, hc])
        clear hc
        unfold thrown
        go_wp2_with fail
        rw [HV.out]
        exact ⟨rfl, rfl, hbw3.trans hb8⟩
      | ok m =>
        rw [hc] at hp
        obtain ⟨rfl, hr8, hb8⟩ := hp
        have HV : Hid (R = if lessB n n = true then .error ((x :: t).length, 403) else .ok m) := Lib.hid (by rw [HN4.out, hc])
        have HRm := Lib.hid hr8
        clear hc hr8 HN4
        go_wp2_with fail
        refine (less_ofL n n _).mono ?_
        rintro e w9 ⟨rfl, rfl⟩
        cases hL : lessB n n with
        | true =>
          have HV2 : Hid (R = .error ((x :: t).length, 403)) := Lib.hid (by rw [HV.out, if_pos hL])
          clear hL
          go_wp2_with fail
          refine (throw_any _ _ _).mono ?_
          rintro e w10 ⟨rfl, rfl⟩
          unfold thrown
          go_wp2_with fail
          rw [HV2.out]
          exact ⟨rfl, rfl, hbw3.trans hb8⟩
        | false =>
          have HV2 : Hid (R = .ok m) := Lib.hid (by rw [HV.out, if_neg (by rw [hL]; decide)])
          clear hL
          go_wp2_with fail
          go_end0
          rw [HV2.out]
          exact ⟨rfl, HRm.out, hbw3.trans hb8⟩

set_option maxHeartbeats 2000000 in
set_option maxRecDepth 20000 in
theorem quantifier_any (K : Box) (l : List UInt8) (w : World) (h : Rd K l w) :
    Calls Tryz.prog 42 #[K.ptr] w (PostN K w (quanP l)) := by
  have hs := h.small
  have hle := at_le K l
  have H := Lib.hid h; clear h
  obtain ⟨R, hR⟩ : ∃ R, quanP l = R := ⟨_, rfl⟩
  have HN := Lib.hid hR
  rw [hR]; clear hR
  have hrg := hd_range l
  by_cases h1 : hd l = 42 ∨ hd l = 43 ∨ hd l = 63
  · have HV : Hid (R = .ok (tak 63 l.tail)) := Lib.hid (by rw [← HN.out, quanP, if_pos h1])
    have hc : ∃ c, hd l = c ∧ 0 ≤ c := ⟨_, rfl, by omega⟩
    obtain ⟨c, hc, hc0⟩ := hc
    obtain ⟨x, t, rfl, -⟩ := hd_cons hc hc0
    have Ht := Lib.hid (at_tail K x t H.out.len)
    have Hh : Hid (hd (x :: t) = 42 ∨ hd (x :: t) = 43 ∨ hd (x :: t) = 63) := Lib.hid h1
    clear h1 hc hc0 hrg
    go_enter Tryz.func42, Tryz.ntmps42
    go_wp2_with fail
    refine (peek_any K _ _ H.out).mono ?_
    rintro e w1 ⟨rfl, hr, hb⟩
    have g1 := hr.cell1
    have gf := hr.frozen 1
    have HR0 : Hid (Rd K t (w1.setCell ⟨K.b, 1, none⟩ (.int .i64 ((K.at (x :: t) : Nat) + 1)))) := Lib.hid (hr.to (tail_suf (x :: t)) Ht.out)
    have hbw : Bar K.b w (w1.setCell ⟨K.b, 1, none⟩ (.int .i64 ((K.at (x :: t) : Nat) + 1))) := (Bar.of hb).set _ _ _
    clear hr hb
    rcases Hh.out with h1 | h1 | h1
    all_goals
      rw [h1]
      clear h1
      go_wp2_with fail
      refine (take_any K t 63 (by decide) _ HR0.out).mono ?_
      rintro e w2 ⟨rfl, hr2, hb2⟩
      have HR2 := Lib.hid hr2; clear hr2
      go_wp2_with fail
      go_end0
      rw [HV.out]
      exact ⟨rfl, HR2.out, hbw.trans hb2⟩
  by_cases h2 : hd l = 123
  · have HV : Hid (R = match repP l with
      | .error e => .error e
      | .ok m => .ok (tak 63 m)) := Lib.hid (by rw [← HN.out, quanP, if_neg h1, if_pos h2]; rfl)
    have H2 := Lib.hid h2
    clear h1 h2 hrg
    go_enter Tryz.func42, Tryz.ntmps42
    go_wp2_with fail
    refine (peek_any K _ _ H.out).mono ?_
    rintro e w1 ⟨rfl, hr, hb⟩
    have HR1 := Lib.hid hr
    have hbw : Bar K.b w w1 := Bar.of hb
    clear hr hb
    rw [H2.out]
    go_wp2_with fail
    refine (repeat_any K l _ HR1.out H2.out).mono ?_
    intro e w2 hp
    cases hc : repP l with
    | error y =>
      rw [hc] at hp
      obtain ⟨rfl, hb2⟩ := hp
      have HV2 : Hid (R = .error y) := Lib.hid (by rw [HV.out, hc])
      clear hc
      unfold thrown
      go_wp2_with fail
      rw [HV2.out]
      exact ⟨rfl, rfl, hbw.trans hb2⟩
    | ok m =>
      rw [hc] at hp
      obtain ⟨rfl, hr2, hb2⟩ := hp
      have HV2 : Hid (R = .ok (tak 63 m)) := Lib.hid (by rw [HV.out, hc])
      have HR2 := Lib.hid hr2
      have hbw2 := hbw.trans hb2
      clear hc hr2 hb2 hbw
      go_wp2_with fail
      refine (take_any K m 63 (by decide) _ HR2.out).mono ?_
      rintro e w3 ⟨rfl, hr3, hb3⟩
      have HR3 := Lib.hid hr3; clear hr3
      go_wp2_with fail
      go_end0
      rw [HV2.out]
      exact ⟨rfl, HR3.out, hbw2.trans hb3⟩
  · have HV : Hid (R = .ok l) := Lib.hid (by rw [← HN.out, quanP, if_neg h1, if_neg h2])
    have b1 : (hd l == 42) = false := beq_eq_false_iff_ne.2 (by omega)
    have b2 : (hd l == 43) = false := beq_eq_false_iff_ne.2 (by omega)
    have b3 : (hd l == 63) = false := beq_eq_false_iff_ne.2 (by omega)
    have b4 : (hd l == 123) = false := beq_eq_false_iff_ne.2 (by omega)
    clear h1 h2 hrg
    go_enter Tryz.func42, Tryz.ntmps42
    go_wp2_with fail
    refine (peek_any K _ _ H.out).mono ?_
    rintro e w1 ⟨rfl, hr, hb⟩
    have HR1 := Lib.hid hr
    clear hr
    go_wp2_with fail
    go_end0
    rw [HV.out]
    exact ⟨rfl, HR1.out, Bar.of hb⟩

end Reg
end Go.Proofs.YtjoohpdohdehgaaGreatDoor
