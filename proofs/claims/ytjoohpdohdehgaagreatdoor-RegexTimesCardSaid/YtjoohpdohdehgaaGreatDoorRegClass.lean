/-
  A class.
-/
import Derived.Test.YtjoohpdohdehgaaGreatDoorRegPoint
import Derived.Test.YtjoohpdohdehgaaGreatDoorRegLen
import Derived.StillTailTactics
namespace Go.Proofs.YtjoohpdohdehgaaGreatDoor
namespace Reg
open Go.RowKit
open Str (lenL runeL hexV)

/-- Does a dash stand here that makes a range? -/
def dashB (l : List UInt8) : Bool := decide (hd l = 45 ∧ hd l.tail ≠ 93)
def dashL (l : List UInt8) : List UInt8 := if dashB l = true then l.tail else l
theorem byte_eq {x : UInt8} {n : Nat} (h : (x.toNat : Int) = n) (hn : n < 256) : x = UInt8.ofNat n := by
  apply UInt8.toNat_inj.1
  rw [UInt8.toNat_ofNat']; omega
theorem pre_dash (l : List UInt8) : Lib.hasPrefix l [45, 93] = decide (hd l = 45 ∧ hd l.tail = 93) := by
  unfold Lib.hasPrefix
  match l with
  | [] => rfl
  | [x] =>
    rw [Bool.eq_iff_iff]
    simp [List.isPrefixOf, hd]
  | x :: y :: t =>
    by_cases h : hd (x :: y :: t) = 45 ∧ hd (x :: y :: t).tail = 93
    · rw [decide_eq_true h]
      obtain ⟨h1, h2⟩ := h
      rw [byte_eq (n := 45) h1 (by decide), byte_eq (n := 93) h2 (by decide)]
      rfl
    · rw [decide_eq_false h]
      cases e : List.isPrefixOf [45, 93] (x :: y :: t) with
      | false => rfl
      | true =>
        simp only [List.isPrefixOf, Bool.and_eq_true, beq_iff_eq, Bool.and_true] at e
        exact absurd ⟨by rw [← e.1]; rfl, by rw [← e.2]; rfl⟩ h

theorem prefix_of (l : List UInt8) (t : ByteArray) (ht : t = Str.ofL l) (v : Bool) (hv : Lib.hasPrefix l [45, 93] = v) (wx : World) :
    Calls Tryz.prog 86 #[.string t, .string ⟨#[45, 93]⟩] wx fun e w' => e = .returned (.bool v) ∧ w' = wx := by
  subst ht
  exact (Tryz.strings_HasPrefix _ _ wx).mono fun _ _ ⟨he, hw⟩ => ⟨by rw [he]; exact Uni.ret_bool hv, hw⟩

set_option maxHeartbeats 2000000 in
set_option maxRecDepth 20000 in
theorem ranges_any (K : Box) (l : List UInt8) (w : World) (h : Rd K l w) :
    Calls Tryz.prog 71 #[K.ptr] w fun e w' => e = .returned (.bool (dashB l)) ∧ Rd K (dashL l) w' ∧ Bar K.b w w' := by
  have hs := h.small
  have hle := at_le K l
  have h0 := h.cell0
  have h1 := h.cell1
  have HEx : Hid (K.s.extract (K.at l) K.s.size = Str.ofL l) := Lib.hid (by rw [extract_suf, show Str.sufL K.s (K.at l) = l from suf_at h.suf])
  have HW : Hid (Rd K l w.drew ∧ Bar K.b w w.drew) := Lib.hid ⟨h.drewN 1, (Bar.refl _ _).drewN 1⟩
  clear h
  cases hp : Lib.hasPrefix l [45, 93] with
  | true =>
    have hd2 := hp
    rw [pre_dash] at hd2
    have hd3 := of_decide_eq_true hd2
    have HV : Hid (dashB l = false ∧ dashL l = l) := Lib.hid (by
      have : dashB l = false := decide_eq_false (fun x => x.2 hd3.2)
      exact ⟨this, by unfold dashL; rw [this]; rfl⟩)
    have CC := Lib.hid (prefix_of l _ HEx.out true hp)
    clear hp hd2 hd3
    go_enter Tryz.func71, Tryz.ntmps71
    go_wp2_with fail
    refine wp_region_still_tail 12 (by kernel_rfl) (by kernel_rfl) ?_
    simp only [List.take_succ_cons, List.take_zero, List.drop_succ_cons, List.drop_zero]
    repeat still_step
    still_call (CC.out _)
    repeat still_step
    refine wpStill_nil ?_
    change wpList _ _ _ _ _ w.drew
    generalize w.drew = w2 at *
    go_wp2_with fail
    go_ret
    rw [HV.out.1, HV.out.2]
    exact ⟨rfl, HW.out.1, HW.out.2⟩
  | false =>
    have hd2 := hp
    rw [pre_dash] at hd2
    have hd3 := of_decide_eq_false hd2
    have CC := Lib.hid (prefix_of l _ HEx.out false hp)
    have HV : Hid (dashB l = (hd l == 45) ∧ dashL l = tak 45 l) := Lib.hid (by
      by_cases hq : hd l = 45
      · have : dashB l = true := decide_eq_true ⟨hq, fun x => hd3 ⟨hq, x⟩⟩
        exact ⟨by rw [this, hq]; rfl, by unfold dashL; rw [this, tak_yes hq]; rfl⟩
      · have : dashB l = false := decide_eq_false (fun x => hq x.1)
        exact ⟨by rw [this, beq_eq_false_iff_ne.2 hq], by unfold dashL; rw [this, tak_no hq]; rfl⟩)
    clear hp hd2 hd3
    go_enter Tryz.func71, Tryz.ntmps71
    go_wp2_with fail
    refine wp_region_still_tail 12 (by kernel_rfl) (by kernel_rfl) ?_
    simp only [List.take_succ_cons, List.take_zero, List.drop_succ_cons, List.drop_zero]
    repeat still_step
    still_call (CC.out _)
    repeat still_step
    refine wpStill_nil ?_
    change wpList _ _ _ _ _ w.drew
    generalize w.drew = w2 at *
    go_wp2_with fail
    refine (take_any K l 45 (by decide) _ HW.out.1).mono ?_
    rintro e w3 ⟨rfl, hr, hb⟩
    have HR := Lib.hid hr; clear hr
    go_wp2_with fail
    go_ret
    rw [HV.out.1, HV.out.2]
    exact ⟨rfl, HR.out, HW.out.2.trans hb⟩

theorem pt_set_0 {n : Nat} {x y z : Value} {w : World} (h : PtAt n #[x, y, z] w) (a : Value) : PtAt n #[a, y, z] (w.setCell ⟨n, 0, none⟩ a) := by
  unfold PtAt at h ⊢
  show (w.heap.modify n _)[n]? = _
  rw [Array.getElem?_modify, if_pos rfl, h]
  rfl
theorem pt_set_1 {n : Nat} {x y z : Value} {w : World} (h : PtAt n #[x, y, z] w) (a : Value) : PtAt n #[x, a, z] (w.setCell ⟨n, 1, none⟩ a) := by
  unfold PtAt at h ⊢
  show (w.heap.modify n _)[n]? = _
  rw [Array.getElem?_modify, if_pos rfl, h]
  rfl
theorem pt_set_2 {n : Nat} {x y z : Value} {w : World} (h : PtAt n #[x, y, z] w) (a : Value) : PtAt n #[x, y, a] (w.setCell ⟨n, 2, none⟩ a) := by
  unfold PtAt at h ⊢
  show (w.heap.modify n _)[n]? = _
  rw [Array.getElem?_modify, if_pos rfl, h]
  rfl
theorem pt_set3 {n : Nat} {x y z : Value} {w : World} (h : PtAt n #[x, y, z] w) (a b c : Value) : PtAt n #[a, b, c] (((w.setCell ⟨n, 0, none⟩ a).setCell ⟨n, 1, none⟩ b).setCell ⟨n, 2, none⟩ c) :=
  pt_set_2 (pt_set_1 (pt_set_0 h a) b) c
theorem below2 (w : World) (x y : Obj) : Below w.heap.size w ((w.alloc x).alloc y) := ((Below.refl _ _).alloc (Nat.le_refl _) _).alloc (by simp) _

set_option maxHeartbeats 1000000 in
theorem range_good (a p1 p2 b q1 q2 : Int) (w : World) (h : ¬ (p2 = -1 ∨ q1 = -1 ∨ q1 < p2)) :
    Calls Tryz.prog 72 #[.agg #[.int .i64 a, .int .i64 p1, .int .i64 p2], .agg #[.int .i64 b, .int .i64 q1, .int .i64 q2]] w fun e w' => e = .returned (.tuple #[]) ∧ Below w.heap.size w w' := by
  have e1 : (p2 == -1) = false := beq_eq_false_iff_ne.2 (by omega)
  have e2 : (q1 == -1) = false := beq_eq_false_iff_ne.2 (by omega)
  have e3 : ¬ q1 < p2 := by omega
  clear h
  go_enter Tryz.func72, Tryz.ntmps72
  go_wp2_with fail
  go_end0
  exact ⟨rfl, below2 _ _ _⟩

set_option maxHeartbeats 1000000 in
theorem range_bad (a p1 p2 b q1 q2 : Int) (w : World) (h : p2 = -1 ∨ q1 = -1 ∨ q1 < p2) :
    Calls Tryz.prog 72 #[.agg #[.int .i64 a, .int .i64 p1, .int .i64 p2], .agg #[.int .i64 b, .int .i64 q1, .int .i64 q2]] w fun e w' => e = thrown a 403 ∧ Below w.heap.size w w' := by
  have HB := Lib.hid (below2 w (.cells #[.int .i64 a, .int .i64 p1, .int .i64 p2] 81) (.cells #[.int .i64 b, .int .i64 q1, .int .i64 q2] 81))
  by_cases c1 : p2 = -1
  · have e1 : (p2 == -1) = true := beq_iff_eq.2 c1
    clear h c1
    go_enter Tryz.func72, Tryz.ntmps72
    go_wp2_with fail
    refine (throw_any _ _ _).mono ?_
    rintro e w3 ⟨rfl, rfl⟩
    unfold thrown
    go_wp2_with fail
    exact ⟨rfl, rfl, HB.out⟩
  have e1 : (p2 == -1) = false := beq_eq_false_iff_ne.2 c1
  by_cases c2 : q1 = -1
  · have e2 : (q1 == -1) = true := beq_iff_eq.2 c2
    clear h c1 c2
    go_enter Tryz.func72, Tryz.ntmps72
    go_wp2_with fail
    refine (throw_any _ _ _).mono ?_
    rintro e w3 ⟨rfl, rfl⟩
    unfold thrown
    go_wp2_with fail
    exact ⟨rfl, rfl, HB.out⟩
  have e2 : (q1 == -1) = false := beq_eq_false_iff_ne.2 c2
  have e3 : q1 < p2 := (h.resolve_left c1).resolve_left c2
  clear h c1 c2
  go_enter Tryz.func72, Tryz.ntmps72
  go_wp2_with fail
  refine (throw_any _ _ _).mono ?_
  rintro e w3 ⟨rfl, rfl⟩
  unfold thrown
  go_wp2_with fail
  exact ⟨rfl, rfl, HB.out⟩

set_option maxHeartbeats 4000000 in
set_option maxRecDepth 20000 in
theorem class_any (K : Box) (l : List UInt8) (w : World) (h : Rd K l w) :
    Calls Tryz.prog 54 #[K.ptr] w (PostN K w (classP K.u l)) := by
  have hlt := h.lt
  have H := Lib.hid h; clear h
  obtain ⟨R, hR⟩ : ∃ R, classP K.u l = R := ⟨_, rfl⟩
  have HN0 := Lib.hid hR
  rw [hR]; clear hR
  go_enter Tryz.func54, Tryz.ntmps54
  go_wp2_with fail
  refine (take_any K l 94 (by decide) _ H.out).mono ?_
  rintro e w1 ⟨rfl, hr, hb⟩
  have HN : Hid (itemsP K.u ((tak 94 l).length + 1) (tak 94 l) = R) := HN0
  generalize tak 94 l = l0 at *
  have HR1 := Lib.hid hr; clear hr HN0
  go_wp2_with fail
  go_loopg [2] l0.length (fun k _ wr => ∃ m n, k = m.length ∧ m.length < n ∧ R = itemsP K.u n m ∧ Rd K m wr ∧ Bar K.b w wr)
  case atStart => exact ⟨l0, _, rfl, Nat.lt_succ_self _, HN.out.symm, HR1.out, hb⟩
  case round =>
    obtain ⟨m, n, hk, hn, hr, hrd, hbar⟩ := hrel
    obtain ⟨n, rfl⟩ : ∃ n', n = n' + 1 := ⟨n - 1, by omega⟩
    have HK := Lib.hid hk; have Hn := Lib.hid hn; have Hr := Lib.hid hr; have HR := Lib.hid hrd
    clear hk hn hr hrd hb HR1 HN
    by_cases hq : hd m = 93
    · have HV : Hid (R = .ok m.tail) := Lib.hid (by rw [Hr.out, itemsP, if_pos hq])
      have eb : (hd m == 93) = true := beq_iff_eq.2 hq
      have HT := Lib.hid (tak_yes hq)
      clear hq
      go_wp2_with fail
      refine (take_any K m 93 (by decide) _ HR.out).mono ?_
      rintro e w2 ⟨rfl, hr2, hb2⟩
      rw [HT.out] at hr2
      have HR2 := Lib.hid hr2; clear hr2
      go_wp2_with fail
      go_end0
      rw [HV.out]
      exact ⟨rfl, HR2.out, hbar.trans hb2⟩
    · have eb : (hd m == 93) = false := beq_eq_false_iff_ne.2 hq
      have HT := Lib.hid (tak_no hq)
      have Hr2 : Hid (R = match ptP K.u m with
        | .error e => .error e
        | .ok r => match rangeP K.u (r.2.length + 1) m.length r.1 r.2 with
          | .error e => .error e
          | .ok k => itemsP K.u n k) := Lib.hid (by rw [Hr.out, itemsP, if_neg hq]; rfl)
      clear hq Hr
      go_wp2_with fail
      refine (take_any K m 93 (by decide) _ HR.out).mono ?_
      rintro e w2 ⟨rfl, hr2, hb2⟩
      rw [HT.out] at hr2
      have HR2 := Lib.hid hr2; clear hr2
      go_wp2_with fail
      refine (point_any K m _ HR2.out).mono ?_
      intro e w3 hp
      cases hc : ptP K.u m with
      | error x =>
        rw [hc] at hp
        obtain ⟨rfl, hb3⟩ := hp
        have HV : Hid (R = .error x) := Lib.hid (by rw [Hr2.out, hc])
        clear hc
        unfold thrown
        go_wp2_with fail
        rw [HV.out]
        exact ⟨rfl, rfl, (hbar.trans hb2).trans hb3⟩
      | ok q =>
        rw [hc] at hp
        obtain ⟨rfl, hr3, hb3⟩ := hp
        have Hlen := Lib.hid (pt_len hc)
        have Hr3 : Hid (R = match rangeP K.u (q.2.length + 1) m.length q.1 q.2 with
          | .error e => .error e
          | .ok k => itemsP K.u n k) := Lib.hid (by rw [Hr2.out, hc])
        have HR3 := Lib.hid hr3
        have hbw := (hbar.trans hb2).trans hb3
        have HP3 := Lib.hid (pt_new w3 #[.int .i64 (K.at m), .int .i64 q.1.1, .int .i64 q.1.2])
        have HR4 : Hid (Rd K q.2 (w3.alloc (.cells #[.int .i64 (K.at m), .int .i64 q.1.1, .int .i64 q.1.2] 81))) := Lib.hid (HR3.out.on ((Below.refl _ _).alloc (Nat.le_refl _) _))
        have hbw4 : Bar K.b w (w3.alloc (.cells #[.int .i64 (K.at m), .int .i64 q.1.1, .int .i64 q.1.2] 81)) := hbw.on ((Below.refl _ _).alloc (Nat.le_refl _) _)
        have hsz : K.b < w3.heap.size := hr3.lt
        have hsw : w.heap.size ≤ w3.heap.size := hbw.size
        clear hc hr3 hbar hb2 hb3 Hr2 hbw
        unfold ptV
        go_wp2_with fail
        generalize w3.alloc (.cells #[.int .i64 (K.at m), .int .i64 q.1.1, .int .i64 q.1.2] 81) = w4 at *
        have hnb : w3.heap.size ≠ K.b := by omega
        have hBB := H.out.tabs.le
        generalize w3.heap.size = n3 at *
        go_loopg [3] q.2.length (fun k _ wr2 => ∃ a p m2 n2, k = m2.length ∧ m2.length < n2 ∧ m2.length ≤ q.2.length ∧ PtAt n3 #[.int .i64 ((K.s.size - a : Nat) : Int), .int .i64 p.1, .int .i64 p.2] wr2 ∧ rangeP K.u (q.2.length + 1) m.length q.1 q.2 = rangeP K.u n2 a p m2 ∧ Rd K m2 wr2 ∧ Bar K.b w wr2)
        case atStart => exact ⟨m.length, q.1, q.2, _, rfl, Nat.lt_succ_self _, Nat.le_refl _, HP3.out, rfl, HR4.out, hbw4⟩
        case round =>
          obtain ⟨a, p, m2, n2, hk2, hn2, hle2, hpt, hrg, hrd2, hbar2⟩ := hrel
          obtain ⟨n2, rfl⟩ : ∃ n', n2 = n' + 1 := ⟨n2 - 1, by omega⟩
          have HK2 := Lib.hid hk2; have Hn2 := Lib.hid hn2; have HP := Lib.hid hpt; have Hrg := Lib.hid hrg; have HRd := Lib.hid hrd2
          have Hle2 := Lib.hid hle2
          clear hk2 hn2 hpt hrg hrd2 hbw4 HP3 HR4 hle2
          go_wp2_with fail
          refine (ranges_any K m2 _ HRd.out).mono ?_
          rintro e w5 ⟨rfl, hr5, hb5⟩
          have HR5 := Lib.hid hr5; clear hr5
          have HP5 := Lib.hid (HP.out.bar hb5 hnb)
          cases hD : dashB m2 with
          | false =>
            have hD2 := of_decide_eq_false hD
            have HR6 : Hid (Rd K m2 w5) := Lib.hid (by have := HR5.out; unfold dashL at this; rw [hD] at this; exact this)
            have HV : Hid (R = itemsP K.u n m2) := Lib.hid (by rw [Hr3.out, Hrg.out, rangeP, if_neg hD2])
            clear hD hD2 HR5
            go_wp2_with fail
            go_roundg m2.length
            case measure => rw [HK.out]; have := Hlen.out; have := Hle2.out; omega
            case rel => exact ⟨m2, n, rfl, by have := Hlen.out; have := Hle2.out; have := Hn.out; omega, HV.out, HR6.out, hbar2.trans hb5⟩
          | true =>
            have hD2 := of_decide_eq_true hD
            have HR6 : Hid (Rd K m2.tail w5) := Lib.hid (by have := HR5.out; unfold dashL at this; rw [hD] at this; exact this)
            have Hrg2 : Hid (rangeP K.u (q.2.length + 1) m.length q.1 q.2 = match ptP K.u m2.tail with
              | .error e => .error e
              | .ok r => if p.2 = -1 ∨ r.1.1 = -1 ∨ r.1.1 < p.2 then .error (a, 403) else if r.1.1 = r.1.2 then .ok r.2 else rangeP K.u n2 m2.tail.length r.1 r.2) := Lib.hid (by rw [Hrg.out, rangeP, if_pos hD2]; rfl)
            have Htl := Lib.hid (tail_len m2)
            clear hD hD2 HR5 Hrg
            go_wp2_with fail
            refine (point_any K m2.tail _ HR6.out).mono ?_
            intro e w6 hp
            cases hc : ptP K.u m2.tail with
            | error x =>
              rw [hc] at hp
              obtain ⟨rfl, hb6⟩ := hp
              have HV : Hid (R = .error x) := Lib.hid (by rw [Hr3.out, Hrg2.out, hc])
              clear hc
              unfold thrown
              go_wp2_with fail
              rw [HV.out]
              exact ⟨rfl, rfl, (hbar2.trans hb5).trans hb6⟩
            | ok s =>
              rw [hc] at hp
              obtain ⟨rfl, hr6, hb6⟩ := hp
              have Hlen2 := Lib.hid (pt_len hc)
              have Hrg3 : Hid (rangeP K.u (q.2.length + 1) m.length q.1 q.2 = if p.2 = -1 ∨ s.1.1 = -1 ∨ s.1.1 < p.2 then .error (a, 403) else if s.1.1 = s.1.2 then .ok s.2 else rangeP K.u n2 m2.tail.length s.1 s.2) := Lib.hid (by rw [Hrg2.out, hc])
              have hP6 := HP5.out.bar hb6 hnb
              have hal : Below w6.heap.size w6 (w6.alloc (.cells #[.int .i64 (K.at m2.tail), .int .i64 s.1.1, .int .i64 s.1.2] 81)) := (Below.refl _ _).alloc (Nat.le_refl _) _
              have hPa := hP6.on hal
              have hPb := pt_new w6 #[.int .i64 (K.at m2.tail), .int .i64 s.1.1, .int .i64 s.1.2]
              have HRa := Lib.hid (hr6.on hal)
              have hba := ((hbar2.trans hb5).trans hb6).on hal
              have hn6 : n3 < w6.heap.size := hP6.lt
              clear hc hr6 hb5 hb6 hal Hrg2 HP5 hP6 HR6 hbar2
              obtain ⟨c0, c1, c2, -, -, -⟩ := hPa.cell
              obtain ⟨d0, d1, d2, -, -, -⟩ := hPb.cell
              have HPa := Lib.hid hPa; have HPb := Lib.hid hPb
              clear hPa hPb
              unfold ptV
              by_cases hbad : p.2 = -1 ∨ s.1.1 = -1 ∨ s.1.1 < p.2
              · have HV : Hid (R = .error (a, 403)) := Lib.hid (by rw [Hr3.out, Hrg3.out, if_pos hbad])
                have CB := Lib.hid (fun a b q2 w => range_bad a p.1 p.2 b s.1.1 q2 w hbad)
                clear hbad Hrg3
                go_wp2_with fail
                refine (CB.out _ _ _ _).mono ?_
                rintro e w7 ⟨rfl, hb7⟩
                unfold thrown
                go_wp2_with fail
                rw [HV.out]
                exact ⟨rfl, rfl, hba.on hb7⟩
              · have CG := Lib.hid (fun a b q2 w => range_good a p.1 p.2 b s.1.1 q2 w hbad)
                have Hrg4 : Hid (rangeP K.u (q.2.length + 1) m.length q.1 q.2 = if s.1.1 = s.1.2 then .ok s.2 else rangeP K.u n2 m2.tail.length s.1 s.2) := Lib.hid (by rw [Hrg3.out, if_neg hbad])
                clear hbad Hrg3
                go_wp2_with fail
                refine (CG.out _ _ _ _).mono ?_
                rintro e w7 ⟨rfl, hb7⟩
                clear c0 c1 c2 d0 d1 d2
                obtain ⟨c0, c1, c2, f0, f1, f2⟩ := (HPa.out.on hb7).cell
                obtain ⟨d0, d1, d2, -, -, -⟩ := (HPb.out.on hb7).cell
                have HP7 := Lib.hid (HPa.out.on hb7)
                have HR7 := Lib.hid (HRa.out.on hb7)
                have hbw7 := hba.on hb7
                clear hb7 HPa HPb HRa hba
                by_cases heq : s.1.1 = s.1.2
                · have eb : (s.1.1 == s.1.2) = true := beq_iff_eq.2 heq
                  have HV : Hid (R = itemsP K.u n s.2) := Lib.hid (by rw [Hr3.out, Hrg4.out, if_pos heq])
                  clear heq
                  go_wp2_with fail
                  go_roundg s.2.length
                  case measure => rw [HK.out]; have := Hlen.out; have := Hle2.out; have := Hlen2.out; have := Htl.out; omega
                  case rel => exact ⟨s.2, n, rfl, by have := Hlen.out; have := Hle2.out; have := Hn.out; have := Hlen2.out; have := Htl.out; omega, HV.out, HR7.out, hbw7⟩
                · have eb : (s.1.1 == s.1.2) = false := beq_eq_false_iff_ne.2 heq
                  have HV : Hid (rangeP K.u (q.2.length + 1) m.length q.1 q.2 = rangeP K.u n2 m2.tail.length s.1 s.2) := Lib.hid (by rw [Hrg4.out, if_neg heq])
                  clear heq
                  go_wp2_with fail
                  go_roundg s.2.length
                  case measure => rw [HK2.out]; have := Hlen2.out; have := Htl.out; omega
                  case rel =>
                    refine ⟨m2.tail.length, s.1, s.2, n2, rfl, by have := Hn2.out; have := Hlen2.out; have := Htl.out; omega, by have := Hle2.out; have := Hlen2.out; have := Htl.out; omega, pt_set3 HP7.out _ _ _, HV.out, ?_, ?_⟩
                    · exact ((HR7.out.new (by omega) hnb _ _ _).new (by omega) hnb _ _ _).new (by omega) hnb _ _ _
                    · exact ((hbw7.new hsw _ _ _).new hsw _ _ _).new hsw _ _ _

end Reg
end Go.Proofs.YtjoohpdohdehgaaGreatDoor
