/-
  A point of a class; a range's dash; what a range asks of its points.
-/
import Derived.Test.YtjoohpdohdehgaaGreatDoorRegEsq
namespace Go.Proofs.YtjoohpdohdehgaaGreatDoor
namespace Reg
open Go.RowKit
open Str (lenL runeL hexV)

set_option maxHeartbeats 1000000 in
theorem pointEscape_any (K : Box) (l : List UInt8) (w : World) (h : Rd K l w) :
    Calls Tryz.prog 85 #[K.ptr] w (Post K w (fun v : Int => .int .i64 v) (peP K.u l)) := by
  have H := Lib.hid h; clear h
  by_cases h1 : hd l = 98
  · have HV : Hid (peP K.u l = .ok (8, l.tail)) := Lib.hid (if_pos h1)
    have eb : (hd l == 98) = true := beq_iff_eq.2 h1
    have HT := Lib.hid (tak_yes h1)
    clear h1
    go_enter Tryz.func85, Tryz.ntmps85
    go_wp2_with fail
    refine (take_any K l 98 (by decide) _ H.out).mono ?_
    rintro e w1 ⟨rfl, hr, hb⟩
    rw [HT.out] at hr
    have HR := Lib.hid hr; clear hr
    go_wp2_with fail
    go_ret
    rw [HV.out]
    exact ⟨rfl, HR.out, hb⟩
  have HT := Lib.hid (tak_no h1)
  have eb : (hd l == 98) = false := beq_eq_false_iff_ne.2 h1
  cases hu : K.u with
  | true =>
    by_cases h2 : hd l = 45
    · have HV : Hid (peP true l = .ok (45, l.tail)) := Lib.hid (by rw [peP, if_neg h1, if_pos ⟨rfl, h2⟩])
      have eb2 : (hd l == 45) = true := beq_iff_eq.2 h2
      have HT2 := Lib.hid (tak_yes h2)
      have Hu := Lib.hid hu
      clear h1 h2 hu
      go_enter Tryz.func85, Tryz.ntmps85
      go_wp2_with fail
      refine (take_any K l 98 (by decide) _ H.out).mono ?_
      rintro e w1 ⟨rfl, hr, hb⟩
      rw [HT.out] at hr
      have g2 : w1.cell? ⟨K.b, 2, none⟩ = some (.bool true) := by rw [← Hu.out]; exact hr.cell2
      have HR := Lib.hid hr; clear hr
      go_wp2_with fail
      refine (take_any K l 45 (by decide) _ HR.out).mono ?_
      rintro e w2 ⟨rfl, hr, hb2⟩
      rw [HT2.out] at hr
      have HR2 := Lib.hid hr; clear hr g2
      go_wp2_with fail
      go_ret
      rw [HV.out]
      exact ⟨rfl, HR2.out, hb.trans hb2⟩
    · have HV : Hid (peP true l = escP true l) := Lib.hid (by rw [peP, if_neg h1, if_neg (fun x => h2 x.2)])
      have eb2 : (hd l == 45) = false := beq_eq_false_iff_ne.2 h2
      have HT2 := Lib.hid (tak_no h2)
      have Hu := Lib.hid hu
      clear h1 h2 hu
      go_enter Tryz.func85, Tryz.ntmps85
      go_wp2_with fail
      refine (take_any K l 98 (by decide) _ H.out).mono ?_
      rintro e w1 ⟨rfl, hr, hb⟩
      rw [HT.out] at hr
      have g2 : w1.cell? ⟨K.b, 2, none⟩ = some (.bool true) := by rw [← Hu.out]; exact hr.cell2
      have HR := Lib.hid hr; clear hr
      go_wp2_with fail
      refine (take_any K l 45 (by decide) _ HR.out).mono ?_
      rintro e w2 ⟨rfl, hr, hb2⟩
      rw [HT2.out] at hr
      have HR2 := Lib.hid hr; clear hr g2
      go_wp2_with fail
      refine (escape_any K l _ HR2.out).mono ?_
      intro e w3 hp
      rw [Hu.out, ← HV.out] at hp
      cases hc : peP true l with
      | error x =>
        rw [hc] at hp
        obtain ⟨rfl, hb3⟩ := hp
        have HC := Lib.hid hc; clear hc
        unfold thrown
        go_wp2_with fail
        rw [HC.out]
        exact ⟨rfl, rfl, (hb.trans hb2).trans hb3⟩
      | ok q =>
        rw [hc] at hp
        obtain ⟨rfl, hr3, hb3⟩ := hp
        have HR3 := Lib.hid hr3
        have HC := Lib.hid hc; clear hc hr3
        go_wp2_with fail
        go_ret
        rw [HC.out]
        exact ⟨rfl, HR3.out, (hb.trans hb2).trans hb3⟩
  | false =>
    have HV : Hid (peP false l = escP false l) := Lib.hid (by rw [peP, if_neg h1, if_neg (fun x => absurd x.1 (by decide))])
    have Hu := Lib.hid hu
    clear h1 hu
    go_enter Tryz.func85, Tryz.ntmps85
    go_wp2_with fail
    refine (take_any K l 98 (by decide) _ H.out).mono ?_
    rintro e w1 ⟨rfl, hr, hb⟩
    rw [HT.out] at hr
    have g2 : w1.cell? ⟨K.b, 2, none⟩ = some (.bool false) := by rw [← Hu.out]; exact hr.cell2
    have HR := Lib.hid hr; clear hr
    go_wp2_with fail
    refine (escape_any K l _ HR.out).mono ?_
    intro e w3 hp
    rw [Hu.out, ← HV.out] at hp
    cases hc : peP false l with
    | error x =>
      rw [hc] at hp
      obtain ⟨rfl, hb3⟩ := hp
      have HC := Lib.hid hc; clear hc g2
      unfold thrown
      go_wp2_with fail
      rw [HC.out]
      exact ⟨rfl, rfl, hb.trans hb3⟩
    | ok q =>
      rw [hc] at hp
      obtain ⟨rfl, hr3, hb3⟩ := hp
      have HR3 := Lib.hid hr3
      have HC := Lib.hid hc; clear hc hr3 g2
      go_wp2_with fail
      go_ret
      rw [HC.out]
      exact ⟨rfl, HR3.out, hb.trans hb3⟩

/-- A point as a struct. -/
def ptV (a : Nat) (p : Int × Int) : Value := .agg #[.int .i64 a, .int .i64 p.1, .int .i64 p.2]
/-- Block n is a point. -/
def PtAt (n : Nat) (v : Array Value) (w : World) : Prop := w.heap[n]? = some (.cells v 81)
theorem PtAt.cell {n : Nat} {x y z : Value} {w : World} (h : PtAt n #[x, y, z] w) : w.cell? ⟨n, 0, none⟩ = some x ∧ w.cell? ⟨n, 1, none⟩ = some y ∧ w.cell? ⟨n, 2, none⟩ = some z ∧ w.frozen? ⟨n, 0, none⟩ = false ∧ w.frozen? ⟨n, 1, none⟩ = false ∧ w.frozen? ⟨n, 2, none⟩ = false := by
  unfold PtAt at h
  simp [World.cell?, World.frozen?, h]
theorem PtAt.lt {n : Nat} {v : Array Value} {w : World} (h : PtAt n v w) : n < w.heap.size := (Array.getElem?_eq_some_iff.1 h).1
theorem PtAt.bar {n b : Nat} {v : Array Value} {w w' : World} (h : PtAt n v w) (hb : Bar b w w') (hn : n ≠ b) : PtAt n v w' := (hb.block n h.lt hn).trans h
theorem PtAt.on {n : Nat} {v : Array Value} {w w' : World} (h : PtAt n v w) (hb : Below w.heap.size w w') : PtAt n v w' := (hb.block n h.lt).trans h
theorem pt_new (w : World) (v : Array Value) : PtAt w.heap.size v (w.alloc (.cells v 81)) := by
  show (w.heap.push _)[w.heap.size]? = _
  simp

theorem Bar.new {b n : Nat} {u w : World} (h : Bar b u w) (hn : u.heap.size ≤ n) (o : Nat) (f : Option Nat) (v : Value) : Bar b u (w.setCell ⟨n, o, f⟩ v) :=
  ⟨h.os, h.tape, h.output, by simp [World.setCell]; exact h.size, fun k hk hb => (Below.heap_setCell w ⟨n, o, f⟩ v k (by show k ≠ n; omega)).trans (h.block k hk hb)⟩
theorem Rd.new {K : Box} {l : List UInt8} {w : World} (h : Rd K l w) {n : Nat} (h1 : K.B ≤ n) (h2 : n ≠ K.b) (o : Nat) (f : Option Nat) (v : Value) : Rd K l (w.setCell ⟨n, o, f⟩ v) :=
  ⟨by simpa [World.setCell] using h.lt, h.low, (Below.heap_setCell w ⟨n, o, f⟩ v K.b h2.symm).trans h.got, h.suf, h.small, h.tabs.on ((Below.refl _ _).setCell h1 _)⟩
theorem Rd.new3 {K : Box} {l : List UInt8} {u w : World} (h : Rd K l w) (hb : Bar K.b u w) (hk : K.b < u.heap.size) (hB : K.B ≤ u.heap.size) (a x y : Value) :
    Rd K l (((w.setCell ⟨u.heap.size, 0, none⟩ a).setCell ⟨u.heap.size, 1, none⟩ x).setCell ⟨u.heap.size, 2, none⟩ y) ∧ Bar K.b u (((w.setCell ⟨u.heap.size, 0, none⟩ a).setCell ⟨u.heap.size, 1, none⟩ x).setCell ⟨u.heap.size, 2, none⟩ y) :=
  ⟨((h.new hB (by omega) _ _ _).new hB (by omega) _ _ _).new hB (by omega) _ _ _, ((hb.new (Nat.le_refl _) _ _ _).new (Nat.le_refl _) _ _ _).new (Nat.le_refl _) _ _ _⟩

theorem unit_high (c : Nat) (h : 65535 < c) (h2 : c ≤ 1114111) : bits .or .i64 55296 (((c : Int) - 65536) / 1024) = ((55296 + (c - 65536) / 1024 : Nat) : Int) := by
  have e : ((c : Int) - 65536) / 1024 = (((c - 65536) / 1024 : Nat) : Int) := by omega
  rw [e]
  have := Uni.i64_or_nat 55296 ((c - 65536) / 1024) (by decide) (by omega)
  rw [show ((55296 : Nat) : Int) = 55296 from by simp] at this
  rw [this]
  refine congrArg Int.ofNat ?_
  have h3 := Nat.shiftLeft_add_eq_or_of_lt (b := (c - 65536) / 1024) (i := 10) (show (c - 65536) / 1024 < 2 ^ 10 by omega) 54
  rw [show (54 <<< 10 : Nat) = 55296 from by decide] at h3
  exact h3.symm
theorem unit_low (c : Nat) (h : 65535 < c) (h2 : c ≤ 1114111) : bits .or .i64 56320 (bits .and .i64 ((c : Int) - 65536) 1023) = ((56320 + (c - 65536) % 1024 : Nat) : Int) := by
  have e : ((c : Int) - 65536) = ((c - 65536 : Nat) : Int) := by omega
  rw [e]
  have h1 := Uni.i64_and_nat (c - 65536) 1023 (by omega) (by decide)
  rw [show ((1023 : Nat) : Int) = 1023 from by simp] at h1
  rw [h1, show (c - 65536) &&& 1023 = (c - 65536) % 1024 from Nat.and_two_pow_sub_one_eq_mod (c - 65536) 10]
  have := Uni.i64_or_nat 56320 ((c - 65536) % 1024) (by decide) (by omega)
  rw [show ((56320 : Nat) : Int) = 56320 from by simp] at this
  rw [this]
  refine congrArg Int.ofNat ?_
  have h3 := Nat.shiftLeft_add_eq_or_of_lt (b := (c - 65536) % 1024) (i := 10) (show (c - 65536) % 1024 < 2 ^ 10 by omega) 55
  rw [show (55 <<< 10 : Nat) = 56320 from by decide] at h3
  exact h3.symm

set_option maxHeartbeats 2000000 in
set_option maxRecDepth 20000 in
theorem point_any (K : Box) (l : List UInt8) (w : World) (h : Rd K l w) :
    Calls Tryz.prog 70 #[K.ptr] w (Post K w (ptV (K.at l)) (ptP K.u l)) := by
  have h1 := h.cell1
  have hlt := h.lt
  have H := Lib.hid h; clear h
  obtain ⟨R, hR⟩ : ∃ R, ptP K.u l = R := ⟨_, rfl⟩
  have HN0 := Lib.hid hR
  rw [hR]; clear hR
  have hp0 := pt_new w #[.int .i64 0, .int .i64 0, .int .i64 0]
  have hr0 : Rd K l (w.alloc (.cells #[.int .i64 0, .int .i64 0, .int .i64 0] 81)) := H.out.on ((Below.refl _ _).alloc (Nat.le_refl _) _)
  have hb0 : Below w.heap.size w (w.alloc (.cells #[.int .i64 0, .int .i64 0, .int .i64 0] 81)) := (Below.refl _ _).alloc (Nat.le_refl _) _
  have HP0 := Lib.hid hp0; have HR0 := Lib.hid hr0; have HB0 := Lib.hid hb0
  clear hp0 hr0 hb0
  by_cases hq : hd l = 92
  · have HN : Hid (R = match peP K.u l.tail with
      | .error e => .error e
      | .ok r => .ok ((r.1, r.1), r.2)) := Lib.hid (by rw [← HN0.out, ptP, if_pos hq]; rfl)
    have eb : (hd l == 92) = true := beq_iff_eq.2 hq
    have HT := Lib.hid (tak_yes hq)
    clear hq HN0
    go_enter Tryz.func70, Tryz.ntmps70
    go_wp2_with fail
    refine (take_any K l 92 (by decide) _ HR0.out).mono ?_
    rintro e w1 ⟨rfl, hr, hb⟩
    rw [HT.out] at hr
    have HP1 := Lib.hid (HP0.out.bar hb (by omega))
    have HR1 := Lib.hid hr
    have hbw : Bar K.b w w1 := (Bar.of HB0.out).trans hb
    have hBB := H.out.tabs.le
    clear hb hr h1
    go_wp2_with fail
    refine (pointEscape_any K l.tail _ HR1.out).mono ?_
    intro e w2 hp
    cases hc : peP K.u l.tail with
    | error x =>
      rw [hc] at hp
      obtain ⟨rfl, hb2⟩ := hp
      have HV : Hid (R = .error x) := Lib.hid (by rw [HN.out, hc])
      clear hc
      unfold thrown
      go_wp2_with fail
      rw [HV.out]
      exact ⟨rfl, rfl, hbw.trans hb2⟩
    | ok q =>
      rw [hc] at hp
      obtain ⟨rfl, hr2, hb2⟩ := hp
      have HV : Hid (R = .ok ((q.1, q.1), q.2)) := Lib.hid (by rw [HN.out, hc])
      have HP2 := HP1.out.bar hb2 (by omega)
      obtain ⟨c0, c1, c2, f0, f1, f2⟩ := HP2.cell
      have HR2 := Lib.hid hr2
      clear hc hr2 HP2
      go_wp2_with fail
      refine bodyPost_ret (v := .agg #[.int .i64 (K.at l), .int .i64 q.1, .int .i64 q.1]) (by simp [results, Tryz.results70, go_sem, c0, c1, c2]) rfl ?_
      rw [HV.out]
      have hfin := HR2.out.new3 (hbw.trans hb2) hlt hBB (.int .i64 (K.at l)) (.int .i64 q.1) (.int .i64 q.1)
      exact ⟨rfl, hfin.1, hfin.2⟩
  · have HN : Hid (R = match chrP anyP l with
      | .error e => .error e
      | .ok r => .ok (unitsQ K.u r.1, r.2)) := Lib.hid (by rw [← HN0.out, ptP, if_neg hq]; rfl)
    have eb : (hd l == 92) = false := beq_eq_false_iff_ne.2 hq
    have HT := Lib.hid (tak_no hq)
    clear hq HN0
    go_enter Tryz.func70, Tryz.ntmps70
    go_wp2_with fail
    refine (take_any K l 92 (by decide) _ HR0.out).mono ?_
    rintro e w1 ⟨rfl, hr, hb⟩
    rw [HT.out] at hr
    have HP1 := Lib.hid (HP0.out.bar hb (by omega))
    have HR1 := Lib.hid hr
    have hbw : Bar K.b w w1 := (Bar.of HB0.out).trans hb
    have hBB := H.out.tabs.le
    clear hb hr h1
    go_wp2_with fail
    refine (character_any K l _ HR1.out).mono ?_
    intro e w2 hp
    cases hc : chrP anyP l with
    | error x =>
      rw [hc] at hp
      obtain ⟨rfl, hb2⟩ := hp
      have HV : Hid (R = .error x) := Lib.hid (by rw [HN.out, hc])
      clear hc
      unfold thrown
      go_wp2_with fail
      rw [HV.out]
      exact ⟨rfl, rfl, hbw.trans hb2⟩
    | ok q =>
      rw [hc] at hp
      obtain ⟨rfl, hr2, hb2⟩ := hp
      have hq9 := chr_le hc
      have HV : Hid (R = .ok (unitsQ K.u q.1, q.2)) := Lib.hid (by rw [HN.out, hc])
      have HP2 := HP1.out.bar hb2 (by omega)
      obtain ⟨c0, c1, c2, f0, f1, f2⟩ := HP2.cell
      have HR2 := Lib.hid hr2
      obtain ⟨c, l2⟩ := q
      replace hq9 : c ≤ 1114111 := hq9
      clear hc hr2 HP2
      have g2 := HR2.out.cell2
      by_cases hbig : 65535 < c
      · have hbi : (65535 : Int) < c := by omega
        have hc9 : (c : Int) ≤ 1114111 := by omega
        cases hu : K.u with
        | true =>
          have g3 : w2.cell? ⟨K.b, 2, none⟩ = some (.bool true) := by rw [← hu]; exact g2
          have HV2 : Hid (R = .ok (((c : Int), (c : Int)), l2)) := Lib.hid (by rw [HV.out, unitsQ, if_neg (fun x => by rw [hu] at x; exact absurd x.1 (by decide))])
          clear hu hbig g2
          go_wp2_with fail
          refine bodyPost_ret (v := .agg #[.int .i64 (K.at l), .int .i64 c, .int .i64 c]) (by simp [results, Tryz.results70, go_sem, c0, c1, c2]) rfl ?_
          rw [HV2.out]
          have hfin := HR2.out.new3 (hbw.trans hb2) hlt hBB (.int .i64 (K.at l)) (.int .i64 c) (.int .i64 c)
          exact ⟨rfl, hfin.1, hfin.2⟩
        | false =>
          have g3 : w2.cell? ⟨K.b, 2, none⟩ = some (.bool false) := by rw [← hu]; exact g2
          have HV2 : Hid (R = .ok ((((55296 + (c - 65536) / 1024 : Nat) : Int), ((56320 + (c - 65536) % 1024 : Nat) : Int)), l2)) := Lib.hid (by rw [HV.out, unitsQ, if_pos ⟨hu, hbig⟩])
          have HU := Lib.hid (unit_high c hbig hq9)
          have HL := Lib.hid (unit_low c hbig hq9)
          clear hu hbig g2
          go_wp2_with fail
          rw [HU.out, HL.out]
          refine bodyPost_ret (v := .agg #[.int .i64 (K.at l), .int .i64 ((55296 + (c - 65536) / 1024 : Nat) : Int), .int .i64 ((56320 + (c - 65536) % 1024 : Nat) : Int)]) (by simp [results, Tryz.results70, go_sem, c0, c1, c2]) rfl ?_
          rw [HV2.out]
          have hfin := HR2.out.new3 (hbw.trans hb2) hlt hBB (.int .i64 (K.at l)) (.int .i64 ((55296 + (c - 65536) / 1024 : Nat) : Int)) (.int .i64 ((56320 + (c - 65536) % 1024 : Nat) : Int))
          exact ⟨rfl, hfin.1, hfin.2⟩
      · have hbi : ¬ (65535 : Int) < c := by omega
        have HV2 : Hid (R = .ok (((c : Int), (c : Int)), l2)) := Lib.hid (by rw [HV.out, unitsQ, if_neg (fun x => hbig x.2)])
        clear hbig g2
        go_wp2_with fail
        refine bodyPost_ret (v := .agg #[.int .i64 (K.at l), .int .i64 c, .int .i64 c]) (by simp [results, Tryz.results70, go_sem, c0, c1, c2]) rfl ?_
        rw [HV2.out]
        have hfin := HR2.out.new3 (hbw.trans hb2) hlt hBB (.int .i64 (K.at l)) (.int .i64 c) (.int .i64 c)
        exact ⟨rfl, hfin.1, hfin.2⟩

end Reg
end Go.Proofs.YtjoohpdohdehgaaGreatDoor
