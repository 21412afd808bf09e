/-
  Comments.
-/
import Derived.Test.YtggibhlmnfodaaaDoorLexLit
namespace Go.Proofs.YtggibhlmnfodaaaDoor
namespace Lex
open Go.RowKit
open Str (lenL runeL)

/-- All but the reader's block and the gap's stand as they stood; new blocks may have come. -/
structure Two (b g : Nat) (w w' : World) : Prop where
  os : w'.os = w.os
  tape : w'.tape = w.tape
  output : w'.output = w.output
  size : w.heap.size ≤ w'.heap.size
  block : ∀ k, k < w.heap.size → k ≠ b → k ≠ g → w'.heap[k]? = w.heap[k]?
theorem Two.refl (b g : Nat) (w : World) : Two b g w w := ⟨rfl, rfl, rfl, Nat.le_refl _, fun _ _ _ _ => rfl⟩
theorem Two.trans {b g : Nat} {u v w : World} (h : Two b g u v) (k : Two b g v w) : Two b g u w :=
  ⟨k.os.trans h.os, k.tape.trans h.tape, k.output.trans h.output, Nat.le_trans h.size k.size, fun i hi hb hg => (k.block i (Nat.lt_of_lt_of_le hi h.size) hb hg).trans (h.block i hi hb hg)⟩
theorem Two.bar {b g : Nat} {u w w' : World} (h : Two b g u w) (k : Bar b w w') : Two b g u w' :=
  h.trans ⟨k.os, k.tape, k.output, k.size, fun i hi hb _ => k.block i hi hb⟩
theorem Two.on {b g : Nat} {u w w' : World} (h : Two b g u w) (k : Below w.heap.size w w') : Two b g u w' := h.bar (Bar.of k)
theorem Two.set {b g : Nat} {u w : World} (h : Two b g u w) (o : Nat) (f : Option Nat) (v : Value) : Two b g u (w.setCell ⟨g, o, f⟩ v) :=
  h.trans ⟨rfl, rfl, rfl, by simp [World.setCell], fun k _ _ hb => Below.heap_setCell _ _ _ _ (by simpa using hb)⟩
theorem Two.below {b g B : Nat} {w w' : World} (h : Two b g w w') (hb : B ≤ b) (hg : B ≤ g) (hw : B ≤ w.heap.size) : Below B w w' :=
  ⟨h.os, h.tape, h.output, h.size, fun k hk => h.block k (by omega) (by omega) (by omega)⟩

/-- The gap's block: the comments, whether a line ends. -/
structure Gp (K : Box) (g : Nat) (v : Value) (b : Bool) (w : World) : Prop where
  ne : g ≠ K.b
  low : K.B ≤ g
  lt : g < w.heap.size
  got : w.heap[g]? = some (.cells #[v, .bool b] 40)
theorem Gp.cell0 {K : Box} {g : Nat} {v : Value} {b : Bool} {w : World} (h : Gp K g v b w) : w.cell? ⟨g, 0, none⟩ = some v := by simp [World.cell?, h.got]
theorem Gp.cell1 {K : Box} {g : Nat} {v : Value} {b : Bool} {w : World} (h : Gp K g v b w) : w.cell? ⟨g, 1, none⟩ = some (.bool b) := by simp [World.cell?, h.got]
theorem Gp.frozen {K : Box} {g : Nat} {v : Value} {b : Bool} {w : World} (h : Gp K g v b w) (o : Nat) : w.frozen? ⟨g, o, none⟩ = false := by simp [World.frozen?, h.got]
theorem Gp.bar {K : Box} {g : Nat} {v : Value} {b : Bool} {w w' : World} (h : Gp K g v b w) (k : Bar K.b w w') : Gp K g v b w' :=
  ⟨h.ne, h.low, Nat.lt_of_lt_of_le h.lt k.size, by rw [k.block g h.lt h.ne]; exact h.got⟩
theorem Gp.on {K : Box} {g : Nat} {v : Value} {b : Bool} {w w' : World} (h : Gp K g v b w) (k : Below w.heap.size w w') : Gp K g v b w' := h.bar (Bar.of k)
theorem Gp.set1 {K : Box} {g : Nat} {v : Value} {b : Bool} {w : World} (h : Gp K g v b w) (d : Bool) : Gp K g v d (w.setCell ⟨g, 1, none⟩ (.bool d)) := by
  refine ⟨h.ne, h.low, by simpa [World.setCell] using h.lt, ?_⟩
  show (w.heap.modify g _)[g]? = _
  rw [Array.getElem?_modify, if_pos rfl, h.got]
  rfl
theorem Gp.set0 {K : Box} {g : Nat} {v : Value} {b : Bool} {w : World} (h : Gp K g v b w) (u : Value) (_hu : u.oneCell' = true) : Gp K g u b (w.setCell ⟨g, 0, none⟩ u) := by
  refine ⟨h.ne, h.low, by simpa [World.setCell] using h.lt, ?_⟩
  show (w.heap.modify g _)[g]? = _
  rw [Array.getElem?_modify, if_pos rfl, h.got]
  rfl
theorem Rd.gap {K : Box} {l : List UInt8} {w : World} (h : Rd K l w) {g : Nat} (hne : g ≠ K.b) (hlow : K.B ≤ g) (o : Nat) (v : Value) : Rd K l (w.setCell ⟨g, o, none⟩ v) :=
  ⟨by simpa [World.setCell] using h.lt, h.low, by rw [show (w.setCell ⟨g, o, none⟩ v).heap[K.b]? = w.heap[K.b]? from Below.heap_setCell _ _ _ _ (fun e => hne (by simpa using e.symm))]; exact h.got, h.suf, h.small, h.tabs.on ((Below.refl _ _).setCell hlow _)⟩

/-- What a call comes to that reads a comment. -/
def PostC (K : Box) (g : Nat) (v : Value) (w : World) (r : Int × Bool × List UInt8) (e : Ending) (w' : World) : Prop :=
  e = .returned (.int .i64 r.1) ∧ Rd K r.2.2 w' ∧ Gp K g v r.2.1 w' ∧ Two K.b g w w'
theorem post_c {K : Box} {g : Nat} {v : Value} {w w' : World} {r : Int × Bool × List UInt8} {a : Int} {b : Bool} {m : List UInt8} (h : r = (a, b, m)) (h1 : Rd K m w') (h2 : Gp K g v b w') (h3 : Two K.b g w w') : PostC K g v w r (.returned (.int .i64 a)) w' := by subst h; exact ⟨rfl, h1, h2, h3⟩

set_option maxHeartbeats 4000000 in
set_option maxRecDepth 20000 in
theorem block_any (K : Box) (g : Nat) (v : Value) (b0 : Bool) (l : List UInt8) (hl : 2 ≤ l.length) (w : World) (h : Rd K l w) (hg : Gp K g v b0 w) :
    Calls Tryd.prog 27 #[K.ptr, .pointer (some ⟨g, 0, none⟩)] w (PostC K g v w (blockQ l (blk b0 (l.drop 2)))) := by
  obtain ⟨R, hR⟩ : ∃ R, blockQ l (blk b0 (l.drop 2)) = R := ⟨_, rfl⟩
  rw [hR]
  have HR := Lib.hid hR
  have Hat1 := Lib.hid (at_drop K l 2 h.len hl)
  have hat1 : ((K.at l : Nat) : Int) + (2 : Nat) ≤ K.s.size := by rw [Hat1.out]; have := at_le K (l.drop 2); omega
  have HS := Lib.hid h.suf
  have hs := h.small
  have g0 := h.cell0
  have g1 := h.frozen 0
  have H := Lib.hid h
  have HG := Lib.hid hg
  clear h hR hg
  go_enter Tryd.func27, Tryd.ntmps27
  go_wp2_with fail
  have HA := Lib.hid (H.out.to (drop_suf l 2) Hat1.out)
  have HBA := Lib.hid ((Bar.refl K.b w).set 0 none (.int .i64 (((K.at l : Nat) : Int) + 2)))
  have HGA := Lib.hid (HG.out.bar HBA.out)
  go_loopg [6, 7] (l.drop 2).length (fun n _ _ wr => ∃ m d, n = m.length ∧ R = blockQ l (blk d m) ∧ Rd K m wr ∧ Gp K g v d wr ∧ Two K.b g w wr)
  case atStart => exact ⟨l.drop 2, b0, rfl, HR.out.symm, HA.out, HGA.out, (Two.refl _ _ _).bar HBA.out⟩
  case round =>
    clear g0 g1 HA HBA HGA
    obtain ⟨m, d, hn, hr, hRd, hGp, hTwo⟩ := hrel
    obtain ⟨c, hc⟩ : ∃ c, chL m = c := ⟨_, rfl⟩
    obtain ⟨k, hk⟩ : ∃ k, lenL m = k := ⟨_, rfl⟩
    obtain ⟨p, hp⟩ : ∃ p, pre [42, 47] m = p := ⟨_, rfl⟩
    have Hn := Lib.hid hn
    have Hr := Lib.hid hr
    have HRd := Lib.hid hRd
    have HGp := Lib.hid hGp
    have HTwo := Lib.hid hTwo
    have Hat := Lib.hid (at_go hRd hk)
    have hat : ((K.at m : Nat) : Int) + (k : Nat) ≤ K.s.size := by rw [Hat.out]; have := at_le K (tl m); omega
    have Hc := Lib.hid hc
    have Hk := Lib.hid hk
    have Hp := Lib.hid hp
    clear hn hr hRd hGp hTwo hc hk hp
    go_wp2_with fail
    refine (follows_any K m ⟨#[42, 47]⟩ p Hp.out _ HRd.out).mono ?_
    rintro e w1 ⟨rfl, h1, hb1⟩
    have H1 := Lib.hid h1
    have HG1 := Lib.hid (HGp.out.on hb1)
    have HT1 := Lib.hid (HTwo.out.on hb1)
    have g0 := H1.out.cell0
    have g1 := H1.out.frozen 0
    clear h1 hb1
    cases p with
    | true =>
      obtain ⟨r', hr'⟩ := (pre_iff _ _).1 Hp.out
      have Hat2 : Hid (((K.at m : Nat) : Int) + 2 = (K.at (m.drop 2) : Nat)) := Lib.hid (by have := at_drop K m 2 H1.out.len (by rw [hr']; simp); exact this)
      have hat2 : ((K.at m : Nat) : Int) + 2 ≤ K.s.size := by rw [Hat2.out]; have := at_le K (m.drop 2); omega
      clear hr' r'
      have Hf : Hid (R = (0, d, m.drop 2)) := Lib.hid (by
        have hS : blkS d m = .inl (0, d, m.drop 2) := by unfold blkS; rw [if_pos Hp.out]
        rw [Hr.out]; show blockQ l (loop _ _ _ _) = _; rw [loop_in _ hS]; try rfl)
      go_wp2_with fail
      go_ret
      exact post_c Hf.out (H1.out.to (drop_suf m 2) Hat2.out) (HG1.out.bar ((Bar.refl _ _).set _ _ _)) (HT1.out.bar ((Bar.refl _ _).set _ _ _))
    | false =>
      go_wp2_with fail
      refine (look_any K m c k Hc.out Hk.out _ H1.out).mono ?_
      rintro e w2 ⟨rfl, h2, hb2⟩
      have H2 := Lib.hid h2
      have HG2 := Lib.hid (HG1.out.on hb2)
      have HT2 := Lib.hid (HT1.out.on hb2)
      clear h2 hb2 g0 g1
      have NP : Hid (¬ pre [42, 47] m = true) := Lib.hid (by rw [Hp.out]; decide)
      by_cases e1 : c = -2
      · have Hf : Hid (R = (502, d, m)) := Lib.hid (by
          have hS : blkS d m = .inl (502, d, m) := by unfold blkS; rw [if_neg NP.out, Hc.out, if_pos e1]
          rw [Hr.out]; show blockQ l (loop _ _ _ _) = _; rw [loop_in _ hS]; try rfl)
        subst e1
        go_wp2_with fail
        go_ret
        exact post_c Hf.out H2.out HG2.out HT2.out
      · have b1 : (c == -2) = false := beq_eq_false_iff_ne.2 e1
        have He1 := Lib.hid e1
        clear e1
        by_cases e2 : c = -1
        · have Hf : Hid (R = (507, d, l)) := Lib.hid (by
            have hS : blkS d m = .inl (507, d, m) := by unfold blkS; rw [if_neg NP.out, Hc.out, if_neg He1.out, if_pos e2]
            rw [Hr.out]; show blockQ l (loop _ _ _ _) = _; rw [loop_in _ hS]; try rfl)
          subst e2
          go_wp2_with fail
          refine (fail_any K m l _ _ _ H2.out HS.out rfl).mono ?_
          rintro e w3 ⟨rfl, h3, hb3⟩
          have H3 := Lib.hid h3; clear h3
          go_wp2_with fail
          go_ret
          exact post_c Hf.out H3.out (HG2.out.bar hb3) (HT2.out.bar hb3)
        · have b2 : (c == -1) = false := beq_eq_false_iff_ne.2 e2
          have He2 := Lib.hid e2
          clear e2
          go_wp2_with fail
          refine (Uni.ends_any c _).mono ?_
          rintro e w3 ⟨rfl, hb3⟩
          have H3 := Lib.hid (H2.out.on hb3)
          have HG3 := Lib.hid (HG2.out.on hb3)
          have HT3 := Lib.hid (HT2.out.on hb3)
          clear hb3
          obtain ⟨v0, hv0⟩ : ∃ v, Uni.endsB c = v := ⟨_, rfl⟩
          have Hg : Hid (R = blockQ l (blk (d || v0) (tl m)) ∧ (tl m).length < m.length) := Lib.hid (by
            have hS : blkS d m = .inr (d || v0, tl m) := by unfold blkS; rw [if_neg NP.out, Hc.out, if_neg He1.out, if_neg He2.out, hv0]
            refine ⟨?_, falls_blk _ _ _ hS⟩
            rw [Hr.out]; show blockQ l (loop _ _ _ _) = _; rw [loop_go falls_blk _ hS]; try rfl)
          rw [hv0]
          clear hv0
          have g0 := H3.out.cell0
          have g1 := H3.out.frozen 0
          cases v0 with
          | false =>
            go_wp2_with fail
            go_roundg (tl m).length
            case rel => exact ⟨tl m, d, rfl, by have := Hg.out.1; rwa [Bool.or_false] at this, H3.out.to (tl_suf _) Hat.out, HG3.out.bar ((Bar.refl _ _).set _ _ _), HT3.out.bar ((Bar.refl _ _).set _ _ _)⟩
            case measure => rw [Hn.out]; exact Hg.out.2
          | true =>
            have f1 := HG3.out.frozen 1
            have q1 := HG3.out.cell1
            have H4 := Lib.hid (H3.out.gap HG3.out.ne HG3.out.low 1 (.bool true))
            have HG4 := Lib.hid (HG3.out.set1 true)
            have HT4 := Lib.hid (HT3.out.set 1 none (.bool true))
            have q0 := H4.out.cell0
            have q2 := H4.out.frozen 0
            have hne := HG3.out.ne
            go_wp2_with fail
            go_roundg (tl m).length
            case rel => exact ⟨tl m, true, rfl, by have := Hg.out.1; rwa [Bool.or_true] at this, H4.out.to (tl_suf _) Hat.out, HG4.out.bar ((Bar.refl _ _).set _ _ _), HT4.out.bar ((Bar.refl _ _).set _ _ _)⟩
            case measure => rw [Hn.out]; exact Hg.out.2

set_option maxHeartbeats 4000000 in
set_option maxRecDepth 20000 in
theorem comment_any (K : Box) (g : Nat) (v : Value) (b0 : Bool) (k0 : Nat) (hk0 : k0 ≤ 3) (l : List UInt8) (hl : 2 ≤ l.length) (w : World) (h : Rd K l w) (hg : Gp K g v b0 w) :
    Calls Tryd.prog 20 #[K.ptr, .int .i64 (k0 : Nat), .pointer (some ⟨g, 0, none⟩)] w (PostC K g v w (comP k0 b0 l)) := by
  by_cases e0 : k0 = 2
  · have HR : Hid (comP k0 b0 l = blockQ l (blk b0 (l.drop 2))) := Lib.hid (by rw [comP, if_pos e0])
    subst e0
    rw [HR.out]
    have H := Lib.hid h
    have HG := Lib.hid hg
    clear h hg
    go_enter Tryd.func20, Tryd.ntmps20
    go_wp2_with fail
    refine (block_any K g v b0 l hl _ H.out HG.out).mono ?_
    rintro e w1 hp
    obtain ⟨rfl, h1, h2, h3⟩ := hp
    go_wp2_with fail
    go_ret
    exact ⟨rfl, h1, h2, h3⟩
  · obtain ⟨R, hR⟩ : ∃ R, lin l = R := ⟨_, rfl⟩
    have HR : Hid (lin l = R) := Lib.hid hR
    have HC : Hid (comP k0 b0 l = (R.1, b0, R.2)) := Lib.hid (by rw [comP, if_neg e0, hR])
    rw [HC.out]
    have b0' : ((k0 : Int) == 2) = false := beq_eq_false_iff_ne.2 (by omega)
    have hs := h.small
    have H := Lib.hid h
    have HG := Lib.hid hg
    clear h hg hR e0
    go_enter Tryd.func20, Tryd.ntmps20
    go_wp2_with fail
    go_loopg [7, 8] l.length (fun n _ _ wr => ∃ m, n = m.length ∧ R = lin m ∧ Rd K m wr ∧ Bar K.b w wr)
    case atStart => exact ⟨l, rfl, HR.out.symm, H.out, Bar.refl _ _⟩
    case round =>
      obtain ⟨m, hn, hr, hRd, hBar⟩ := hrel
      obtain ⟨c, hc⟩ : ∃ c, chL m = c := ⟨_, rfl⟩
      obtain ⟨k, hk⟩ : ∃ k, lenL m = k := ⟨_, rfl⟩
      have Hn := Lib.hid hn
      have Hr := Lib.hid hr
      have HRd := Lib.hid hRd
      have HBar := Lib.hid hBar
      have Hat := Lib.hid (at_go hRd hk)
      have hat : ((K.at m : Nat) : Int) + (k : Nat) ≤ K.s.size := by rw [Hat.out]; have := at_le K (tl m); omega
      have Hc := Lib.hid hc
      have Hk := Lib.hid hk
      clear hn hr hRd hBar hc hk
      go_wp2_with fail
      refine (look_any K m c k Hc.out Hk.out _ HRd.out).mono ?_
      rintro e w1 ⟨rfl, h1, hb1⟩
      have H1 := Lib.hid h1; clear h1
      have HB1 := Lib.hid (HBar.out.on hb1)
      clear hb1
      have g0 := H1.out.cell0
      have g1 := H1.out.frozen 0
      by_cases e1 : c = -2
      · have Hf : Hid (R = (502, m)) := Lib.hid (by
          have hS : linS () m = .inl (502, m) := by unfold linS; rw [Hc.out, if_pos e1]
          rw [Hr.out]; show loop _ _ _ _ = _; rw [loop_in _ hS]; try rfl)
        subst e1
        go_wp2_with fail
        go_ret
        have hf := Hf.out
        exact post_c (r := (R.1, b0, R.2)) (by rw [hf]) H1.out (HG.out.bar HB1.out) ((Two.refl _ _ _).bar HB1.out)
      · have b1 : (c == -2) = false := beq_eq_false_iff_ne.2 e1
        have He1 := Lib.hid e1
        clear e1
        by_cases e2 : c = -1
        · have Hf : Hid (R = (0, m)) := Lib.hid (by
            have hS : linS () m = .inl (0, m) := by unfold linS; rw [Hc.out, if_neg He1.out, if_pos (Or.inl e2)]
            rw [Hr.out]; show loop _ _ _ _ = _; rw [loop_in _ hS]; try rfl)
          subst e2
          go_wp2_with fail
          go_ret
          have hf := Hf.out
          exact post_c (r := (R.1, b0, R.2)) (by rw [hf]) H1.out (HG.out.bar HB1.out) ((Two.refl _ _ _).bar HB1.out)
        · have b2 : (c == -1) = false := beq_eq_false_iff_ne.2 e2
          have He2 := Lib.hid e2
          clear e2
          go_wp2_with fail
          refine (Uni.ends_any c _).mono ?_
          rintro e w2 ⟨rfl, hb2⟩
          have H2 := Lib.hid (H1.out.on hb2)
          have HB2 := Lib.hid (HB1.out.on hb2)
          clear hb2 g0 g1
          have g0 := H2.out.cell0
          have g1 := H2.out.frozen 0
          cases hE : Uni.endsB c with
          | true =>
            have HE := Lib.hid hE
            clear hE
            have Hf : Hid (R = (0, m)) := Lib.hid (by
              have hS : linS () m = .inl (0, m) := by unfold linS; rw [Hc.out, if_neg He1.out, if_pos (Or.inr HE.out)]
              rw [Hr.out]; show loop _ _ _ _ = _; rw [loop_in _ hS]; try rfl)
            go_wp2_with fail
            go_ret
            have hf := Hf.out
            exact post_c (r := (R.1, b0, R.2)) (by rw [hf]) H2.out (HG.out.bar HB2.out) ((Two.refl _ _ _).bar HB2.out)
          | false =>
            have HE : Hid (¬ (c = -1 ∨ Uni.endsB c = true)) := Lib.hid (by rw [hE]; exact fun x => x.elim He2.out (fun y => by cases y))
            clear hE
            have Hg : Hid (R = lin (tl m) ∧ (tl m).length < m.length) := Lib.hid (by
              have hS : linS () m = .inr ((), tl m) := by unfold linS; rw [Hc.out, if_neg He1.out, if_neg HE.out]
              refine ⟨?_, falls_lin _ _ _ hS⟩
              rw [Hr.out]; show loop _ _ _ _ = _; rw [loop_go falls_lin _ hS]; try rfl)
            go_wp2_with fail
            go_roundg (tl m).length
            case rel => exact ⟨tl m, rfl, Hg.out.1, H2.out.to (tl_suf _) Hat.out, HB2.out.set _ _ _⟩
            case measure => rw [Hn.out]; exact Hg.out.2

set_option maxHeartbeats 1000000 in
set_option maxRecDepth 20000 in
theorem opens_any (K : Box) (l : List UInt8) (n : Nat) (z : Bool) (hz : z = decide (K.at l = 0)) (hn : opensP z l = n) (w : World) (h : Rd K l w) :
    Calls Tryd.prog 19 #[K.ptr] w fun e w' => e = .returned (.int .i64 (n : Nat)) ∧ Rd K l w' ∧ Below w.heap.size w w' := by
  obtain ⟨v1, hv1⟩ : ∃ v, pre [47, 47] l = v := ⟨_, rfl⟩
  obtain ⟨v2, hv2⟩ : ∃ v, pre [47, 42] l = v := ⟨_, rfl⟩
  obtain ⟨v3, hv3⟩ : ∃ v, pre [35, 33] l = v := ⟨_, rfl⟩
  have Hv1 := Lib.hid hv1
  have Hv2 := Lib.hid hv2
  have Hv3 := Lib.hid hv3
  have Hn : Hid (n = if v1 = true then 1 else if v2 = true then 2 else if z = true ∧ v3 = true then 3 else 0) := Lib.hid (by rw [← hn, opensP, hv1, hv2, hv3])
  have H := Lib.hid h
  clear h hv1 hv2 hv3 hn
  go_enter Tryd.func19, Tryd.ntmps19
  go_wp2_with fail
  refine (follows_any K l ⟨#[47, 47]⟩ v1 Hv1.out _ H.out).mono ?_
  rintro e w1 ⟨rfl, h1, hb1⟩
  have H1 := Lib.hid h1; clear h1
  cases v1 with
  | true =>
    have Hf : Hid (n = 1) := Lib.hid (by rw [Hn.out, if_pos rfl])
    go_wp2_with fail
    go_ret
    exact ⟨by rw [Hf.out]; rfl, H1.out, hb1⟩
  | false =>
    go_wp2_with fail
    refine (follows_any K l ⟨#[47, 42]⟩ v2 Hv2.out _ H1.out).mono ?_
    rintro e w2 ⟨rfl, h2, hb2⟩
    have H2 := Lib.hid h2; clear h2
    have hb12 := hb1.trans (hb2.mono hb1.size)
    clear hb1 hb2
    cases v2 with
    | true =>
      have Hf : Hid (n = 2) := Lib.hid (by rw [Hn.out, if_neg (by decide), if_pos rfl])
      go_wp2_with fail
      go_ret
      exact ⟨by rw [Hf.out]; rfl, H2.out, hb12⟩
    | false =>
      have g0 := H2.out.cell0
      by_cases hz0 : K.at l = 0
      · have b0 : (((K.at l : Nat) : Int) == 0) = true := beq_iff_eq.2 (by omega)
        have Hz : Hid (z = true) := Lib.hid (by rw [hz]; exact decide_eq_true hz0)
        clear hz hz0
        go_wp2_with fail
        refine (follows_any K l ⟨#[35, 33]⟩ v3 Hv3.out _ H2.out).mono ?_
        rintro e w3 ⟨rfl, h3, hb3⟩
        have H3 := Lib.hid h3; clear h3
        have hb13 := hb12.trans (hb3.mono hb12.size)
        clear hb12 hb3
        cases v3 with
        | true =>
          have Hf : Hid (n = 3) := Lib.hid (by rw [Hn.out, if_neg (by decide), if_neg (by decide), if_pos ⟨Hz.out, rfl⟩])
          go_wp2_with fail
          go_ret
          exact ⟨by rw [Hf.out]; rfl, H3.out, hb13⟩
        | false =>
          have Hf : Hid (n = 0) := Lib.hid (by rw [Hn.out, if_neg (by decide), if_neg (by decide), if_neg (fun x => by cases x.2)])
          go_wp2_with fail
          go_ret
          exact ⟨by rw [Hf.out]; rfl, H3.out, hb13⟩
      · have b0 : (((K.at l : Nat) : Int) == 0) = false := beq_eq_false_iff_ne.2 (by omega)
        have Hf : Hid (n = 0) := Lib.hid (by rw [Hn.out, if_neg (by decide), if_neg (by decide), if_neg (fun x => by rw [hz, decide_eq_false hz0] at x; cases x.1)])
        clear hz hz0
        go_wp2_with fail
        go_ret
        exact ⟨by rw [Hf.out]; rfl, H2.out, hb12⟩

end Lex
end Go.Proofs.YtggibhlmnfodaaaDoor
