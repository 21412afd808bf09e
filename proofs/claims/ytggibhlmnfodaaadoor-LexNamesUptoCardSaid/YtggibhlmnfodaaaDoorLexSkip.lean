/-
  What stands between two tokens is read; the comments are gathered.
-/
import Derived.Test.YtggibhlmnfodaaaDoorLexGap
import Derived.Laws.AppendOwn
import Derived.Maps.AppendAt
import Derived.Deep.AppendLies
import Derived.Deep.RegionLaw
import Derived.OwnWalk
namespace Go.Proofs.YtggibhlmnfodaaaDoor
namespace Lex
open Go.RowKit
open Str (lenL runeL)

theorem comInfo : (Tryd.prog.info? 33).map (fun i => (i.zero, i.size, i.bytes)) = some (some (.agg #[.int .i64 0, .string ⟨#[]⟩, .int .i64 0, .int .i64 0]), 4, 40) := by kernel_rfl

theorem ofL_data (s : ByteArray) : Str.ofL s.data.toList = s := by apply ByteArray.ext; simp [Str.ofL]
/-- A comment's cells. -/
def comV (K : Box) (c : Com) : List Value := [.int .i64 (c.kind : Nat), .string (Str.ofL (upTo c.fr c.to)), .int .i64 (K.at c.fr : Nat), .int .i64 (K.at c.to : Nat)]
def rowV (K : Box) (cs : List Com) : List Value := cs.flatMap (comV K)
theorem rowV_snoc (K : Box) (cs : List Com) (c : Com) : rowV K (cs ++ [c]) = rowV K cs ++ comV K c := by simp [rowV]

/-- The comments lie in a row of the call's own, from block H on. -/
def ComsAt (K : Box) (H : Nat) (v : Value) (cs : List Com) (w : World) : Prop := w.ownsRow H 33 4 v cs.length (rowV K cs)
theorem ComsAt.bar {K : Box} {H : Nat} {v : Value} {cs : List Com} {w w' : World} (h : ComsAt K H v cs w) (k : Bar K.b w w') (hb : K.b < H) : ComsAt K H v cs w' := by
  have hl := World.ownsRow.lt h
  refine World.ownsRow.kept (row := some K.b) h ⟨k.os, k.tape, k.output, k.size, fun i hi hne => k.block i hi (fun e => hne (by rw [e]))⟩ ?_
  cases hv : v.ownBlock with
  | none => exact Or.inl rfl
  | some g => exact Or.inr (fun e => by have := (hl g hv).1; injection e with e; omega)
theorem ComsAt.two {K : Box} {H g : Nat} {v : Value} {cs : List Com} {w w' : World} (h : ComsAt K H v cs w) (k : Two K.b g w w') (hb : K.b < H) (hg : g < H) : ComsAt K H v cs w' := by
  refine ⟨h.1, ?_⟩
  rcases h.2 with hn | ⟨q, cap, cur, h1, h2, h3, h4⟩
  · exact .inl hn
  · have hq : q < w.heap.size := (Array.getElem?_eq_some_iff.1 h3).1
    exact .inr ⟨q, cap, cur, h1, h2, (k.block q hq (by omega) (by omega)).trans h3, h4⟩

theorem pre_len {t l : List UInt8} (h : pre t l = true) : t.length ≤ l.length := by
  obtain ⟨r, rfl⟩ := (pre_iff _ _).1 h
  simp
theorem opens_two {z : Bool} {l : List UInt8} (h : opensP z l ≠ 0) : 2 ≤ l.length := by
  unfold opensP at h
  by_cases c1 : pre [47, 47] l = true
  · exact pre_len c1
  rw [if_neg c1] at h
  by_cases c2 : pre [47, 42] l = true
  · exact pre_len c2
  rw [if_neg c2] at h
  by_cases c3 : z = true ∧ pre [35, 33] l = true
  · exact pre_len c3.2
  rw [if_neg c3] at h
  exact absurd rfl h
theorem opens_le (z : Bool) (l : List UInt8) : opensP z l ≤ 3 := by
  unfold opensP
  repeat' split
  all_goals omega
theorem lin_go (x : UInt8) (l : List UInt8) (hx : x.toNat < 128) (he : Uni.endsB (x.toNat : Int) = false) : lin (x :: l) = lin l := by
  obtain ⟨h1, h2, _⟩ := ch_asc x l hx
  refine loop_go falls_lin _ ?_
  unfold linS
  rw [h1, h2, if_neg (by omega), if_neg (by rw [he]; exact fun h => h.elim (fun h => by omega) (fun h => by cases h))]
theorem com_lt {z b : Bool} {l : List UInt8} (h : opensP z l ≠ 0) (hc : (comP (opensP z l) b l).1 = 0) : (comP (opensP z l) b l).2.2.length < l.length := by
  have hlin : ∀ (x y : UInt8), pre [x, y] l = true → x.toNat < 128 → Uni.endsB (x.toNat : Int) = false → (lin l).2.length < l.length := by
    intro x y hp hx he
    obtain ⟨r, rfl⟩ := (pre_iff _ _).1 hp
    show (lin (x :: (y :: r))).2.length < _
    rw [lin_go x _ hx he]
    have := (lin_suf (y :: r)).length_le
    simp only [List.cons_append, List.nil_append, List.length_cons] at this ⊢
    omega
  unfold opensP at h hc ⊢
  by_cases c1 : pre [47, 47] l = true
  · rw [if_pos c1] at hc ⊢
    unfold comP
    rw [if_neg (by decide)]
    exact hlin 47 47 c1 (by decide) (by decide)
  rw [if_neg c1] at h hc ⊢
  by_cases c2 : pre [47, 42] l = true
  · rw [if_pos c2] at hc ⊢
    unfold comP at hc ⊢
    rw [if_pos rfl] at hc ⊢
    unfold blockQ at hc ⊢
    split
    · rename_i hh
      rw [if_pos hh] at hc
      exact absurd (show (507 : Int) = 0 from hc) (by decide)
    · have h2 := (blk_suf b (l.drop 2)).length_le
      have h3 := pre_len c2
      rw [List.length_drop] at h2
      simp only [List.length_cons, List.length_nil] at h3
      omega
  rw [if_neg c2] at h hc ⊢
  by_cases c3 : z = true ∧ pre [35, 33] l = true
  · rw [if_pos c3] at hc ⊢
    unfold comP
    rw [if_neg (by decide)]
    exact hlin 35 33 c3.2 (by decide) (by decide)
  · rw [if_neg c3] at h
    exact absurd rfl h

theorem grown_drew {w w' : World} {row : Option Nat} (h : w.grownBy w' row) : w.grownBy w'.drew row := ⟨h.os, h.tape, h.output, h.size, h.block⟩
theorem frz_alloc (w : World) (o : Obj) (b k : Nat) (h : b < w.heap.size) : (w.alloc o).frozen? ⟨b, k, none⟩ = w.frozen? ⟨b, k, none⟩ :=
  World.frozen?_of_block ((World.grownBy_alloc w o none).block b h (by simp))
theorem frz_drew (w : World) (a : Addr) : w.drew.frozen? a = w.frozen? a := rfl
theorem heap_new (w : World) (o : Obj) : (w.alloc o).heap[w.heap.size]? = some o := by show (w.heap.push _)[w.heap.size]? = _; simp
/-- A comment is put behind the others. -/
theorem com_done {K : Box} {g : Nat} {w W Wx w1 : World} {v : Value} {d : Bool} {t : List UInt8} {cs : List Com} {c : Com} {gg cap : Nat} (hlo : K.b < w.heap.size ∧ g < w.heap.size)
    (hR : Rd K t W) (hG : Gp K g v d W) (hC : ComsAt K w.heap.size v cs W) (hT : Two K.b g w W) (hgx : W.grownBy Wx none) (hgrow : Wx.grownBy w1 v.ownBlock)
    (hown : w1.ownsRow w.heap.size 33 4 (.slice (some ⟨gg, 0, none⟩) (cs.length + 1) cap) (cs.length + 1) (rowV K cs ++ comV K c)) :
    Rd K t (w1.setCell ⟨g, 0, none⟩ (.slice (some ⟨gg, 0, none⟩) (cs.length + 1) cap)) ∧ Gp K g (.slice (some ⟨gg, 0, none⟩) (cs.length + 1) cap) d (w1.setCell ⟨g, 0, none⟩ (.slice (some ⟨gg, 0, none⟩) (cs.length + 1) cap)) ∧
    ComsAt K w.heap.size (.slice (some ⟨gg, 0, none⟩) (cs.length + 1) cap) (cs ++ [c]) (w1.setCell ⟨g, 0, none⟩ (.slice (some ⟨gg, 0, none⟩) (cs.length + 1) cap)) ∧ Two K.b g w (w1.setCell ⟨g, 0, none⟩ (.slice (some ⟨gg, 0, none⟩) (cs.length + 1) cap)) := by
  have hl := World.ownsRow.lt hC
  have hg2 := World.ownsRow.lt hown gg rfl
  have hwW := hT.size
  have kW : ∀ k, k < W.heap.size → some k ≠ v.ownBlock → w1.heap[k]? = W.heap[k]? := fun k hk hn => (hgrow.block k (Nat.lt_of_lt_of_le hk hgx.size) hn).trans (hgx.block k hk (by simp))
  have klow : ∀ k, k < w.heap.size → some k ≠ v.ownBlock := fun k hk e => by have := (hl k e.symm).1; omega
  generalize hv' : Value.slice (some ⟨gg, 0, none⟩) (cs.length + 1) cap = v' at *
  have kS : ∀ k, k ≠ g → (w1.setCell ⟨g, 0, none⟩ v').heap[k]? = w1.heap[k]? := fun k hk => Below.heap_setCell w1 ⟨g, 0, none⟩ v' k (by simpa using hk)
  have hsz1 : (w1.setCell ⟨g, 0, none⟩ v').heap.size = w1.heap.size := by simp [World.setCell]
  have hwx : W.heap.size ≤ w1.heap.size := Nat.le_trans hgx.size hgrow.size
  have hKB : K.B ≤ K.b := hR.low
  have hos : w1.os = W.os := hgrow.os.trans hgx.os
  have htp : w1.tape = W.tape := hgrow.tape.trans hgx.tape
  have hou : w1.output = W.output := hgrow.output.trans hgx.output
  have hbel : Below K.B W (w1.setCell ⟨g, 0, none⟩ v') :=
    ⟨hos, htp, hou, by rw [hsz1]; exact hwx, fun k hk => (kS k (by have := hG.low; omega)).trans (kW k (by omega) (klow k (by omega)))⟩
  have hobv : v'.ownBlock = some gg := by rw [← hv']; rfl
  refine ⟨⟨by rw [hsz1]; have := hR.lt; omega, hKB, ((kS K.b (Ne.symm hG.ne)).trans (kW K.b hR.lt (klow _ hlo.1))).trans hR.got, hR.suf, hR.small, hR.tabs.on hbel⟩, ⟨hG.ne, hG.low, by rw [hsz1]; have := hG.lt; omega, ?_⟩, ?_, ?_⟩
  · have h1 : w1.heap[g]? = some (.cells #[v, .bool d] 40) := (kW g hG.lt (klow _ hlo.2)).trans hG.got
    show (w1.heap.modify g _)[g]? = _
    rw [Array.getElem?_modify, if_pos rfl, h1]
    subst hv'
    rfl
  · show World.ownsRow _ _ _ _ _ (cs ++ [c]).length (rowV K (cs ++ [c]))
    rw [rowV_snoc, List.length_append]
    exact hown.kept (row := some g) ⟨rfl, rfl, rfl, by rw [hsz1]; exact Nat.le_refl _, fun k _ hne => kS k (fun e => hne (by rw [e]))⟩ (Or.inr (by rw [hobv]; intro e; injection e with e; omega))
  · exact ⟨hos.trans hT.os, htp.trans hT.tape, hou.trans hT.output, by rw [hsz1]; omega, fun k hk hb hg => ((kS k hg).trans (kW k (by omega) (klow k hk))).trans (hT.block k hk hb hg)⟩

/-- What a call comes to that reads a gap. -/
def PostG (K : Box) (g : Nat) (w : World) (r : Gap) (e : Ending) (w' : World) : Prop :=
  e = .returned (.int .i64 r.code) ∧ Rd K r.rest w' ∧ (∃ v, Gp K g v r.line w' ∧ ComsAt K w.heap.size v r.coms w') ∧ Two K.b g w w' ∧ r.coms.length ≤ K.s.size
theorem post_g {K : Box} {g : Nat} {w w' : World} {r : Gap} {a : Int} {b : Bool} {cs : List Com} {m : List UInt8} {v : Value} (h : r = ⟨a, b, cs, m⟩) (h1 : Rd K m w') (h2 : Gp K g v b w') (h3 : ComsAt K w.heap.size v cs w') (h4 : Two K.b g w w') (h5 : cs.length ≤ K.s.size) :
    PostG K g w r (.returned (.int .i64 a)) w' := by subst h; exact ⟨rfl, h1, ⟨v, h2, h3⟩, h4, h5⟩

set_option maxHeartbeats 8000000 in
set_option maxRecDepth 100000 in
theorem skip_any (K : Box) (g : Nat) (z0 : Bool) (l : List UInt8) (w : World) (h : Rd K l w) (hz : z0 = decide (K.at l = 0)) (hg : Gp K g (.slice none 0 0) false w) :
    Calls Tryd.prog 12 #[K.ptr, .pointer (some ⟨g, 0, none⟩)] w (PostG K g w (skip (z0, false, []) l)) := by
  obtain ⟨i0, hi0, hz0, hz1, hz2⟩ := info_parts comInfo
  obtain ⟨R, hR⟩ : ∃ R, skip (z0, false, []) l = R := ⟨_, rfl⟩
  rw [hR]
  have HR := Lib.hid hR
  have hs := h.small
  have Hbw : Hid (K.b < w.heap.size ∧ g < w.heap.size) := Lib.hid ⟨h.lt, hg.lt⟩
  have Hlen : Hid (([] : List Com).length + l.length ≤ K.s.size) := Lib.hid (by have := h.len; simpa using this)
  have Hz := Lib.hid hz
  have H := Lib.hid h
  have HG := Lib.hid hg
  clear h hR hg hz
  go_enter Tryd.func12, Tryd.ntmps12
  go_wp2_with fail
  go_loopg [5, 6, 7, 8, 9, 10] l.length (fun n _ _ _ _ _ _ wr => ∃ m z b cs v, n = m.length ∧ R = skip (z, b, cs) m ∧ z = decide (K.at m = 0) ∧ cs.length + m.length ≤ K.s.size ∧ Rd K m wr ∧ Gp K g v b wr ∧ ComsAt K w.heap.size v cs wr ∧ Two K.b g w wr)
  case atStart => exact ⟨l, z0, false, [], _, rfl, HR.out.symm, Hz.out, Hlen.out, H.out, HG.out, World.ownsRow_nil _ _ _ _, Two.refl _ _ _⟩
  case round =>
    clear H HG Hlen HR Hz
    obtain ⟨m, z, b, cs, v, hn, hr, hzz, hcl, hRd, hGp, hCo, hTwo⟩ := hrel
    obtain ⟨c, hc⟩ : ∃ c, chL m = c := ⟨_, rfl⟩
    obtain ⟨k, hk⟩ : ∃ k, lenL m = k := ⟨_, rfl⟩
    have Hn := Lib.hid hn
    have Hr := Lib.hid hr
    have Hz := Lib.hid hzz
    have Hcl := Lib.hid hcl
    have HRd := Lib.hid hRd
    have HGp := Lib.hid hGp
    have HCo := Lib.hid hCo
    have HTwo := Lib.hid hTwo
    have Hat := Lib.hid (at_go hRd hk)
    have hat : ((K.at m : Nat) : Int) + (k : Nat) ≤ K.s.size := by rw [Hat.out]; have := at_le K (tl m); omega
    have Hc := Lib.hid hc
    have Hk := Lib.hid hk
    clear hn hr hzz hcl hRd hGp hCo hTwo hc hk
    go_wp2_with fail
    refine (look_any K m c k Hc.out Hk.out _ HRd.out).mono ?_
    rintro e w1 ⟨rfl, h1, hb1⟩
    have H1 := Lib.hid h1
    have HG1 := Lib.hid (HGp.out.on hb1)
    have HC1 := Lib.hid (HCo.out.bar (Bar.of hb1) Hbw.out.1)
    have HT1 := Lib.hid (HTwo.out.on hb1)
    clear h1 hb1
    by_cases e1 : c = -2
    · have Hf : Hid (R = ⟨502, b, cs, m⟩) := Lib.hid (by
        have hS : skipS (z, b, cs) m = .inl ⟨502, b, cs, m⟩ := by unfold skipS; rw [Hc.out, if_pos e1]
        rw [Hr.out]; exact loop_in _ hS)
      subst e1
      go_wp2_with fail
      go_ret
      exact post_g Hf.out H1.out HG1.out HC1.out HT1.out (by have := Hcl.out; omega)
    · have b1 : (c == -2) = false := beq_eq_false_iff_ne.2 e1
      have He1 := Lib.hid e1
      clear e1
      go_wp2_with fail
      refine (Uni.ends_any c _).mono ?_
      rintro e w2 ⟨rfl, hb2⟩
      have H2 := Lib.hid (H1.out.on hb2)
      have HG2 := Lib.hid (HG1.out.on hb2)
      have HC2 := Lib.hid (HC1.out.bar (Bar.of hb2) Hbw.out.1)
      have HT2 := Lib.hid (HT1.out.on hb2)
      clear hb2
      cases hE : Uni.endsB c with
      | true =>
        have Hg : Hid (R = skip (false, true, cs) (tl m) ∧ (tl m).length < m.length) := Lib.hid (by
          have hS : skipS (z, b, cs) m = .inr ((false, true, cs), tl m) := by unfold skipS; rw [Hc.out, if_neg He1.out, if_pos hE]
          exact ⟨by rw [Hr.out]; exact loop_go falls_skip _ hS, falls_skip _ _ _ hS⟩)
        have Hz2 : Hid (false = decide (K.at (tl m) = 0)) := Lib.hid (by
          have h1 := Hg.out.2; have h2 := H2.out.len
          rw [eq_comm, decide_eq_false_iff_not]; unfold Box.at; omega)
        clear hE
        have f1 := HG2.out.frozen 1
        have q1 := HG2.out.cell1
        have H4 := Lib.hid (H2.out.gap HG2.out.ne HG2.out.low 1 (.bool true))
        have HG4 := Lib.hid (HG2.out.set1 true)
        have HT4 := Lib.hid (HT2.out.set 1 none (.bool true))
        have HC4 := Lib.hid (HC2.out.two ((Two.refl K.b g w2).set 1 none (.bool true)) Hbw.out.1 Hbw.out.2)
        have q0 := H4.out.cell0
        have q2 := H4.out.frozen 0
        go_wp2_with fail
        go_roundg (tl m).length
        case rel => exact ⟨tl m, false, true, cs, v, rfl, Hg.out.1, Hz2.out, by have := Hcl.out; have := Hg.out.2; omega, H4.out.to (tl_suf _) Hat.out, HG4.out.bar ((Bar.refl _ _).set _ _ _), HC4.out.bar ((Bar.refl _ _).set _ _ _) Hbw.out.1, HT4.out.bar ((Bar.refl _ _).set _ _ _)⟩
        case measure => rw [Hn.out]; exact Hg.out.2
      | false =>
        have HE := Lib.hid hE
        clear hE
        go_wp2_with fail
        refine (Uni.blank_any c _).mono ?_
        rintro e w3 ⟨rfl, hb3⟩
        have H3 := Lib.hid (H2.out.on hb3)
        have HG3 := Lib.hid (HG2.out.on hb3)
        have HC3 := Lib.hid (HC2.out.bar (Bar.of hb3) Hbw.out.1)
        have HT3 := Lib.hid (HT2.out.on hb3)
        clear hb3
        have q0 := H3.out.cell0
        have q2 := H3.out.frozen 0
        cases hB : Uni.blankB c with
        | true =>
          have Hg : Hid (R = skip (false, b, cs) (tl m) ∧ (tl m).length < m.length) := Lib.hid (by
            have hS : skipS (z, b, cs) m = .inr ((false, b, cs), tl m) := by unfold skipS; rw [Hc.out, if_neg He1.out, HE.out, if_neg (by decide), if_pos hB]
            exact ⟨by rw [Hr.out]; exact loop_go falls_skip _ hS, falls_skip _ _ _ hS⟩)
          have Hz2 : Hid (false = decide (K.at (tl m) = 0)) := Lib.hid (by
            have h1 := Hg.out.2; have h2 := H2.out.len
            rw [eq_comm, decide_eq_false_iff_not]; unfold Box.at; omega)
          clear hB
          go_wp2_with fail
          go_roundg (tl m).length
          case rel => exact ⟨tl m, false, b, cs, v, rfl, Hg.out.1, Hz2.out, by have := Hcl.out; have := Hg.out.2; omega, H3.out.to (tl_suf _) Hat.out, HG3.out.bar ((Bar.refl _ _).set _ _ _), HC3.out.bar ((Bar.refl _ _).set _ _ _) Hbw.out.1, HT3.out.bar ((Bar.refl _ _).set _ _ _)⟩
          case measure => rw [Hn.out]; exact Hg.out.2
        | false =>
          have HB := Lib.hid hB
          clear hB q0 q2
          obtain ⟨n, hn⟩ : ∃ n, opensP z m = n := ⟨_, rfl⟩
          have Ho := Lib.hid hn
          have hn3 : n ≤ 3 := by rw [← hn]; exact opens_le z m
          clear hn
          go_wp2_with fail
          refine (opens_any K m n z Hz.out Ho.out _ H3.out).mono ?_
          rintro e w4 ⟨rfl, h4, hb4⟩
          have H4 := Lib.hid h4
          have HG4 := Lib.hid (HG3.out.on hb4)
          have HC4 := Lib.hid (HC3.out.bar (Bar.of hb4) Hbw.out.1)
          have HT4 := Lib.hid (HT3.out.on hb4)
          clear h4 hb4
          by_cases e4 : n = 0
          · have Hf : Hid (R = ⟨0, b, cs, m⟩) := Lib.hid (by
              have hS : skipS (z, b, cs) m = .inl ⟨0, b, cs, m⟩ := by unfold skipS; rw [Hc.out, if_neg He1.out, HE.out, if_neg (by decide), HB.out, if_neg (by decide), if_pos (by rw [Ho.out]; exact e4)]
              rw [Hr.out]; exact loop_in _ hS)
            subst e4
            go_wp2_with fail
            go_ret
            exact post_g Hf.out H4.out HG4.out HC4.out HT4.out (by have := Hcl.out; omega)
          · have b4 : ((n : Int) == 0) = false := beq_eq_false_iff_ne.2 (by omega)
            have He4 : Hid (¬ opensP z m = 0) := Lib.hid (by rw [Ho.out]; exact e4)
            clear e4
            have Hl2 := Lib.hid (opens_two He4.out)
            obtain ⟨C, hC⟩ : ∃ C, comP n b m = C := ⟨_, rfl⟩
            have HCm := Lib.hid hC
            have hsf := comP_suf n b m
            rw [hC] at hsf
            have Hsf := Lib.hid hsf
            have HS0 : Hid (skipS (z, b, cs) m = skipC n (z, b, cs) m C) := Lib.hid (by
              unfold skipS; rw [Hc.out, if_neg He1.out, HE.out, if_neg (by decide), HB.out, if_neg (by decide), if_neg He4.out]
              show skipC (opensP z m) (z, b, cs) m (comP (opensP z m) b m) = _
              rw [Ho.out, hC])
            have Hclt : Hid (C.1 = 0 → C.2.2.length < m.length) := Lib.hid (fun h0 => by
              have := com_lt (z := z) (b := b) (l := m) He4.out (by rw [Ho.out, hC]; exact h0)
              rwa [Ho.out, hC] at this)
            clear hC hsf
            have q0 := H4.out.cell0
            go_wp2_with fail
            refine (comment_any K g v b n hn3 m Hl2.out _ H4.out HG4.out).mono ?_
            rintro e w5 hp
            rw [HCm.out] at hp
            obtain ⟨rfl, h5, hg5, ht5⟩ := hp
            have HC5 := Lib.hid (HC4.out.two ht5 Hbw.out.1 Hbw.out.2)
            have HT5 := Lib.hid (HT4.out.trans ht5)
            have H5 := Lib.hid h5
            have HG5 := Lib.hid hg5
            clear h5 hg5 ht5 q0
            obtain ⟨a, d, t⟩ := C
            simp only at *
            by_cases e5 : a = 0
            · subst e5
              have Hlt := Lib.hid (Hclt.out rfl)
              have Hg : Hid (R = skip (false, d, cs ++ [⟨n, m, t⟩]) t) := Lib.hid (by
                have hS : skipS (z, b, cs) m = .inr ((false, d, cs ++ [⟨n, m, t⟩]), t) := by rw [HS0.out, skipC, if_pos rfl, if_pos Hlt.out]
                rw [Hr.out]; exact loop_go falls_skip _ hS)
              have Hz2 : Hid (false = decide (K.at t = 0)) := Lib.hid (by
                have h1 := Hlt.out; have h2 := H4.out.len
                rw [eq_comm, decide_eq_false_iff_not]; unfold Box.at; omega)
              have HX : Hid (K.s.extract (K.at m) (K.at t) = Str.ofL (upTo m t)) := Lib.hid (by
                have := extract_up K H4.out.suf (Nat.le_of_lt Hlt.out)
                rw [← this, ofL_data])
              have hle : K.at m ≤ K.at t := by have := Hlt.out; unfold Box.at; omega
              have hlm := at_le K t
              have Hcl2 : Hid ((cs ++ [(⟨n, m, t⟩ : Com)]).length + t.length ≤ K.s.size) := Lib.hid (by have := Hlt.out; have := Hcl.out; rw [List.length_append, List.length_singleton]; omega)
              have hcn : cs.length < 4194304 := by have := Hlt.out; have := Hcl.out; omega
              have q0 := H5.out.cell0
              have q1 := H5.out.cell1
              clear Hclt HS0 HG4 H4 HC4 HT4 H3 HG3 HC3 HT3 H2 HG2 HC2 HT2 H1 HG1 HC1 HT1
              go_wp2_with fail
              go_quiet (fail)
              generalize hw : World.drewN _ _ = W
              have HW := Lib.hid (show Rd K t W ∧ Gp K g v d W ∧ ComsAt K w.heap.size v cs W ∧ Two K.b g w W from hw ▸ ⟨H5.out.drewN _, HG5.out.bar ((Bar.refl _ _).drewN _), HC5.out.bar ((Bar.refl _ _).drewN _) Hbw.out.1, HT5.out.bar ((Bar.refl _ _).drewN _)⟩)
              clear hw q0 q1 H5 HG5 HC5 HT5
              rw [HX.out]
              go_wp2_with fail
              have q0 := HW.out.1.cell0
              have q1 := HW.out.1.cell1
              have p0 := HW.out.2.1.cell0
              have p1 := HW.out.2.1.frozen 0
              have Hn1 := Lib.hid (show W.ownsRow w.heap.size 33 4 v cs.length (rowV K cs) from HW.out.2.2.1)
              have hbW := HW.out.1.lt
              have hgW := HW.out.2.1.lt
              have hHW := HW.out.2.2.2.size
              have ob1 : v.ownBlock ≠ some K.b := fun e => by have := (World.ownsRow.lt Hn1.out _ e).1; have := Hbw.out.1; omega
              have ob2 : v.ownBlock ≠ some g := fun e => by have := (World.ownsRow.lt Hn1.out _ e).1; have := Hbw.out.2; omega
              go_region_law
                ((refine step_append_lies _ (by rfl) _ _ _ (by rfl) w.heap.size 33 i0 _ 4 40 Tryd.underlying27 hi0 hz0 hz1 hz2 rfl (by omega) v cs.length (rowV K cs) (by rfl) ((Hn1.out.alloc _).drew)
                    ⟨W.heap.size, 0, none⟩ 1 1 [.int .i64 (n : Nat), .string (Str.ofL (upTo m t)), .int .i64 (K.at m : Nat), .int .i64 (K.at t : Nat)] (by rfl) (by rfl) (World.news_of_block (cs := #[.int .i64 (n : Nat), .string (Str.ofL (upTo m t)), .int .i64 (K.at m : Nat), .int .i64 (K.at t : Nat)]) (t := 33) (fr := (0, 0)) (heap_new W _)) (by simp [Value.oneCell'])
                    (by omega) (by unfold maxLen; omega) (by omega) (by simp; omega) (W.heap.size + 1) (by simp) ?_; intro gg cap w7 hown7 hgrow hat hlt; have k5 : w7.cell? ⟨g, 0, none⟩ = some v := (by rw [hgrow.cell_far _ (by simp; omega) (Ne.symm ob2)]; go_keep); have k6 : w7.cell? ⟨K.b, 0, none⟩ = some (.int .i64 (K.at t : Nat)) := (by rw [hgrow.cell_far _ (by simp; omega) (Ne.symm ob1)]; go_keep); have f5 : w7.frozen? ⟨g, 0, none⟩ = false := (by rw [hgrow.frozen_far _ (by simp; omega) (Ne.symm ob2)]; simp [*, frz_alloc _ _ _ _ hgW])))
              all_goals
                go_wp2_with fail
                have hD := com_done (c := ⟨n, m, t⟩) Hbw.out HW.out.1 HW.out.2.1 HW.out.2.2.1 HW.out.2.2.2 (grown_drew (World.grownBy_alloc W _ none)) hgrow hown7
                go_roundg t.length
                case rel => exact ⟨t, false, d, cs ++ [⟨n, m, t⟩], _, rfl, Hg.out, Hz2.out, Hcl2.out, hD.1, hD.2.1, hD.2.2.1, hD.2.2.2⟩
                case measure => rw [Hn.out]; exact Hlt.out
            · have b5 : (a != 0) = true := bne_iff_ne.2 e5
              have Hf : Hid (R = ⟨a, d, cs, t⟩) := Lib.hid (by
                have hS : skipS (z, b, cs) m = .inl ⟨a, d, cs, t⟩ := by rw [HS0.out, skipC, if_neg e5]
                rw [Hr.out]; exact loop_in _ hS)
              clear e5
              go_wp2_with fail
              go_ret
              exact post_g Hf.out H5.out HG5.out HC5.out HT5.out (by have := Hcl.out; omega)

end Lex
end Go.Proofs.YtggibhlmnfodaaaDoor
