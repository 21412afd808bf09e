/-
  What must be met is noted.
-/
import Derived.Test.YtjoohpdohdehgaaGreatDoorRegFull
namespace Go.Proofs.YtjoohpdohdehgaaGreatDoor
namespace Reg
open Go.RowKit Go.Maps
open Str (lenL runeL hexV)

theorem funcInfo : (Tryz.prog.info? 1).map (fun i => (i.zero, i.size, i.bytes)) = some (some .nilFunc, 1, 8) := by kernel_rfl

/-- A new block of one cell. -/
theorem one_new (w : World) (v : Value) (t : TypeId) : (w.alloc (.cells #[v] t)).cell? ⟨w.heap.size, 0, none⟩ = some v := by
  rw [World.cell?_alloc_at _ _ _ _ rfl]; simp

theorem frz_alloc (w : World) (o : Obj) (b k : Nat) (h : b < w.heap.size) : (w.alloc o).frozen? ⟨b, k, none⟩ = w.frozen? ⟨b, k, none⟩ :=
  World.frozen?_of_block ((World.grownBy_alloc w o none).block b h (by simp))
theorem frz_drew (w : World) (a : Addr) : w.drew.frozen? a = w.frozen? a := rfl

theorem Rd.setv {C : Ctx} {g : Nat} {v : Value} {l : List UInt8} {w w1 : World} (h : Rd (C.box g v) l w) (hblk : w1.heap[C.b]? = w.heap[C.b]?) (v' : Value) (hT : Tabs C.B (w1.setCell ⟨C.b, 5, none⟩ v')) : Rd (C.box g v') l (w1.setCell ⟨C.b, 5, none⟩ v') := by
  have hg : w1.heap[C.b]? = some (.cells #[.string C.s, .int .i64 ((C.box g v).at l), .bool C.u, .int .i64 g, .map (some C.mb), v] 61) := hblk.trans h.got
  refine ⟨?_, h.low, ?_, h.suf, h.small, hT⟩
  · have := (Array.getElem?_eq_some_iff.1 hg).1
    simpa [World.setCell] using this
  · show (w1.heap.modify C.b _)[C.b]? = _
    rw [Array.getElem?_modify, if_pos rfl, hg]
    rfl

theorem refer_done {C : Ctx} {st : St} {v : Value} {w W Wx w1 : World} (hF : Full C st v w) (hW : w.grownBy W none) (hsz : w.heap.size + 1 + 1 < W.heap.size) {left : Nat} {named : Bool} {t : List UInt8}
    (a0 : W.cell? ⟨w.heap.size, 0, none⟩ = some (.pointer (some ⟨C.b, 0, none⟩))) (p0 : W.cell? ⟨w.heap.size + 1, 0, none⟩ = some (.int .i64 ((C.s.size - left : Nat) : Int))) (t0 : W.cell? ⟨w.heap.size + 1 + 1, 0, none⟩ = some (.string (Str.ofL t)))
    {xs : List Value} (hall : AllR C v.ownBlock w st.refs xs) (hlow : ∀ k, v.ownBlock = some k → C.B ≤ k ∧ k < w.heap.size) (hob1 : v.ownBlock ≠ some C.b) (hob2 : v.ownBlock ≠ some C.mb) (hgx : W.grownBy Wx none) (hgrow : Wx.grownBy w1 v.ownBlock) {gg cap : Nat}
    (hown1 : w1.ownsRow C.B 1 1 (.slice (some ⟨gg, 0, none⟩) (st.refs.length + 1) cap) (st.refs.length + 1) (xs ++ [.func (.func (fnOf named)) #[] #[.pointer (some ⟨w.heap.size, 0, none⟩), .pointer (some ⟨w.heap.size + 1 + 1, 0, none⟩), .pointer (some ⟨w.heap.size + 1, 0, none⟩)]]))
    (hat : v.ownBlock = some gg ∨ gg = W.heap.size + 1) (hb : st.refs.length + 1 + st.rest.length ≤ C.s.size) :
    (∃ v', Full C { st with refs := st.refs ++ [⟨left, named, t⟩] } v' (w1.setCell ⟨C.b, 5, none⟩ (.slice (some ⟨gg, 0, none⟩) (st.refs.length + 1) cap))) ∧ Below C.B w (w1.setCell ⟨C.b, 5, none⟩ (.slice (some ⟨gg, 0, none⟩) (st.refs.length + 1) cap)) := by
  have hbl : C.b < w.heap.size := hF.rd.lt
  have hBl : C.B ≤ w.heap.size := hF.rd.tabs.le
  have hlw : C.B ≤ C.b := hF.rd.low
  have hmb : C.mb < w.heap.size := by obtain ⟨D, h1, _⟩ := hF.names; exact h1.lt
  -- blocks that stand
  have kW : ∀ k, k < W.heap.size → some k ≠ v.ownBlock → w1.heap[k]? = W.heap[k]? := fun k hk hn => (hgrow.block k (Nat.lt_of_lt_of_le hk hgx.size) hn).trans (hgx.block k hk (by simp))
  have k1 : ∀ k, k < w.heap.size → some k ≠ v.ownBlock → w1.heap[k]? = w.heap[k]? := fun k hk hn => (kW k (Nat.lt_of_lt_of_le hk hW.size) hn).trans (hW.block k hk (by simp))
  generalize hv' : Value.slice (some ⟨gg, 0, none⟩) (st.refs.length + 1) cap = v' at *
  have kS : ∀ k, k ≠ C.b → (w1.setCell ⟨C.b, 5, none⟩ v').heap[k]? = w1.heap[k]? := fun k hk => Below.heap_setCell w1 ⟨C.b, 5, none⟩ v' k (by simpa using hk)
  have hsz1 : (w1.setCell ⟨C.b, 5, none⟩ v').heap.size = w1.heap.size := by simp [World.setCell]
  have hwx : w.heap.size ≤ w1.heap.size := Nat.le_trans hW.size (Nat.le_trans hgx.size hgrow.size)
  have hbel : Below C.B w (w1.setCell ⟨C.b, 5, none⟩ v') := by
    refine ⟨(hgrow.os.trans hgx.os).trans hW.os, (hgrow.tape.trans hgx.tape).trans hW.tape, (hgrow.output.trans hgx.output).trans hW.output, by rw [hsz1]; exact hwx, fun k hk => ?_⟩
    refine (kS k (by omega)).trans (k1 k (by omega) (fun e => ?_))
    have := (hlow k e.symm).1
    omega
  have hobv : v'.ownBlock = some gg := by rw [← hv']; rfl
  have hggb : gg ≠ C.b := by
    rcases hat with h | h
    · intro e; rw [e] at h; exact hob1 h
    · have := hW.size; omega
  have hggm : gg ≠ C.mb := by
    rcases hat with h | h
    · intro e; rw [e] at h; exact hob2 h
    · have := hW.size; omega
  have hnew : ∀ k, w.heap.size ≤ k → k < W.heap.size → some k ≠ v.ownBlock ∧ k ≠ gg := by
    intro k h1 h2
    refine ⟨fun e => by have := (hlow k e.symm).2; omega, ?_⟩
    rcases hat with h | h
    · have := (hlow gg h).2; omega
    · omega
  refine ⟨⟨v', ⟨hF.rd.setv (k1 C.b hbl (Ne.symm hob1)) v' (hF.rd.tabs.on hbel), hF.mne, hF.mlow, ?_, ?_, hF.gb, hF.nb, ?_⟩⟩, hbel⟩
  · obtain ⟨D, h1, h2, h3⟩ := hF.names
    obtain ⟨es, clock, q1, q2, q3, q4⟩ := h1
    exact ⟨D, ⟨es, clock, ((kS C.mb hF.mne).trans (k1 C.mb hmb (Ne.symm hob2))).trans q1, q2, q3, q4⟩, h2, h3⟩
  · refine ⟨xs ++ [.func (.func (fnOf named)) #[] #[.pointer (some ⟨w.heap.size, 0, none⟩), .pointer (some ⟨w.heap.size + 1 + 1, 0, none⟩), .pointer (some ⟨w.heap.size + 1, 0, none⟩)]], ?_, ?_, by rw [hobv]; simpa using hggb, by rw [hobv]; simpa using hggm⟩
    · have hl : (st.refs ++ [(⟨left, named, t⟩ : Ref)]).length = st.refs.length + 1 := by simp
      show World.ownsRow _ _ _ _ _ (st.refs ++ [(⟨left, named, t⟩ : Ref)]).length _
      rw [hl]
      refine hown1.kept (row := some C.b) ⟨rfl, rfl, rfl, by rw [hsz1]; exact Nat.le_refl _, fun k _ hne => kS k (fun e => hne (by rw [e]))⟩ (Or.inr (by rw [hobv]; simpa using hggb))
    · rw [hobv]
      refine AllR.snoc ?_ _ _ (AllR.map (fun r x hx => ?_) _ _ hall)
      · refine ⟨w.heap.size, w.heap.size + 1 + 1, w.heap.size + 1, rfl, fun k hk => ?_, ?_, ?_, ?_⟩
        · have h1 : w.heap.size ≤ k ∧ k < W.heap.size := by omega
          have h2 := hnew k h1.1 h1.2
          exact ⟨by omega, by omega, by omega, by simpa using h2.2⟩
        · exact (World.cell?_of_block ((kS _ (by show w.heap.size ≠ C.b; omega)).trans (kW w.heap.size (by omega) (hnew _ (by omega) (by omega)).1))).trans a0
        · exact (World.cell?_of_block ((kS _ (by show w.heap.size + 1 + 1 ≠ C.b; omega)).trans (kW (w.heap.size + 1 + 1) (by omega) (hnew _ (by omega) (by omega)).1))).trans t0
        · exact (World.cell?_of_block ((kS _ (by show w.heap.size + 1 ≠ C.b; omega)).trans (kW (w.heap.size + 1) (by omega) (hnew _ (by omega) (by omega)).1))).trans p0
      · obtain ⟨a, tt, pp, h1, h2, h3, h4, h5⟩ := hx
        have la : a < w.heap.size := World.block_lt_of_cell? w _ h3
        have lt : tt < w.heap.size := World.block_lt_of_cell? w _ h4
        have lp : pp < w.heap.size := World.block_lt_of_cell? w _ h5
        refine ⟨a, tt, pp, h1, fun k hk => ?_, ?_, ?_, ?_⟩
        · obtain ⟨q1, q2, q3, q4⟩ := h2 k hk
          refine ⟨q1, q2, q3, fun e => ?_⟩
          injection e with e
          rcases hat with h | h
          · exact q4 (by rw [h, e])
          · have : k < w.heap.size := by rcases hk with rfl | rfl | rfl <;> assumption
            have := hW.size; omega
        · have q := h2 a (Or.inl rfl)
          exact (World.cell?_of_block ((kS a q.2.1).trans (k1 a la q.2.2.2))).trans h3
        · have q := h2 tt (Or.inr (Or.inl rfl))
          exact (World.cell?_of_block ((kS tt q.2.1).trans (k1 tt lt q.2.2.2))).trans h4
        · have q := h2 pp (Or.inr (Or.inr rfl))
          exact (World.cell?_of_block ((kS pp q.2.1).trans (k1 pp lp q.2.2.2))).trans h5
  · show (st.refs ++ [(⟨left, named, t⟩ : Ref)]).length + st.rest.length ≤ C.s.size
    rw [List.length_append]; exact hb
theorem grown_drew {w w' : World} {row : Option Nat} (h : w.grownBy w' row) : w.grownBy w'.drew row := ⟨h.os, h.tape, h.output, h.size, h.block⟩

set_option maxHeartbeats 4000000 in
set_option maxRecDepth 100000 in
theorem referName_any (C : Ctx) (st : St) (v : Value) (w : World) (h : Full C st v w) (left : Nat) (t : List UInt8) (p : Int) (hp : p = ((C.s.size - left : Nat) : Int)) (hb : st.refs.length + 1 + st.rest.length ≤ C.s.size) :
    Calls Tryz.prog 73 #[.pointer (some ⟨C.b, 0, none⟩), .int .i64 p, .string (Str.ofL t)] w fun e w' => e = .returned (.tuple #[]) ∧ (∃ v', Full C { st with refs := st.refs ++ [⟨left, true, t⟩] } v' w') ∧ Below C.B w w' := by
  obtain ⟨i0, hi0, hz0, hz1, hz2⟩ := info_parts funcInfo
  have hmf : ∀ (fn : Fn) (first cap : Array Value) (w : World), (Instr.makeFunc fn first cap).run Tryz.prog w = .ok (.func fn first cap) w := fun _ _ _ _ => rfl
  have H := Lib.hid h
  have Hp := Lib.hid hp
  have hsm := h.rd.small
  have hbl := h.rd.lt
  have hBl := h.rd.tabs.le
  clear h hp
  go_enter Tryz.func73, Tryz.ntmps73
  go_wp2_with fail
  have hr3 := ((H.out.rd.on ((Below.refl _ _).alloc (Nat.le_refl _) (.cells #[.pointer (some ⟨C.b, 0, none⟩)] 65))).on ((Below.refl _ _).alloc (Nat.le_refl _) (.cells #[.int .i64 p] 3))).on ((Below.refl _ _).alloc (Nat.le_refl _) (.cells #[.string (Str.ofL t)] 9))
  have hg1 := World.grownBy_alloc w (.cells #[.pointer (some ⟨C.b, 0, none⟩)] 65) none
  have hg2 := hg1.trans (World.grownBy_alloc _ (.cells #[.int .i64 p] 3) none)
  have hg3 := hg2.trans (World.grownBy_alloc _ (.cells #[.string (Str.ofL t)] 9) none)
  have a0 : (((w.alloc (.cells #[.pointer (some ⟨C.b, 0, none⟩)] 65)).alloc (.cells #[.int .i64 p] 3)).alloc (.cells #[.string (Str.ofL t)] 9)).cell? ⟨w.heap.size, 0, none⟩ = some (.pointer (some ⟨C.b, 0, none⟩)) :=
    (World.grownBy_alloc _ _ none).cell ((World.grownBy_alloc _ _ none).cell (one_new w _ _) (by simp)) (by simp)
  have p0 : (((w.alloc (.cells #[.pointer (some ⟨C.b, 0, none⟩)] 65)).alloc (.cells #[.int .i64 p] 3)).alloc (.cells #[.string (Str.ofL t)] 9)).cell? ⟨w.heap.size + 1, 0, none⟩ = some (.int .i64 p) := by
    have := (World.grownBy_alloc ((w.alloc (.cells #[.pointer (some ⟨C.b, 0, none⟩)] 65)).alloc (.cells #[.int .i64 p] 3)) (.cells #[.string (Str.ofL t)] 9) none).cell (one_new (w.alloc (.cells #[.pointer (some ⟨C.b, 0, none⟩)] 65)) (.int .i64 p) 3) (by simp)
    simpa using this
  have t0 : (((w.alloc (.cells #[.pointer (some ⟨C.b, 0, none⟩)] 65)).alloc (.cells #[.int .i64 p] 3)).alloc (.cells #[.string (Str.ofL t)] 9)).cell? ⟨w.heap.size + 1 + 1, 0, none⟩ = some (.string (Str.ofL t)) := by
    have := one_new ((w.alloc (.cells #[.pointer (some ⟨C.b, 0, none⟩)] 65)).alloc (.cells #[.int .i64 p] 3)) (.string (Str.ofL t)) 9
    simpa using this
  have hsz3 : w.heap.size + 1 + 1 < (((w.alloc (.cells #[.pointer (some ⟨C.b, 0, none⟩)] 65)).alloc (.cells #[.int .i64 p] 3)).alloc (.cells #[.string (Str.ofL t)] 9)).heap.size := World.block_lt_of_cell? _ _ t0
  generalize ((w.alloc (.cells #[.pointer (some ⟨C.b, 0, none⟩)] 65)).alloc (.cells #[.int .i64 p] 3)).alloc (.cells #[.string (Str.ofL t)] 9) = W at *
  obtain ⟨xs, hown0, hall, hob1, hob2⟩ := H.out.refs
  have hlow := hown0.lt
  have ag : v.ownBlock ≠ some w.heap.size := fun e => by have := (hlow _ e).2; omega
  have hown : W.ownsRow C.B 1 1 v st.refs.length xs := hown0.kept hg3 (by cases v.ownBlock <;> simp)
  have HA := Lib.hid hall
  have HR3 := Lib.hid hr3
  have HG3 := Lib.hid hg3
  have q0 := hr3.cell5
  have fz := hr3.frozen 5
  have hbW : C.b < W.heap.size := hr3.lt
  have Hn := Lib.hid hown
  have hBW : C.B ≤ W.heap.size := hr3.tabs.le
  have hszW : w.heap.size < W.heap.size := by omega
  have A0 := Lib.hid a0; have P0 := Lib.hid p0; have T0 := Lib.hid t0
  clear hown0 hall hr3 hg1 hg2 hg3 hown p0 t0
  go_region_law
    ((refine step_append_lies _ (by rfl) _ _ _ (by rfl) C.B 1 i0 _ 1 8 Tryz.underlying59 hi0 hz0 hz1 hz2 rfl (by omega) v st.refs.length xs (by rfl) ((Hn.out.alloc _).drew)
        ⟨W.heap.size, 0, none⟩ 1 1 [.func (.func 87) #[] #[.pointer (some ⟨w.heap.size, 0, none⟩), .pointer (some ⟨w.heap.size + 1 + 1, 0, none⟩), .pointer (some ⟨w.heap.size + 1, 0, none⟩)]] (by rfl) (by rfl) (World.news_of_block (cs := #[.func (.func 87) #[] #[.pointer (some ⟨w.heap.size, 0, none⟩), .pointer (some ⟨w.heap.size + 1 + 1, 0, none⟩), .pointer (some ⟨w.heap.size + 1, 0, none⟩)]]) (t := 1) (fr := (0, 0)) (heap_alloc_new W _)) (by simp [Value.oneCell'])
        (by omega) (by unfold maxLen; omega) (by omega) (by simp; omega) (W.heap.size + 1) (by simp) ?_; intro gg cap w1 hown1 hgrow hat hlt; have k5 : w1.cell? ⟨C.b, 5, none⟩ = some v := (by rw [hgrow.cell_far _ (by simp; omega) (Ne.symm hob1)]; go_keep); have ka : w1.cell? ⟨w.heap.size, 0, none⟩ = some (.pointer (some ⟨C.b, 0, none⟩)) := (by rw [hgrow.cell_far _ (by simp; omega) (Ne.symm ag)]; go_keep); have f5 : w1.frozen? ⟨C.b, 5, none⟩ = false := (by rw [hgrow.frozen_far _ (by simp; omega) (Ne.symm hob1)]; simp [*, frz_alloc _ _ _ _ hbW])))
  all_goals (go_wp2_with fail; go_end0; exact ⟨rfl, refer_done (named := true) H.out HG3.out hsz3 A0.out (Hp.out ▸ P0.out) T0.out HA.out hlow hob1 hob2 (grown_drew (World.grownBy_alloc W _ none)) hgrow hown1 hat hb⟩)

set_option maxHeartbeats 4000000 in
set_option maxRecDepth 100000 in
theorem referNumber_any (C : Ctx) (st : St) (v : Value) (w : World) (h : Full C st v w) (left : Nat) (t : List UInt8) (p : Int) (hp : p = ((C.s.size - left : Nat) : Int)) (hb : st.refs.length + 1 + st.rest.length ≤ C.s.size) :
    Calls Tryz.prog 76 #[.pointer (some ⟨C.b, 0, none⟩), .int .i64 p, .string (Str.ofL t)] w fun e w' => e = .returned (.tuple #[]) ∧ (∃ v', Full C { st with refs := st.refs ++ [⟨left, false, t⟩] } v' w') ∧ Below C.B w w' := by
  obtain ⟨i0, hi0, hz0, hz1, hz2⟩ := info_parts funcInfo
  have hmf : ∀ (fn : Fn) (first cap : Array Value) (w : World), (Instr.makeFunc fn first cap).run Tryz.prog w = .ok (.func fn first cap) w := fun _ _ _ _ => rfl
  have H := Lib.hid h
  have Hp := Lib.hid hp
  have hsm := h.rd.small
  have hbl := h.rd.lt
  have hBl := h.rd.tabs.le
  clear h hp
  go_enter Tryz.func76, Tryz.ntmps76
  go_wp2_with fail
  have hr3 := ((H.out.rd.on ((Below.refl _ _).alloc (Nat.le_refl _) (.cells #[.pointer (some ⟨C.b, 0, none⟩)] 65))).on ((Below.refl _ _).alloc (Nat.le_refl _) (.cells #[.int .i64 p] 3))).on ((Below.refl _ _).alloc (Nat.le_refl _) (.cells #[.string (Str.ofL t)] 9))
  have hg1 := World.grownBy_alloc w (.cells #[.pointer (some ⟨C.b, 0, none⟩)] 65) none
  have hg2 := hg1.trans (World.grownBy_alloc _ (.cells #[.int .i64 p] 3) none)
  have hg3 := hg2.trans (World.grownBy_alloc _ (.cells #[.string (Str.ofL t)] 9) none)
  have a0 : (((w.alloc (.cells #[.pointer (some ⟨C.b, 0, none⟩)] 65)).alloc (.cells #[.int .i64 p] 3)).alloc (.cells #[.string (Str.ofL t)] 9)).cell? ⟨w.heap.size, 0, none⟩ = some (.pointer (some ⟨C.b, 0, none⟩)) :=
    (World.grownBy_alloc _ _ none).cell ((World.grownBy_alloc _ _ none).cell (one_new w _ _) (by simp)) (by simp)
  have p0 : (((w.alloc (.cells #[.pointer (some ⟨C.b, 0, none⟩)] 65)).alloc (.cells #[.int .i64 p] 3)).alloc (.cells #[.string (Str.ofL t)] 9)).cell? ⟨w.heap.size + 1, 0, none⟩ = some (.int .i64 p) := by
    have := (World.grownBy_alloc ((w.alloc (.cells #[.pointer (some ⟨C.b, 0, none⟩)] 65)).alloc (.cells #[.int .i64 p] 3)) (.cells #[.string (Str.ofL t)] 9) none).cell (one_new (w.alloc (.cells #[.pointer (some ⟨C.b, 0, none⟩)] 65)) (.int .i64 p) 3) (by simp)
    simpa using this
  have t0 : (((w.alloc (.cells #[.pointer (some ⟨C.b, 0, none⟩)] 65)).alloc (.cells #[.int .i64 p] 3)).alloc (.cells #[.string (Str.ofL t)] 9)).cell? ⟨w.heap.size + 1 + 1, 0, none⟩ = some (.string (Str.ofL t)) := by
    have := one_new ((w.alloc (.cells #[.pointer (some ⟨C.b, 0, none⟩)] 65)).alloc (.cells #[.int .i64 p] 3)) (.string (Str.ofL t)) 9
    simpa using this
  have hsz3 : w.heap.size + 1 + 1 < (((w.alloc (.cells #[.pointer (some ⟨C.b, 0, none⟩)] 65)).alloc (.cells #[.int .i64 p] 3)).alloc (.cells #[.string (Str.ofL t)] 9)).heap.size := World.block_lt_of_cell? _ _ t0
  generalize ((w.alloc (.cells #[.pointer (some ⟨C.b, 0, none⟩)] 65)).alloc (.cells #[.int .i64 p] 3)).alloc (.cells #[.string (Str.ofL t)] 9) = W at *
  obtain ⟨xs, hown0, hall, hob1, hob2⟩ := H.out.refs
  have hlow := hown0.lt
  have ag : v.ownBlock ≠ some w.heap.size := fun e => by have := (hlow _ e).2; omega
  have hown : W.ownsRow C.B 1 1 v st.refs.length xs := hown0.kept hg3 (by cases v.ownBlock <;> simp)
  have HA := Lib.hid hall
  have HR3 := Lib.hid hr3
  have HG3 := Lib.hid hg3
  have q0 := hr3.cell5
  have fz := hr3.frozen 5
  have hbW : C.b < W.heap.size := hr3.lt
  have Hn := Lib.hid hown
  have hBW : C.B ≤ W.heap.size := hr3.tabs.le
  have hszW : w.heap.size < W.heap.size := by omega
  have A0 := Lib.hid a0; have P0 := Lib.hid p0; have T0 := Lib.hid t0
  clear hown0 hall hr3 hg1 hg2 hg3 hown p0 t0
  go_region_law
    ((refine step_append_lies _ (by rfl) _ _ _ (by rfl) C.B 1 i0 _ 1 8 Tryz.underlying59 hi0 hz0 hz1 hz2 rfl (by omega) v st.refs.length xs (by rfl) ((Hn.out.alloc _).drew)
        ⟨W.heap.size, 0, none⟩ 1 1 [.func (.func 90) #[] #[.pointer (some ⟨w.heap.size, 0, none⟩), .pointer (some ⟨w.heap.size + 1 + 1, 0, none⟩), .pointer (some ⟨w.heap.size + 1, 0, none⟩)]] (by rfl) (by rfl) (World.news_of_block (cs := #[.func (.func 90) #[] #[.pointer (some ⟨w.heap.size, 0, none⟩), .pointer (some ⟨w.heap.size + 1 + 1, 0, none⟩), .pointer (some ⟨w.heap.size + 1, 0, none⟩)]]) (t := 1) (fr := (0, 0)) (heap_alloc_new W _)) (by simp [Value.oneCell'])
        (by omega) (by unfold maxLen; omega) (by omega) (by simp; omega) (W.heap.size + 1) (by simp) ?_; intro gg cap w1 hown1 hgrow hat hlt; have k5 : w1.cell? ⟨C.b, 5, none⟩ = some v := (by rw [hgrow.cell_far _ (by simp; omega) (Ne.symm hob1)]; go_keep); have ka : w1.cell? ⟨w.heap.size, 0, none⟩ = some (.pointer (some ⟨C.b, 0, none⟩)) := (by rw [hgrow.cell_far _ (by simp; omega) (Ne.symm ag)]; go_keep); have f5 : w1.frozen? ⟨C.b, 5, none⟩ = false := (by rw [hgrow.frozen_far _ (by simp; omega) (Ne.symm hob1)]; simp [*, frz_alloc _ _ _ _ hbW])))
  all_goals (go_wp2_with fail; go_end0; exact ⟨rfl, refer_done (named := false) H.out HG3.out hsz3 A0.out (Hp.out ▸ P0.out) T0.out HA.out hlow hob1 hob2 (grown_drew (World.grownBy_alloc W _ none)) hgrow hown1 hat hb⟩)

end Reg
end Go.Proofs.YtjoohpdohdehgaaGreatDoor
