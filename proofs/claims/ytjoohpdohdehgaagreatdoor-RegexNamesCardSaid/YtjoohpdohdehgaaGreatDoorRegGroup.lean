/-
  Groups: their names, their kinds.
-/
import Derived.Test.YtjoohpdohdehgaaGreatDoorRegLook
import Derived.StillTailTactics
namespace Go.Proofs.YtjoohpdohdehgaaGreatDoor
namespace Reg
open Go.RowKit Go.Maps Go.WideMaps
open Str (lenL runeL hexV)

theorem name_size {l : List UInt8} {r : List UInt8 × List UInt8} (h : nameP l = .ok r) : r.1.length ≤ l.length := by
  unfold nameP at h
  cases hc : chrP Uni.startB l with
  | error x => rw [hc] at h; cases h
  | ok q =>
    rw [hc] at h
    cases ht : tillP Uni.partB 62 (q.2.length + 1) q.2 with
    | error x => simp only [ht] at h; cases h
    | ok m =>
      simp only [ht] at h
      cases h
      exact List.length_take_le' _ _

theorem Rd.setg {C : Ctx} {g : Nat} {v : Value} {l : List UInt8} {w : World} (h : Rd (C.box g v) l w) : Rd (C.box (g + 1) v) l (w.setCell ⟨C.b, 3, none⟩ (.int .i64 ((g : Int) + 1))) := by
  have hg : w.heap[C.b]? = some (.cells #[.string C.s, .int .i64 ((C.box g v).at l), .bool C.u, .int .i64 (g : Nat), .map (some C.mb), v] 61) := h.got
  refine ⟨?_, h.low, ?_, h.suf, h.small, h.tabs.on ((Below.refl _ _).setCell h.low _)⟩
  · have := (Array.getElem?_eq_some_iff.1 hg).1
    simpa [World.setCell] using this
  · show (w.heap.modify C.b _)[C.b]? = _
    rw [Array.getElem?_modify, if_pos rfl, hg]
    rfl
/-- One group more. -/
theorem Full.more {C : Ctx} {st : St} {v : Value} {w : World} (h : Full C st v w) (hb : st.groups + 1 + st.rest.length ≤ C.s.size) :
    Full C { st with groups := st.groups + 1 } v (w.setCell ⟨C.b, 3, none⟩ (.int .i64 ((st.groups : Int) + 1))) ∧ Below C.B w (w.setCell ⟨C.b, 3, none⟩ (.int .i64 ((st.groups : Int) + 1))) := by
  have hg : w.grownBy (w.setCell ⟨C.b, 3, none⟩ (.int .i64 ((st.groups : Int) + 1))) (some C.b) := ((Bar.refl C.b w).set 3 none (.int .i64 ((st.groups : Int) + 1))).grown
  exact ⟨⟨h.rd.setg, h.mne, h.mlow, h.names.grown hg (by simpa using h.mne), h.refs.grown hg (Or.inr (Or.inl rfl)), hb, h.nb, h.rb⟩, (Below.refl _ _).setCell h.rd.low _⟩

theorem NamesAt.put {C : Ctx} {names : List (List UInt8)} {w' : World} {D : DataW Unit} (h2 : IsMap D) (h3 : ∀ t : List UInt8, ∃ c : Int, D.atKey (.string t) (.lit (.int .i64 0)) = .lit (.int .i64 c) ∧ (c = 0 ↔ t ∉ names)) (t : List UInt8) (g : Int) (hg : g ≠ 0)
    (hown : w'.ownsMap Tryz.prog 9 (plainElem Tryz.prog 3) C.mb (names.length + 1) (D.put (.string t) (.lit (.int .i64 g)))) : NamesAt C (names ++ [t]) w' := by
  refine ⟨D.put (.string t) (.lit (.int .i64 g)), by rw [List.length_append]; exact hown, h2.put _ _, fun t' => ?_⟩
  by_cases e : t' = t
  · subst e
    refine ⟨g, atKey_put_same h2 (by trivial) _ _, ⟨fun h => absurd h hg, fun h => absurd (by simp) h⟩⟩
  · obtain ⟨c, hc, hz⟩ := h3 t'
    refine ⟨c, by rw [atKey_put_other (by intro h; injection h with h; exact e h)]; exact hc, ?_⟩
    rw [hz, List.mem_append]
    simp [e]

set_option maxHeartbeats 2000000 in
set_option maxRecDepth 20000 in
theorem declare_any (C : Ctx) (st : St) (v : Value) (w : World) (h : Full C st v w) :
    Calls Tryz.prog 84 #[.pointer (some ⟨C.b, 0, none⟩)] w (PostT C w (declP st)) := by
  have h1 := h.rd.cell1
  have hsm : C.s.size ≤ 4096 := h.rd.small
  have H := Lib.hid h; clear h
  obtain ⟨R, hR⟩ : ∃ R, declP st = R := ⟨_, rfl⟩
  have HN := Lib.hid hR
  rw [hR]; clear hR
  go_enter Tryz.func84, Tryz.ntmps84
  go_wp2_with fail
  refine (name_any (C.box st.groups v) st.rest _ H.out.rd).mono ?_
  intro e w1 hp
  cases hc : nameP st.rest with
  | error x =>
    rw [hc] at hp
    obtain ⟨rfl, hb⟩ := hp
    have HV : Hid (R = .error x) := Lib.hid (by rw [← HN.out, declP, hc])
    clear hc
    unfold thrown
    go_wp2_with fail
    rw [HV.out]
    exact ⟨rfl, rfl, H.out.below hb⟩
  | ok r =>
    rw [hc] at hp
    obtain ⟨rfl, hr, hb⟩ := hp
    have hlen := name_len hc
    have hsz := name_size hc
    have hlr := H.out.rd.len
    have HV : Hid (R = if r.1 ∈ st.names then .error (st.rest.length, 404) else .ok { st with rest := r.2, groups := st.groups + 1, names := st.names ++ [r.1] }) := Lib.hid (by rw [← HN.out, declP, hc])
    have hF := H.out.bar hr hb (Nat.le_of_lt hlen)
    have HF := Lib.hid hF
    have hbw := H.out.below hb
    have HL := Lib.hid hlen
    obtain ⟨t, l2⟩ := r
    obtain ⟨c, hlk, hz⟩ := hF.names.look t (Nat.le_trans hsz (Nat.le_trans hlr hsm))
    have hl0 : (Instr.lookup 58 (.map (some C.mb)) (.string (Str.ofL t)) false).run Tryz.prog w1 = .ok (.int .i64 c) w1 := hlk 0
    have h4 : w1.cell? ⟨C.b, 4, none⟩ = some (.map (some C.mb)) := hr.cell4
    have htl : t.length ≤ 4096 := Nat.le_trans hsz (Nat.le_trans hlr hsm)
    clear hc hr hb hF hlen hsz hlr hlk h1
    by_cases hm : t ∈ st.names
    · have eb : (c != 0) = true := by rw [bne_iff_ne]; exact fun e => (hz.1 e) hm
      have HV2 : Hid (R = .error (st.rest.length, 404)) := Lib.hid (by rw [HV.out, if_pos hm])
      clear hz hm
      go_wp2_with fail
      refine (throw_any _ _ _).mono ?_
      rintro e w2 ⟨rfl, rfl⟩
      unfold thrown
      go_wp2_with fail
      rw [HV2.out]
      exact ⟨rfl, rfl, hbw⟩
    · have eb : (c != 0) = false := by rw [hz.2 hm]; rfl
      have HV2 : Hid (R = .ok { st with rest := l2, groups := st.groups + 1, names := st.names ++ [t] }) := Lib.hid (by rw [HV.out, if_neg hm])
      clear hz hm
      have hgb := H.out.gb
      have g3 : w1.cell? ⟨C.b, 3, none⟩ = some (.int .i64 (st.groups : Nat)) := HF.out.rd.cell3
      have gf : w1.frozen? ⟨C.b, 3, none⟩ = false := HF.out.rd.frozen 3
      have hgs : (st.groups : Int) ≤ 4096 := by omega
      have hboth := HF.out.more (by have hll : l2.length < st.rest.length := HL.out; show st.groups + 1 + l2.length ≤ C.s.size; omega)
      have hF2 : Full C { st with rest := l2, groups := st.groups + 1 } v (w1.setCell ⟨C.b, 3, none⟩ (.int .i64 ((st.groups : Int) + 1))) := hboth.1
      have hb2 : Below C.B w1 (w1.setCell ⟨C.b, 3, none⟩ (.int .i64 ((st.groups : Int) + 1))) := hboth.2
      clear hboth
      have HF2 := Lib.hid hF2
      have hbw2 := hbw.trans hb2
      have k4 : (w1.setCell ⟨C.b, 3, none⟩ (.int .i64 ((st.groups : Int) + 1))).cell? ⟨C.b, 4, none⟩ = some (.map (some C.mb)) := hF2.rd.cell4
      have k3 : (w1.setCell ⟨C.b, 3, none⟩ (.int .i64 ((st.groups : Int) + 1))).cell? ⟨C.b, 3, none⟩ = some (.int .i64 ((st.groups : Int) + 1)) := by
        have := hF2.rd.cell3
        exact this.trans (congrArg (fun z => some (Value.int .i64 z)) (by show ((st.groups + 1 : Nat) : Int) = _; omega))
      clear hF2 hb2
      go_upto_region 5 with fail
      clear hl0 h4 g3 gf hbw
      generalize w1.setCell ⟨C.b, 3, none⟩ (.int .i64 ((st.groups : Int) + 1)) = w2 at *
      refine wp_region_still_tail 9 (by kernel_rfl) (by kernel_rfl) ?_
      simp only [List.take_succ_cons, List.take_zero, List.drop_succ_cons, List.drop_zero]
      repeat still_step
      refine wpStill_nil ?_
      change wpList _ _ _ _ _ w2.drew
      obtain ⟨D, q1, q2, q3⟩ := HF2.out.names
      have q1' : w2.drew.ownsMap Tryz.prog 9 (plainElem Tryz.prog 3) C.mb st.names.length D := q1.drew
      have hnn := H.out.nb
      refine wpList_mapUpdate_own _ rfl _ _ _ 58 rfl 9 3 strLaw Tryz.underlying58 _ C.mb st.names.length D rfl q1' (by unfold maxLen; omega) _ _ _ rfl rfl (keyOf_string_mk Tryz.underlying9 (s := Str.ofL t) (by show t.length ≤ maxLen; unfold maxLen; omega)) (.lit (.int .i64 ((st.groups : Int) + 1))) [] (plainElem_int Tryz.underlying3 (WalkArith.wf_i64 (by omega))) ?_
      intro w3 hown3 hgrow3
      have hg3 : w2.grownBy w3 (some C.mb) := ⟨hgrow3.os, hgrow3.tape, hgrow3.output, hgrow3.size, hgrow3.block⟩
      have hbe3 : Below C.B w2 w3 := by
        have hml : C.B ≤ C.mb := HF2.out.mlow
        have hBl : C.B ≤ w2.heap.size := HF2.out.rd.tabs.le
        exact ⟨hg3.os, hg3.tape, hg3.output, hg3.size, fun k hk => hg3.block k (by omega) (fun e => by injection e with e; omega)⟩
      have hrd3 : Rd (C.box (st.groups + 1) v) l2 w3 := by
        have h0 := HF2.out.rd
        refine ⟨Nat.lt_of_lt_of_le h0.lt hg3.size, h0.low, (hg3.block C.b h0.lt (fun e => by injection e with e; exact HF2.out.mne e.symm)).trans h0.got, h0.suf, h0.small, h0.tabs.on hbe3⟩
      have hF3 : Full C { st with rest := l2, groups := st.groups + 1, names := st.names ++ [t] } v w3 := by
        refine ⟨hrd3, H.out.mne, H.out.mlow, NamesAt.put q2 q3 t _ (by omega) hown3, HF2.out.refs.grown hg3 (Or.inr (Or.inr rfl)), HF2.out.gb, ?_, HF2.out.rb⟩
        have hll : l2.length < st.rest.length := HL.out
        show (st.names ++ [t]).length + l2.length ≤ C.s.size
        rw [List.length_append]; simp only [List.length_singleton]; omega
      have HF3 := Lib.hid hF3
      have hbw3 := hbw2.trans hbe3
      clear hown3 hgrow3 hg3 hrd3 hF3 q1 q1' q2 q3
      go_wp2_with fail
      go_end0
      rw [HV2.out]
      exact ⟨rfl, ⟨v, HF3.out⟩, hbw3⟩

end Reg
end Go.Proofs.YtjoohpdohdehgaaGreatDoor
