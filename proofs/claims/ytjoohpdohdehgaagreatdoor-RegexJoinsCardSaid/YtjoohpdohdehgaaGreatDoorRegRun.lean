/-
  A body is read whole.
-/
import Derived.Test.YtjoohpdohdehgaaGreatDoorRegCatch
import Derived.Test.YtjoohpdohdehgaaGreatDoorRegText
namespace Go.Proofs.YtjoohpdohdehgaaGreatDoor
namespace Reg
open Go.RowKit Go.Maps Go.WideMaps

/-- Where a body goes wrong, and by which error. -/
def runP (u : Bool) (s : ByteArray) : Nat × Nat := match bodyP u s.data.toList with
  | .error e => (s.size - e.1, e.2)
  | .ok _ => (0, 0)

/-- The reader that a call begins with. -/
abbrev ctx0 (s : ByteArray) (u : Bool) (n : Nat) : Ctx := ⟨n + 1 + 1, n + 1 + 1 + 1, n + 1 + 1, s, u⟩
/-- What lies below it: the results' cells. -/
def Cells (n : Nat) (w : World) : Prop := n + 1 < w.heap.size ∧ w.heap[n]? = some (.cells #[.int .i64 0] 3) ∧ w.heap[n + 1]? = some (.cells #[.int .i64 0] 22)
theorem Cells.on {n : Nat} {w w' : World} (h : Cells n w) (hb : Below (n + 1 + 1) w w') : Cells n w' :=
  ⟨Nat.lt_of_lt_of_le h.1 hb.size, by rw [hb.block n (by omega)]; exact h.2.1, by rw [hb.block (n + 1) (by omega)]; exact h.2.2⟩

theorem size_alloc (w : World) (o : Obj) : (w.alloc o).heap.size = w.heap.size + 1 := by simp
theorem heap_last (w : World) (o : Obj) : (w.alloc o).heap[w.heap.size]? = some o := Array.getElem?_push_size

theorem start_full (s : ByteArray) (u : Bool) (w w4 : World) (hs : s.size ≤ 4096) (ht : Tabs w.heap.size w)
    (h4 : w4 = (((w.alloc (.cells #[.int .i64 0] 3)).alloc (.cells #[.int .i64 0] 22)).alloc (.map #[] 0)).alloc
      (.cells #[.string s, .int .i64 0, .bool u, .int .i64 0, .map (some (w.heap.size + 1 + 1)), .slice none 0 0] 61)) :
    Full (ctx0 s u w.heap.size) ⟨s.data.toList, 0, [], []⟩ (.slice none 0 0) w4 ∧ Below w.heap.size w w4 ∧ Cells w.heap.size w4 := by
  have hb : Below w.heap.size w w4 := by
    rw [h4]
    refine Below.alloc (Below.alloc (Below.alloc (Below.alloc (Below.refl _ _) (Nat.le_refl _) _) ?_ _) ?_ _) ?_ _ <;> (simp only [size_alloc]; omega)
  have hsz : w4.heap.size = w.heap.size + 1 + 1 + 1 + 1 := by rw [h4]; simp only [size_alloc]
  have tb : Tabs (w.heap.size + 1 + 1) w4 := ⟨by omega, fun w' h' => ht.all w' (hb.trans (h'.mono (by omega)))⟩
  have g0 : w4.heap[w.heap.size]? = some (.cells #[.int .i64 0] 3) := by
    rw [h4, Below.heap_alloc _ _ _ (by simp only [size_alloc]; omega), Below.heap_alloc _ _ _ (by simp only [size_alloc]; omega), Below.heap_alloc _ _ _ (by simp only [size_alloc]; omega)]; exact heap_last _ _
  have g1 : w4.heap[w.heap.size + 1]? = some (.cells #[.int .i64 0] 22) := by
    rw [h4, Below.heap_alloc _ _ _ (by simp only [size_alloc]; omega), Below.heap_alloc _ _ _ (by simp only [size_alloc]; omega)]
    have := heap_last (w.alloc (.cells #[.int .i64 0] 3)) (.cells #[.int .i64 0] 22)
    simpa only [size_alloc] using this
  have g3 : w4.heap[w.heap.size + 1 + 1 + 1]? = some (.cells #[.string s, .int .i64 0, .bool u, .int .i64 0, .map (some (w.heap.size + 1 + 1)), .slice none 0 0] 61) := by
    rw [h4]
    have := heap_last (((w.alloc (.cells #[.int .i64 0] 3)).alloc (.cells #[.int .i64 0] 22)).alloc (.map #[] 0)) (.cells #[.string s, .int .i64 0, .bool u, .int .i64 0, .map (some (w.heap.size + 1 + 1)), .slice none 0 0] 61)
    simpa only [size_alloc] using this
  have nm : w4.ownsMap Tryz.prog 9 (plainElem Tryz.prog 3) (w.heap.size + 1 + 1) 0 (.map [] : DataW Unit) := by
    rw [h4]
    have := (World.ownsMap_made ((w.alloc (.cells #[.int .i64 0] 3)).alloc (.cells #[.int .i64 0] 22)) Tryz.prog 9 (plainElem (H := Unit) Tryz.prog 3)).alloc
      (.cells #[.string s, .int .i64 0, .bool u, .int .i64 0, .map (some (w.heap.size + 1 + 1)), .slice none 0 0] 61)
    simpa only [size_alloc] using this
  have l0 : s.data.toList.length = s.size := rfl
  refine ⟨⟨⟨?_, Nat.le_succ _, ?_, List.suffix_refl _, hs, tb⟩, Nat.ne_of_lt (Nat.lt_succ_self _), Nat.le_refl _, ?_, ?_, ?_, ?_, ?_⟩, hb, ?_⟩
  · show w.heap.size + 1 + 1 + 1 < _; omega
  · show w4.heap[w.heap.size + 1 + 1 + 1]? = _
    rw [g3]
    have e : Box.at ((ctx0 s u w.heap.size).box 0 (.slice none 0 0)) s.data.toList = 0 := by show s.size - _ = 0; omega
    show _ = some (Obj.cells #[_, .int .i64 (Box.at ((ctx0 s u w.heap.size).box 0 (.slice none 0 0)) s.data.toList : Nat), _, _, _, _] _)
    rw [e]; rfl
  · exact ⟨_, nm, nm.isMap, fun t => ⟨0, rfl, by simp⟩⟩
  · exact ⟨[], World.ownsRow_nil _ _ _ _, trivial, by simp [Value.ownBlock], by simp [Value.ownBlock]⟩
  · show 0 + s.data.toList.length ≤ s.size; omega
  · show 0 + s.data.toList.length ≤ s.size; omega
  · show 0 + s.data.toList.length ≤ s.size; omega
  · exact ⟨by omega, g0, g1⟩

/-- The call that is put off. -/
abbrev putOff (n : Nat) : List Deferred := [{ target := .fn (.func 24) #[.pointer (some ⟨n, 0, none⟩), .pointer (some ⟨n + 1, 0, none⟩)], args := #[] }]

theorem door_thrown {tm : Array Value} {n : Nat} {a c : Int} {w0 w : World} (h4 : tm[4]?.getD undef = .pointer (some ⟨n, 0, none⟩)) (h5 : tm[5]?.getD undef = .pointer (some ⟨n + 1, 0, none⟩))
    (hc : Cells n w) (hb : Below n w0 w) :
    Leaves Tryz.prog Tryz.f17 tm (fun e w' => e = .returned (.tuple #[.int .i64 a, .int .i64 c]) ∧ Below n w0 w') (putOff n) (.panicking [{ v := .iface 56 (.agg #[.int .i64 a, .int .i64 c]), recovered := false }]) w := by
  refine leaves_cons (f := 24) (args := #[.pointer (some ⟨n, 0, none⟩), .pointer (some ⟨n + 1, 0, none⟩)]) (by simp) (by simp [go_sem]) ?_
  refine (catch_thrown n _ _ 0 0 a c [] w hc.1 hc.2.1 hc.2.2).mono ?_
  rintro e u' w' ⟨rfl, rfl, h1, h2, h3⟩
  have hb2 := hb.trans h3
  simp [Leaves, settle, results, Tryz.results17, go_sem, h4, h5, h1, h2, hb2]

theorem door_idle {tm : Array Value} {n : Nat} {a c : Int} {w0 w : World} (h4 : tm[4]?.getD undef = .pointer (some ⟨n, 0, none⟩)) (h5 : tm[5]?.getD undef = .pointer (some ⟨n + 1, 0, none⟩))
    (hn : n + 1 < w.heap.size) (ha : w.cell? ⟨n, 0, none⟩ = some (.int .i64 a)) (hc : w.cell? ⟨n + 1, 0, none⟩ = some (.int .i64 c)) (hb : Below n w0 w) :
    Leaves Tryz.prog Tryz.f17 tm (fun e w' => e = .returned (.tuple #[.int .i64 a, .int .i64 c]) ∧ Below n w0 w') (putOff n) .returning w := by
  refine leaves_cons (f := 24) (args := #[.pointer (some ⟨n, 0, none⟩), .pointer (some ⟨n + 1, 0, none⟩)]) (by simp) (by simp [go_sem]) ?_
  refine (catch_idle ⟨n, 0, none⟩ ⟨n + 1, 0, none⟩ w).mono ?_
  rintro e u' w' ⟨rfl, rfl, h3⟩
  have hb2 := hb.trans (h3.mono (show n ≤ w.heap.size by omega))
  have h1 : w'.cell? ⟨n, 0, none⟩ = some (.int .i64 a) := (World.cell?_of_block (h3.block n (by omega))).trans ha
  have h2 : w'.cell? ⟨n + 1, 0, none⟩ = some (.int .i64 c) := (World.cell?_of_block (h3.block (n + 1) (by omega))).trans hc
  simp [Leaves, settle, results, Tryz.results17, go_sem, h4, h5, h1, h2, hb2]

theorem AllR.get {C : Ctx} {ob : Option Nat} {w : World} : ∀ (rs : List Ref) (xs : List Value), AllR C ob w rs xs → ∀ (j : Nat) (hj : j < rs.length), ∃ x, xs[j]? = some x ∧ RefAt C ob w rs[j] x
  | [], [], _, j, hj => absurd hj (Nat.not_lt_zero j)
  | _ :: _, x :: _, h, 0, _ => ⟨x, rfl, h.1⟩
  | _ :: rs, _ :: xs, h, j + 1, hj => AllR.get rs xs h.2 j (Nat.lt_of_succ_lt_succ hj)
  | [], _ :: _, h, _, _ => h.elim
  | _ :: _, [], h, _, _ => h.elim

theorem RefsAt.slice {C : Ctx} {v : Value} {refs : List Ref} {w : World} (h : RefsAt C v refs w) : ∃ p cap, v = .slice p refs.length cap := by
  obtain ⟨xs, h1, -⟩ := h
  rcases h1.2 with ⟨rfl, h0⟩ | ⟨g, cap, cur, rfl, -⟩
  · exact ⟨none, 0, by rw [h0]⟩
  · exact ⟨_, cap, rfl⟩
theorem RefsAt.get {C : Ctx} {p : Option Addr} {n cap : Nat} {refs : List Ref} {w : World} (h : RefsAt C (.slice p n cap) refs w) (j : Nat) (hj : j < refs.length) :
    ∃ g x, p = some ⟨g, 0, none⟩ ∧ w.cell? ⟨g, j, none⟩ = some x ∧ ∃ ob, RefAt C ob w refs[j] x := by
  obtain ⟨xs, h1, h2, -⟩ := h
  obtain ⟨x, hx, hr⟩ := AllR.get refs xs h2 j hj
  obtain ⟨g, cap', hv, -⟩ := h1.form (by omega)
  injection hv with e1 e2 e3
  subst e1; subst e2
  exact ⟨g, x, rfl, (h1.cellAt j (by omega)).trans hx, _, hr⟩

set_option maxHeartbeats 4000000 in
set_option maxRecDepth 20000 in
theorem read_any (s : ByteArray) (u : Bool) (w : World) (hs : s.size ≤ 4096) (ht : Tabs w.heap.size w) :
    Calls Tryz.prog 17 #[.string s, .bool u] w fun e w' => e = .returned (.tuple #[.int .i64 (runP u s).1, .int .i64 (runP u s).2]) ∧ Below w.heap.size w w' := by
  have hmf : ∀ (fn : Fn) (first cap : Array Value) (w : World), (Instr.makeFunc fn first cap).run Tryz.prog w = .ok (.func fn first cap) w := fun _ _ _ _ => rfl
  have hmm := @run_makeMap
  obtain ⟨w4, h4⟩ : ∃ w4, w4 = (((w.alloc (.cells #[.int .i64 0] 3)).alloc (.cells #[.int .i64 0] 22)).alloc (.map #[] 0)).alloc
      (.cells #[.string s, .int .i64 0, .bool u, .int .i64 0, .map (some (w.heap.size + 1 + 1)), .slice none 0 0] 61) := ⟨_, rfl⟩
  obtain ⟨hF, hb, hc⟩ := start_full s u w w4 hs ht h4
  have Hh4 := Lib.hid h4.symm; clear h4
  have HF := Lib.hid hF; have Hc := Lib.hid hc
  have Hb := Lib.hid hb; have Hs := Lib.hid hs
  clear hF hc ht hb hs
  by_cases hne : s.data.toList = []
  · have HR : Hid ((runP u s).1 = s.size - s.data.toList.length ∧ (runP u s).2 = 400) := Lib.hid (by unfold runP bodyP; rw [if_pos hne]; exact ⟨rfl, rfl⟩)
    have hem : s.toList.isEmpty = true := by
      have : s = ⟨#[]⟩ := by
        cases s with
        | mk d => cases d with
          | mk l => simp only at hne; subst hne; rfl
      rw [this]; decide +kernel
    clear hne
    go_enter_defers Tryz.func17, Tryz.ntmps17
    go_wp2_with fail
    rw [Hh4.out]
    refine (refuse_any ((ctx0 s u w.heap.size).box 0 (.slice none 0 0)) _ w4 HF.out.rd).mono ?_
    rintro e w5 ⟨rfl, rfl⟩
    unfold thrown
    go_wp2_with fail
    rw [HR.out.1, HR.out.2]
    exact door_thrown rfl rfl Hc.out Hb.out
  · have hem : s.toList.isEmpty = false := nonempty_of hne
    have HR : Hid (bodyP u s.data.toList = match patV u ⟨s.data.toList, 0, [], []⟩ with
      | .error e => .error e
      | .ok st => if hd st.rest = -1 then lookP st.groups st.names st.refs else wrong st.rest) := Lib.hid (by unfold bodyP; rw [if_neg hne]; rfl)
    have HSm : Hid (Small s.size ⟨s.data.toList, 0, [], []⟩) := Lib.hid ⟨Nat.le_of_eq rfl, fun r hr => by cases hr⟩
    clear hne
    go_enter_defers Tryz.func17, Tryz.ntmps17
    go_wp2_with fail
    rw [Hh4.out]
    refine (pattern_any (ctx0 s u w.heap.size) _ _ w4 HF.out).mono ?_
    intro e w5 hp
    clear hmf hmm Hh4
    cases hc : patV u ⟨s.data.toList, 0, [], []⟩ with
    | error x =>
      rw [hc] at hp
      obtain ⟨rfl, hb5⟩ := hp
      have HV : Hid ((runP u s).1 = s.size - x.1 ∧ (runP u s).2 = x.2) := Lib.hid (by unfold runP; rw [HR.out, hc]; exact ⟨rfl, rfl⟩)
      have HB5 := Lib.hid hb5
      clear hc hb5
      unfold thrown
      go_wp2_with fail
      rw [HV.out.1, HV.out.2]
      exact door_thrown rfl rfl (Hc.out.on HB5.out) (Hb.out.trans (HB5.out.mono (by show w.heap.size ≤ w.heap.size + 1 + 1; omega)))
    | ok st =>
      rw [hc] at hp
      obtain ⟨rfl, ⟨v5, hF5⟩, hb5⟩ := hp
      have HSm5 := Lib.hid (pat_small u _ _ _ HSm.out hc)
      have HV : Hid (bodyP u s.data.toList = if hd st.rest = -1 then lookP st.groups st.names st.refs else wrong st.rest) := Lib.hid (by rw [HR.out, hc])
      have HB5 := Lib.hid hb5; have HF5 := Lib.hid hF5
      clear hc hb5 hF5 HR HF HSm
      go_wp2_with fail
      refine (peek_any ((ctx0 s u w.heap.size).box st.groups v5) st.rest _ HF5.out.rd).mono ?_
      rintro e w6 ⟨rfl, hr6, hb6⟩
      by_cases e0 : hd st.rest = -1
      · rw [e0]
        have HV6 : Hid (bodyP u s.data.toList = lookP st.groups st.names st.refs) := Lib.hid (by rw [HV.out, if_pos e0])
        have hF6 : Full (ctx0 s u w.heap.size) (st.at st.rest) v5 w6 := HF5.out.bar hr6 (Bar.of hb6) (Nat.le_refl _)
        obtain ⟨p, cap, hv⟩ := hF6.refs.slice
        have hv' : v5 = .slice p st.refs.length cap := hv
        clear hv
        subst hv'
        have c5 : w6.cell? ⟨w.heap.size + 1 + 1 + 1, 5, none⟩ = some (.slice p st.refs.length cap) := hr6.cell5
        have HB6 := Lib.hid (HB5.out.trans (hb6.mono HF5.out.rd.tabs.le))
        have HF6 : Hid (Full (ctx0 s u w.heap.size) st (.slice p st.refs.length cap) w6) := Lib.hid hF6
        have hrb : st.refs.length ≤ 4096 := by have h1 := hF6.rb; have h2 := Hs.out; have h3 : (st.at st.rest).refs.length = st.refs.length := rfl; have h4 : (ctx0 s u w.heap.size).s.size = s.size := rfl; omega
        clear hr6 hb6 e0 HF5 HB5 HV hF6
        generalize hN : st.refs.length = N at *
        have HN := Lib.hid hN
        clear hN
        go_wp2_with fail
        go_loopg [24] N (fun k i wr => ∃ j : Nat, k + j = N ∧ i = .int .i64 (j : Int) ∧ bodyP u s.data.toList = lookP st.groups st.names (st.refs.drop j) ∧ Full (ctx0 s u w.heap.size) st (.slice p N cap) wr ∧ Below (w.heap.size + 1 + 1) w4 wr)
        case atStart => exact ⟨0, rfl, rfl, HV6.out, HF6.out, HB6.out⟩
        case round =>
          obtain ⟨j, hk, rfl, hV, hF, hB⟩ := hrel
          have HV := Lib.hid hV; have HF := Lib.hid hF; have HB := Lib.hid hB; have HK := Lib.hid hk
          clear hV hF hB hk c5
          by_cases hj : j < N
          · have hjl : j < st.refs.length := by rw [HN.out]; exact hj
            obtain ⟨g, x, rfl, hx, ob, hR⟩ := HF.out.refs.get j hjl
            obtain ⟨r, hr⟩ : ∃ r, r = st.refs[j] := ⟨_, rfl⟩
            rw [← hr] at hR
            have HV1 : Hid (bodyP u s.data.toList = lookP st.groups st.names (r :: st.refs.drop (j + 1))) := Lib.hid (by rw [HV.out, List.drop_eq_getElem_cons hjl, ← hr])
            have HTx : Hid (r.text.length ≤ 4096) := Lib.hid (Nat.le_trans (HSm5.out.2 r (by rw [hr]; exact List.getElem_mem _)) Hs.out)
            clear hr
            obtain ⟨left, named, text⟩ := r
            obtain ⟨a, t, q, hxe, -, ha, ht, hq⟩ := hR
            cases named with
            | true =>
              have hxe2 : x = .func (.func 87) #[] #[.pointer (some ⟨a, 0, none⟩), .pointer (some ⟨t, 0, none⟩), .pointer (some ⟨q, 0, none⟩)] := hxe
              subst hxe2
              clear hxe HV
              have Ha := Lib.hid ha; have Ht := Lib.hid ht; have Hq := Lib.hid hq
              clear ha ht hq
              go_wp2_with fail
              refine (lookName_any (ctx0 s u w.heap.size) st.names wr ((ctx0 s u w.heap.size).box st.groups (.slice (some ⟨g, 0, none⟩) N cap)) st.rest ⟨rfl, rfl⟩ HF.out.rd HF.out.names a t q text HTx.out _ Ha.out Ht.out Hq.out).mono ?_
              rintro e w8 ⟨rfl, hw8⟩
              obtain ⟨nd, hw9⟩ := hw8
              have hb8 : Below wr.heap.size wr w8 := by rw [hw9]; exact below_drewN (Below.refl _ _) nd
              clear hw9
              have hF8 : Full (ctx0 s u w.heap.size) (st.at st.rest) (.slice (some ⟨g, 0, none⟩) N cap) w8 := HF.out.bar (HF.out.rd.on hb8) (Bar.of hb8) (Nat.le_refl _)
              have HF8 := Lib.hid hF8
              have HB8 := Lib.hid (HB.out.trans (hb8.mono HF.out.rd.tabs.le))
              clear hF8 hb8
              by_cases hm : text ∈ st.names
              · rw [decide_eq_true hm]
                have HV2 : Hid (bodyP u s.data.toList = lookP st.groups st.names (st.refs.drop (j + 1))) := Lib.hid (by rw [HV1.out]; show (if true = true then (if text ∈ st.names then lookP st.groups st.names _ else _) else _) = _; rw [if_pos rfl, if_pos hm])
                clear hm
                unfold lookEnd
                go_wp2_with fail
                go_roundg (N - (j + 1))
                case measure => have := HK.out; omega
                case rel => exact ⟨j + 1, by omega, by push_cast; rfl, HV2.out, HF8.out, HB8.out⟩
              · rw [decide_eq_false hm]
                have HV2 : Hid (bodyP u s.data.toList = .error (left, 404)) := Lib.hid (by rw [HV1.out]; show (if true = true then (if text ∈ st.names then lookP st.groups st.names _ else _) else _) = _; rw [if_pos rfl, if_neg hm])
                clear hm
                unfold lookEnd thrown
                go_wp2_with fail
                have HV3 : (runP u s).1 = s.size - left ∧ (runP u s).2 = 404 := by unfold runP; rw [HV2.out]; exact ⟨rfl, rfl⟩
                rw [HV3.1, HV3.2]
                exact door_thrown rfl rfl (Hc.out.on HB8.out) (Hb.out.trans (HB8.out.mono (by show w.heap.size ≤ w.heap.size + 1 + 1; omega)))
            | false =>
              have hxe2 : x = .func (.func 90) #[] #[.pointer (some ⟨a, 0, none⟩), .pointer (some ⟨t, 0, none⟩), .pointer (some ⟨q, 0, none⟩)] := hxe
              subst hxe2
              clear hxe HV
              have Ha := Lib.hid ha; have Ht := Lib.hid ht; have Hq := Lib.hid hq
              clear ha ht hq
              go_wp2_with fail
              refine (lookNumber_any wr ((ctx0 s u w.heap.size).box st.groups (.slice (some ⟨g, 0, none⟩) N cap)) st.rest st.groups rfl (by have h1 := HF.out.gb; have h2 := Hs.out; have h4 : (ctx0 s u w.heap.size).s.size = s.size := rfl; omega) HF.out.rd a t q text _ Ha.out Ht.out Hq.out).mono ?_
              rintro e w8 ⟨rfl, hw8⟩
              have hb8 : Below wr.heap.size wr w8 := hw8
              have hF8 : Full (ctx0 s u w.heap.size) (st.at st.rest) (.slice (some ⟨g, 0, none⟩) N cap) w8 := HF.out.bar (HF.out.rd.on hb8) (Bar.of hb8) (Nat.le_refl _)
              have HF8 := Lib.hid hF8
              have HB8 := Lib.hid (HB.out.trans (hb8.mono HF.out.rd.tabs.le))
              clear hF8 hb8
              by_cases hm : lessB (decF 9 st.groups) text = true
              · rw [hm]
                have HV2 : Hid (bodyP u s.data.toList = .error (left, 402)) := Lib.hid (by rw [HV1.out]; show (if false = true then _ else if lessB (decF 9 st.groups) text = true then _ else _) = _; rw [if_neg Bool.false_ne_true, if_pos hm])
                clear hm
                unfold lookEnd thrown
                go_wp2_with fail
                have HV3 : (runP u s).1 = s.size - left ∧ (runP u s).2 = 402 := by unfold runP; rw [HV2.out]; exact ⟨rfl, rfl⟩
                rw [HV3.1, HV3.2]
                exact door_thrown rfl rfl (Hc.out.on HB8.out) (Hb.out.trans (HB8.out.mono (by show w.heap.size ≤ w.heap.size + 1 + 1; omega)))
              · rw [Bool.eq_false_iff.2 hm]
                have HV2 : Hid (bodyP u s.data.toList = lookP st.groups st.names (st.refs.drop (j + 1))) := Lib.hid (by rw [HV1.out]; show (if false = true then _ else if lessB (decF 9 st.groups) text = true then _ else _) = _; rw [if_neg Bool.false_ne_true, if_neg hm])
                clear hm
                unfold lookEnd
                go_wp2_with fail
                go_roundg (N - (j + 1))
                case measure => have := HK.out; omega
                case rel => exact ⟨j + 1, by omega, by push_cast; rfl, HV2.out, HF8.out, HB8.out⟩
          · have HV3 : Hid ((runP u s).1 = 0 ∧ (runP u s).2 = 0) := Lib.hid (by unfold runP; rw [HV.out, List.drop_eq_nil_of_le (by rw [HN.out]; omega)]; exact ⟨rfl, rfl⟩)
            have hcc := Hc.out.on HB.out
            have z0 : wr.cell? ⟨w.heap.size, 0, none⟩ = some (.int .i64 0) := by simp [World.cell?, hcc.2.1]
            have z1 : wr.cell? ⟨w.heap.size + 1, 0, none⟩ = some (.int .i64 0) := by simp [World.cell?, hcc.2.2]
            have f0 : wr.frozen? ⟨w.heap.size, 0, none⟩ = false := by simp [World.frozen?, hcc.2.1]
            have f1 : wr.frozen? ⟨w.heap.size + 1, 0, none⟩ = false := by simp [World.frozen?, hcc.2.2]
            clear hcc
            go_wp2_with fail
            rw [HV3.out.1, HV3.out.2]
            have hn1 : w.heap.size + 1 < ((wr.setCell ⟨w.heap.size, 0, none⟩ (.int .i64 0)).setCell ⟨w.heap.size + 1, 0, none⟩ (.int .i64 0)).heap.size := by have := (Hc.out.on HB.out).1; simpa [World.setCell] using this
            have e1 : ((wr.setCell ⟨w.heap.size, 0, none⟩ (.int .i64 0)).setCell ⟨w.heap.size + 1, 0, none⟩ (.int .i64 0)).cell? ⟨w.heap.size, 0, none⟩ = some (.int .i64 (0 : Nat)) := by simp [go_sem, z0]
            have e2 : ((wr.setCell ⟨w.heap.size, 0, none⟩ (.int .i64 0)).setCell ⟨w.heap.size + 1, 0, none⟩ (.int .i64 0)).cell? ⟨w.heap.size + 1, 0, none⟩ = some (.int .i64 (0 : Nat)) := by simp [go_sem, z1]
            exact door_idle rfl rfl hn1 e1 e2 (((Hb.out.trans (HB.out.mono (by omega))).setCell (Nat.le_refl _) _).setCell (Nat.le_succ _) _)
      · have eb : (hd st.rest != -1) = true := by simpa using e0
        have HV6 : Hid ((runP u s).1 = s.size - st.rest.length ∧ (runP u s).2 = 400) := Lib.hid (by unfold runP; rw [HV.out, if_neg e0]; exact ⟨rfl, rfl⟩)
        have HR6 := Lib.hid hr6
        have HB6 := Lib.hid (HB5.out.trans (hb6.mono HF5.out.rd.tabs.le))
        clear hr6 hb6 e0
        go_wp2_with fail
        refine (refuse_any ((ctx0 s u w.heap.size).box st.groups v5) _ _ HR6.out).mono ?_
        rintro e w7 ⟨rfl, rfl⟩
        unfold thrown
        go_wp2_with fail
        rw [HV6.out.1, HV6.out.2]
        exact door_thrown rfl rfl (Hc.out.on HB6.out) (Hb.out.trans (HB6.out.mono (by show w.heap.size ≤ w.heap.size + 1 + 1; omega)))

end Reg
end Go.Proofs.YtjoohpdohdehgaaGreatDoor
