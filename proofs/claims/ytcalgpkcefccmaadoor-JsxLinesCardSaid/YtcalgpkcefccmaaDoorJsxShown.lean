/-
  The program's Shown.
-/
import Derived.Test.YtcalgpkcefccmaaDoorJsxIter
import Derived.Test.YtcalgpkcefccmaaDoorJsxEnts
namespace Go.Proofs.YtcalgpkcefccmaaDoor
namespace Jsx
open Go.RowKit Go.Shelf

attribute [local go_sem] Oper.semAt_some

theorem emp_iff (s : ByteArray) (l : List UInt8) (h : s.data.toList = l) : s.toList.isEmpty = l.isEmpty := by rw [Lib.toList_data, h]
def oneT (x : LineT) : List UInt8 := oneL x.2.1 x.2.2 x.1.data.toList
/-- What the lines show. -/
def keptT (pre : List LineT) : List (List UInt8) := (pre.map oneT).filter (fun l => l ≠ [])
def txtT (pre : List LineT) : List UInt8 := joinL (keptT pre)
theorem join_snoc : ∀ (m : List (List UInt8)) (x : List UInt8), joinL (m ++ [x]) = if m = [] then x else joinL m ++ 32 :: x
  | [], x => rfl
  | [a], x => rfl
  | a :: b :: r, x => by
    rw [if_neg (by simp)]
    have := join_snoc (b :: r) x
    rw [if_neg (by simp)] at this
    show a ++ 32 :: joinL ((b :: r) ++ [x]) = (a ++ 32 :: joinL (b :: r)) ++ 32 :: x
    rw [this]; simp
theorem join_nil : ∀ (m : List (List UInt8)), (∀ l ∈ m, l ≠ []) → (joinL m = [] ↔ m = [])
  | [], _ => by simp [joinL]
  | [a], h => by
    have := h a (by simp)
    simp only [joinL]
    exact ⟨fun e => absurd e this, fun e => by cases e⟩
  | a :: b :: r, h => by simp [joinL]
theorem kept_ne (pre : List LineT) : ∀ l ∈ keptT pre, l ≠ [] := by
  intro l hl
  unfold keptT at hl
  simpa using (List.mem_filter.1 hl).2
theorem txt_nil : txtT [] = [] := rfl
theorem txt_skip (pre : List LineT) (x : LineT) (h : oneT x = []) : txtT (pre ++ [x]) = txtT pre := by
  unfold txtT keptT
  rw [List.map_append, List.filter_append, List.map_cons, List.map_nil, h]; simp
theorem kept_snoc (pre : List LineT) (x : LineT) (h : oneT x ≠ []) : keptT (pre ++ [x]) = keptT pre ++ [oneT x] := by
  unfold keptT
  rw [List.map_append, List.filter_append, List.map_cons, List.map_nil]; simp [h]
theorem txt_first (pre : List LineT) (x : LineT) (h : oneT x ≠ []) (h0 : txtT pre = []) : txtT (pre ++ [x]) = txtT pre ++ oneT x := by
  have hk : keptT pre = [] := (join_nil _ (kept_ne pre)).1 h0
  unfold txtT at h0 ⊢
  rw [kept_snoc pre x h, join_snoc, if_pos hk, h0]; rfl
theorem txt_more (pre : List LineT) (x : LineT) (h : oneT x ≠ []) (h0 : txtT pre ≠ []) : txtT (pre ++ [x]) = txtT pre ++ [32] ++ oneT x := by
  have hk : keptT pre ≠ [] := fun e => h0 ((join_nil _ (kept_ne pre)).2 e)
  unfold txtT at h0 ⊢
  rw [kept_snoc pre x h, join_snoc, if_neg hk]; simp
theorem txt_bound (M : Nat) : ∀ (m : List LineT), (∀ x ∈ m, (oneT x).length ≤ M) → (txtT m).length ≤ m.length * (M + 1)
  | [], _ => by simp [txtT, keptT, joinL]
  | x :: t, h => by
    have ih := txt_bound M t (fun y hy => h y (by simp [hy]))
    have h1 := h x (by simp)
    have hj : ∀ (m : List (List UInt8)) (a : List UInt8), (joinL (a :: m)).length ≤ a.length + 1 + (joinL m).length := by
      intro m a
      cases m with
      | nil => simp [joinL]
      | cons b r => simp [joinL]; omega
    unfold txtT keptT at ih ⊢
    rw [List.map_cons, List.length_cons, Nat.succ_mul]
    by_cases he : oneT x = []
    · rw [List.filter_cons_of_neg (by simp [he])]; omega
    · rw [List.filter_cons_of_pos (by simp [he])]
      have := hj (List.filter (fun l => decide (l ≠ [])) (List.map oneT t)) (oneT x)
      omega
theorem txt_len (pre : List LineS) : (txtT (pre.map (·.1))).length ≤ pre.length * 2097153 := by
  have one : ∀ x ∈ pre.map (fun y : LineS => y.1), (oneT x).length ≤ 2097152 := fun x hx => by
    obtain ⟨y, _, rfl⟩ := List.mem_map.1 hx
    have := one_len y.1.2.1 y.1.2.2 y.1.1.data.toList
    have h2 := y.2
    rw [list_size] at this
    exact Nat.le_trans this h2
  have := txt_bound 2097152 _ one
  rwa [List.length_map] at this
theorem kept_flags : ∀ (m : List (List UInt8)) (f : Bool), keptT (flagsF f m) = lineL f m
  | [], _ => rfl
  | [a], f => by
    show keptT [(ofL a, f, true)] = lineL f [a]
    unfold keptT
    simp only [List.map_cons, List.map_nil, oneT, ofL_list, lineL]
    by_cases h : oneL f true a = []
    · rw [if_pos h, List.filter_cons_of_neg (by simp [h])]; rfl
    · rw [if_neg h, List.filter_cons_of_pos (by simp [h])]; rfl
  | a :: b :: r, f => by
    have ih := kept_flags (b :: r) false
    rw [flagsF, lineL]
    unfold keptT at ih ⊢
    rw [List.map_cons]
    simp only [oneT, ofL_list]
    by_cases h : oneL f false a = []
    · rw [if_pos h, List.filter_cons_of_neg (by simp [h])]; exact ih
    · rw [if_neg h, List.filter_cons_of_pos (by simp [h])]; exact congrArg _ ih
theorem txt_all (L : List UInt8) (h : L.length ≤ 2097152) : txtT ((allS L).map (·.1)) = shownF L := by
  rw [allS_val L h]; unfold txtT shownF; rw [kept_flags]

/-! What abides the turn of a block that holds no cells. -/
theorem row_turn {w w' : World} {B e size n : Nat} {v : Value} {xs : List Value} {row : Option Nat} (h : w.ownsRowF B e size v n xs) (hg : w.grownBy w' row) (hr : ∀ r, row = some r → ∃ o : Obj, w.heap[r]? = some o ∧ o.isCells = false) : w'.ownsRowF B e size v n xs := by
  refine ⟨h.1, ?_⟩
  rcases h.2 with h0 | ⟨g, cap, cur, fz, h1, h2, h3, rest⟩
  · exact .inl h0
  · exact .inr ⟨g, cap, cur, fz, h1, h2, by rw [grownBy_keeps_cells hg hr h3 rfl]; exact h3, rest⟩
theorem bld_turn {w w' : World} {B b : Nat} {l : List UInt8} {row : Option Nat} (h : Bld B b l w) (hg : w.grownBy w' row) (hr : ∀ r, row = some r → ∃ o : Obj, w.heap[r]? = some o ∧ o.isCells = false) : Bld B b l w' := by
  rcases h with ⟨h1, v, h2, h3, h4⟩ | ⟨h1, v, h2, h3, h4⟩
  · exact .inl ⟨h1, v, by rw [grownBy_keeps_cells hg hr h2 rfl]; exact h2, row_turn h3 hg hr, h4⟩
  · exact .inr ⟨h1, v, by rw [grownBy_keeps_cells hg hr h2 rfl]; exact h2, row_turn h3 hg hr, h4⟩
theorem bld_cells {w : World} {B b : Nat} {l : List UInt8} (h : Bld B b l w) : ∃ o : Obj, w.heap[b]? = some o ∧ o.isCells = true := by
  rcases h with ⟨_, v, h2, _, _⟩ | ⟨_, v, h2, _, _⟩
  · exact ⟨_, h2, rfl⟩
  · exact ⟨_, h2, rfl⟩
theorem keeps_old {w w' : World} (h : Below w.heap.size w w') : KeepsOthers w w' := ⟨h.size, fun k o hk _ => by rw [h.block k (block_lt hk)]; exact hk⟩
theorem keeps_bld {w w' : World} {B b : Nat} (h : Bkept B b w w') (hc : ∃ o : Obj, w.heap[b]? = some o ∧ o.isCells = true) : KeepsOthers w w' :=
  ⟨h.1.size, fun k o hk ho => h.2 k o hk (fun e => by
    obtain ⟨o', h1, h2⟩ := hc
    cases e; rw [hk] at h1; cases h1; rw [ho] at h2; cases h2) (fun c fz e => by subst e; cases ho)⟩

theorem bld_own {β : Type} (B b : Nat) (f : β → List UInt8) : Own (fun s W => Bld B b (f s) W) := fun _ _ _ _ hs hg hr => bld_turn hs hg hr
/-- The line in its box. -/
def LineBox (W : World) (k : Nat) (x : LineT) : Prop := W.heap[k]? = some (.cells #[.string x.1, .bool x.2.1, .bool x.2.2] 66)

theorem wsp_any (B b : Nat) (l : List UInt8) (w : World) (h : Bld B b l w) (hlen : l.length + 1 ≤ 140737488355328) (hBw : B ≤ w.heap.size) :
    Calls Tryd.prog 25 #[.pointer (some ⟨b, 0, none⟩), .int .u8 32] w fun e w' => e = .returned .nilIface ∧ Bld B b (l ++ [32]) w' ∧ Bkept B b w w' := wbyte_any B b l 32 w h hlen hBw

set_option maxRecDepth 100000 in
set_option maxHeartbeats 8000000 in
theorem shownT_any (s : ByteArray) (hs : s.size ≤ 2097152) (w : World) :
    Calls Tryd.prog 16 #[.string s] w fun e W' => e = .returned (.string (ofL (shownF s.data.toList))) ∧ Below w.heap.size w W' := by
  refine (callsIn_wide (n := 6)).1 ?_
  refine callsIn_of_wp_marks Tryd.func16 rfl trivial ?_ rfl
  simp only [Tryd.ntmps16, List.size_toArray, List.length_cons, List.length_nil, Nat.reduceAdd, Nat.reduceSub, Array.replicate_succ, Array.replicate_zero, List.push_toArray, List.append_toArray, List.nil_append, List.cons_append]
  gi_wp2_with (refine ⟨trivial, ?_⟩; gi_at_call 33; refine (callsIn_wide.2 (lines_any s _)).mono ?_; rintro e w' ⟨rfl, rfl⟩)
  have hw0 := bld_new w
  have hb0 : Below w.heap.size w ((w.alloc (.cells #[.pointer none, .slice none 0 0] 47)).alloc (.cells #[.string s] 9)) := ((Below.refl _ _).alloc (Nat.le_refl _) _).alloc (by simp) _
  have hsz : ((w.alloc (.cells #[.pointer none, .slice none 0 0] 47)).alloc (.cells #[.string s] 9)).heap.size = w.heap.size + 2 := by simp
  have hbld := hw0.later ((Below.refl _ _).alloc (Nat.le_refl _) (.cells #[.string s] 9))
  have hcell := cel_new (w.alloc (.cells #[.pointer none, .slice none 0 0] 47)) #[.string s] 9 0
  rw [World.size_alloc] at hcell
  clear hw0
  obtain ⟨W0, hW0⟩ : ∃ W0, (w.alloc (.cells #[.pointer none, .slice none 0 0] 47)).alloc (.cells #[.string s] 9) = W0 := ⟨_, rfl⟩
  rw [hW0] at hbld hcell hb0 hsz ⊢
  clear hW0
  refine wpIn_rangeFunc_ownH rfl (by omega) (gf := 47) (lb := #[.pointer (some ⟨w.heap.size + 1, 0, none⟩)]) rfl trivial (enters_of Tryd.func47 (by kernel_rfl) rfl)
    (lines_stops 5 (by omega) (w.heap.size + 1) w.heap.size s hs W0 (by omega) hcell) belowK_t (belowK_b (by omega)) (Below.refl _ _) (fun _ => rfl)
    (fun pre W => Bld w.heap.size w.heap.size (txtT (pre.map (·.1))) W ∧ Below w.heap.size w W)
    (fun _ _ _ => False)
    (OwnFrom.and (Own.from (bld_own _ _ (fun pre : List LineS => txtT (pre.map (·.1)))) _) (ownFrom_below (Nat.le_refl _) (by omega)))
    (fun _ _ _ _ _ hs _ _ => hs)
    ⟨hbld, hb0⟩
    (fun x a' W => ∃ Bx, LineBox W Bx x.1 ∧ a' = { tmps := #[.string s, undef, .string ⟨#[]⟩, .pointer (some ⟨w.heap.size, 0, none⟩), .pointer (some ⟨Bx, 0, none⟩), undef, .string s, .func (.func 47) #[] #[.pointer (some ⟨w.heap.size + 1, 0, none⟩)], .agg #[.string x.1.1, .bool x.1.2.1, .bool x.1.2.2], undef, undef, undef, undef, undef, undef, undef, undef, undef, undef], defers := [] })
    (fun x a' _ X Y row hs hg hr => by obtain ⟨Bx, h2, h3⟩ := hs; exact ⟨Bx, by unfold LineBox; rw [grownBy_keeps_cells hg (fun r e => (hr r e).2) h2 rfl]; exact h2, h3⟩)
    ?assign ?body ?done ?stop
  case assign =>
    rintro l pre x W K ⟨hB1, hb1⟩ hK
    unfold encS encL
    gi_wp2
    exact hK _ _ ((KeepsOthers.alloc _ _).from _) ((Below.refl _ W).alloc hb1.size _) ⟨hB1.later ((Below.refl _ _).alloc (Nat.le_refl _) _), hb1.alloc hb1.size _⟩ ⟨W.heap.size, Array.getElem?_push_size, rfl⟩
  case body =>
    rintro l pre x a' W hl ⟨r, hr⟩ ⟨hB1, hb1⟩ ⟨Bx, bX, rfl⟩ hlt
    have c0 : W.cell? ⟨Bx, 0, none⟩ = some (.string x.1.1) := by rw [Lib.cell_of_heap bX]; rfl
    have c1 : W.cell? ⟨Bx, 1, none⟩ = some (.bool x.1.2.1) := by rw [Lib.cell_of_heap bX]; rfl
    have c2 : W.cell? ⟨Bx, 2, none⟩ = some (.bool x.1.2.2) := by rw [Lib.cell_of_heap bX]; rfl
    have hx := x.2
    have hol := one_len x.1.2.1 x.1.2.2 x.1.1.data.toList
    rw [list_size] at hol
    have htl := txt_len pre
    have Hone : Hid (oneL x.1.2.1 x.1.2.2 x.1.1.data.toList = oneT x.1) := Lib.hid rfl
    have HBld := Lib.hid hB1
    have HB := Lib.hid hb1
    have Hpre : Hid ((pre ++ [x]).map (fun y : LineS => y.1) = pre.map (fun y : LineS => y.1) ++ [x.1]) := Lib.hid (by simp)
    clear bX hB1 hb1
    gi_wp2
    refine ⟨trivial, ?_⟩
    refine (CallsIn.inRound l (callsIn_wide.2 (shown_any x.1.1 x.1.2.1 x.1.2.2 W (by omega)))).mono ?_
    rintro e w2 ⟨rfl, hb2⟩
    rw [Hone.out] at hol ⊢
    have HB2 := Lib.hid (HB.out.trans (hb2.mono HB.out.size))
    have HBld2 : Hid (Bld w.heap.size w.heap.size (txtT (pre.map (fun y : LineS => y.1))) w2) := Lib.hid (HBld.out.later hb2)
    have HK2 := Lib.hid (keeps_old hb2)
    have HL2 := Lib.hid (hb2.mono HB.out.size)
    have hbs := HB2.out.size
    have HBS := Lib.hid hbs
    clear hb2 c0 c1 c2 HBld HB hbs
    have hemp := emp_iff (ofL (oneT x.1)) _ (ofL_list _)
    have hul := ofL_size (oneT x.1)
    have Hul := Lib.hid (ofL_list (oneT x.1))
    generalize ofL (oneT x.1) = u at *
    by_cases he : oneT x.1 = []
    · have hemp' : u.toList.isEmpty = true := by rw [hemp, he]; rfl
      have Ht := Lib.hid (txt_skip (pre.map (fun y : LineS => y.1)) x.1 he)
      clear hemp he hul
      gi_wp2
      exact ⟨HK2.out.from _, HL2.out, by rw [Hpre.out, Ht.out]; exact HBld2.out, HB2.out⟩
    · have hemp' : u.toList.isEmpty = false := by rw [hemp]; cases hq : oneT x.1 with | nil => exact absurd hq he | cons => rfl
      clear hemp
      by_cases h0 : txtT (pre.map (fun y : LineS => y.1)) = []
      · have Ht := Lib.hid (txt_first (pre.map (fun y : LineS => y.1)) x.1 he h0)
        have hz : (txtT (pre.map (fun y : LineS => y.1))).length = 0 := by rw [h0]; rfl
        clear he h0
        generalize txtT (pre.map (fun y : LineS => y.1)) = acc at *
        gi_wp2
        refine ⟨trivial, ?_⟩
        refine (CallsIn.inRound l (callsIn_wide.2 (blen_any _ _ acc w2 HBld2.out))).mono ?_
        rintro e w3 ⟨rfl, rfl⟩
        rw [hz]
        gi_wp2
        refine ⟨trivial, ?_⟩
        refine (CallsIn.inRound l (callsIn_wide.2 (wstr_any _ _ acc u w2 HBld2.out (by omega) HBS.out))).mono ?_
        rintro e w3 ⟨rfl, hb3, hk3⟩
        rw [Hul.out] at hb3
        have HK3 := Lib.hid (HK2.out.trans (keeps_bld hk3 (bld_cells HBld2.out)))
        have HL3 := Lib.hid (HL2.out.trans hk3.1)
        have HB3 := Lib.hid (HB2.out.trans hk3.1)
        have Hb3 := Lib.hid hb3
        clear hb3 hk3
        gi_wp2
        exact ⟨HK3.out.from _, HL3.out, by rw [Hpre.out, Ht.out]; exact Hb3.out, HB3.out⟩
      · have Ht := Lib.hid (txt_more (pre.map (fun y : LineS => y.1)) x.1 he h0)
        have hz : 0 < (txtT (pre.map (fun y : LineS => y.1))).length := List.length_pos_iff.2 h0
        clear he h0
        generalize txtT (pre.map (fun y : LineS => y.1)) = acc at *
        gi_wp2
        refine ⟨trivial, ?_⟩
        refine (CallsIn.inRound l (callsIn_wide.2 (blen_any _ _ acc w2 HBld2.out))).mono ?_
        rintro e w3 ⟨rfl, rfl⟩
        gi_wp2
        refine ⟨trivial, ?_⟩
        refine (CallsIn.inRound l (callsIn_wide.2 (wsp_any _ _ acc w2 HBld2.out (by omega) HBS.out))).mono ?_
        rintro e w3 ⟨rfl, hb3, hk3⟩
        have HK3 := Lib.hid (HK2.out.trans (keeps_bld hk3 (bld_cells HBld2.out)))
        have HL3 := Lib.hid (HL2.out.trans hk3.1)
        have HB3 := Lib.hid (HB2.out.trans hk3.1)
        have Hb3 := Lib.hid hb3
        have hla : (acc ++ [32]).length = acc.length + 1 := by simp
        clear hb3 hk3
        gi_wp2
        refine ⟨trivial, ?_⟩
        refine (CallsIn.inRound l (callsIn_wide.2 (wstr_any _ _ (acc ++ [32]) u w3 Hb3.out (by omega) HB3.out.size))).mono ?_
        rintro e w4 ⟨rfl, hb4, hk4⟩
        rw [Hul.out] at hb4
        have HK4 := Lib.hid (HK3.out.trans (keeps_bld hk4 (bld_cells Hb3.out)))
        have HL4 := Lib.hid (HL3.out.trans hk4.1)
        have HB4 := Lib.hid (HB3.out.trans hk4.1)
        have Hb4 := Lib.hid hb4
        clear hb4 hk4
        gi_wp2
        exact ⟨HK4.out.from _, HL4.out, by rw [Hpre.out, Ht.out]; exact Hb4.out, HB4.out⟩
  case done =>
    rintro D zs W hD rfl ⟨hB1, hb1⟩ hK
    have hfin := txt_all s.data.toList (by rw [list_size]; exact hs)
    rw [hfin] at hB1
    clear hfin
    gi_wp2
    refine ⟨trivial, ?_⟩
    refine (callsIn_wide.2 (bstr_any _ _ _ W hB1 hb1.size)).mono ?_
    rintro e w3 ⟨rfl, hk3⟩
    have hK3 : w3.heap[D]? = some (.deferred (some [])) := by
      have := keeps_bld hk3 (bld_cells hB1)
      exact this.same D _ hK rfl
    have hb3 := hb1.trans hk3.1
    gi_wp2
    refine ⟨by simp, .inl ⟨_, _, rfl, run_takeDeferred hK3, ?_⟩⟩
    exact ⟨_, results_tmp rfl _ _ _, rfl, hb3.trans (belowK_b (w := w) (Nat.le_refl _) w3 D _ _ (by omega) hK3 rfl rfl)⟩
  case stop =>
    rintro D c pre W _ _ h _
    exact h.elim

end Jsx
end Go.Proofs.YtcalgpkcefccmaaDoor
