/-
  What every law calls: the comparison of two lists, the list written over, the program's own signs of life.
-/
import Derived.Test.YtddldddehgnobaaDoorStrQuote
namespace Go.Proofs.YtddldddehgnobaaDoor
namespace Str
open Go.RowKit

theorem num_any (n : Int) (w : World) : Calls Tryd.prog 12 #[.int .i64 n] w fun e w' => e = .returned (.int .i64 n) ∧ w = w' := by
  go_enter Tryd.func12, Tryd.ntmps12
  go_wp2_with fail
  go_ret
  exact ⟨rfl, rfl⟩

theorem ints_of_own {B : Nat} {v : Value} {us : List Int} {w : World} (h : w.ownsRow B 3 1 v us.length (us.map (Value.int .i64))) : IntsAt w v us := by
  rcases h.2 with ⟨h1, h2⟩ | ⟨g, cap, cur, h1, _, h3, h4, _, h5, h6⟩
  · exact Or.inl ⟨h1, List.eq_nil_of_length_eq_zero h2⟩
  · refine Or.inr ⟨g, cap, cur, (0, 0), h1, h3, fun j u hj => ?_⟩
    have h7 : (cur.toList.take (us.length * 1))[j]? = some (.int .i64 u) := by rw [h6, List.getElem?_map, hj]; rfl
    rw [List.getElem?_take] at h7
    split at h7
    · simpa using h7
    · cases h7

/-- A slice of ints, told by its cells. -/
theorem ints_shape {w : World} {v : Value} {us : List Int} (h : IntsAt w v us) : ∃ ao c, v = .slice ao us.length c ∧ (us ≠ [] → ∃ g, ao = some ⟨g, 0, none⟩ ∧ ∀ j u, us[j]? = some u → w.cell? ⟨g, j, none⟩ = some (.int .i64 u)) := by
  rcases h with ⟨h1, h2⟩ | ⟨g, c, cs, fr, h1, h2, h3⟩
  · subst h2; exact ⟨none, 0, h1, fun h => absurd rfl h⟩
  · exact ⟨_, c, h1, fun _ => ⟨g, rfl, fun j u hj => by rw [blk_cell h2]; exact h3 j u hj⟩⟩

theorem cell_lt {w : World} {g j : Nat} {u : Value} (h : w.cell? ⟨g, j, none⟩ = some u) : g < w.heap.size := by
  rcases Nat.lt_or_ge g w.heap.size with h' | h'
  · exact h'
  · simp [World.cell?, Array.getElem?_eq_none h'] at h

set_option maxHeartbeats 2000000 in
set_option maxRecDepth 20000 in
theorem same_any (v v' : Value) (us : List Int) (w : World) (h : IntsAt w v us) (h' : IntsAt w v' us) (hl : us.length ≤ 67108864) :
    Calls Tryd.prog 16 #[v, v'] w fun e w' => e = .returned (.bool true) ∧ Below w.heap.size w w' := by
  obtain ⟨ao, c, rfl, hc⟩ := ints_shape h
  obtain ⟨ao', c', rfl, hc'⟩ := ints_shape h'
  have H := Lib.hid hc
  have H' := Lib.hid hc'
  have HI := Lib.hid h
  clear hc hc' h h'
  go_enter Tryd.func16, Tryd.ntmps16
  go_wp2_with fail
  go_loopw [5] (fun i wr => ∃ k : Nat, k ≤ us.length ∧ i = .int .i64 k ∧ Below w.heap.size w wr) (fun i _ => us.length - (intOf i).toNat)
  case atStart => exact ⟨0, by omega, rfl, Below.refl _ _⟩
  case round =>
    obtain ⟨k, hk, rfl, hbel⟩ := hrel
    have HB := Lib.hid hbel
    clear hbel
    by_cases hlt : k < us.length
    · have hne : us ≠ [] := by intro e; rw [e] at hlt; exact absurd hlt (by simp)
      obtain ⟨g, rfl, hg⟩ := H.out hne
      obtain ⟨g', rfl, hg'⟩ := H'.out hne
      obtain ⟨u, hu⟩ : ∃ u, us[k]? = some u := ⟨us[k], List.getElem?_eq_getElem hlt⟩
      have k1 := hg k u hu
      have k2 := hg' k u hu
      have c1 : wr.cell? ⟨g, k, none⟩ = some (.int .i64 u) := by rw [HB.out.cell (p := ⟨g, k, none⟩) (cell_lt k1)]; exact k1
      have c2 : wr.cell? ⟨g', k, none⟩ = some (.int .i64 u) := by rw [HB.out.cell (p := ⟨g', k, none⟩) (cell_lt k2)]; exact k2
      have hki : (k : Int) < (us.length : Int) := by omega
      clear hg hg' k1 k2 hu hne
      go_wp2_with fail
      go_quiet (fail)
      go_wp2_with fail
      go_roundw
      case rel => exact ⟨k + 1, by omega, by go_num, below_drewN HB.out _⟩
      case measure => simp [intOf]; omega
    · go_wp2_with fail
      go_ret
      exact ⟨rfl, HB.out⟩

set_option maxHeartbeats 2000000 in
set_option maxRecDepth 20000 in
theorem spoil_any (B : Nat) (v : Value) (us : List Int) (w : World) (h : w.ownsRow B 3 1 v us.length (us.map (Value.int .i64))) (hl : us.length ≤ 67108864) :
    Calls Tryd.prog 17 #[v] w fun e w' => (∃ u, e = .returned u) ∧ w.grownBy w' v.ownBlock := by
  have hv : ∃ ao cv, v = .slice ao us.length cv ∧ (us ≠ [] → ∃ g, ao = some ⟨g, 0, none⟩) := by
    rcases h.2 with ⟨h1, h2⟩ | ⟨g, cap, _, h1, _⟩
    · exact ⟨none, 0, by rw [h1, h2], fun h => absurd (List.eq_nil_of_length_eq_zero h2) h⟩
    · exact ⟨_, _, h1, fun _ => ⟨g, rfl⟩⟩
  obtain ⟨ao, cv, rfl, hao⟩ := hv
  have HO := Lib.hid h
  have HA := Lib.hid hao
  clear h hao
  go_enter Tryd.func17, Tryd.ntmps17
  go_wp2_with fail
  go_loopw [2] (fun i wr => ∃ (k : Nat) (xs : List Value), k ≤ us.length ∧ i = .int .i64 k ∧ (∀ x ∈ xs, ∃ z, x = .int .i64 z) ∧ wr.ownsRow B 3 1 (.slice ao us.length cv) us.length xs ∧ w.grownBy wr (Value.slice ao us.length cv).ownBlock) (fun i _ => us.length - (intOf i).toNat)
  case atStart => exact ⟨0, _, by omega, rfl, fun x hx => by obtain ⟨z, _, rfl⟩ := List.mem_map.1 hx; exact ⟨z, rfl⟩, HO.out, ⟨rfl, rfl, rfl, Nat.le_refl _, fun _ _ _ => rfl⟩⟩
  case round =>
    obtain ⟨k, xs, hk, rfl, hxs, hown, hgr⟩ := hrel
    have HX := Lib.hid hxs
    have HOW := Lib.hid hown
    have HG := Lib.hid hgr
    clear hxs hown hgr
    by_cases hlt : k < us.length
    · have hne : us ≠ [] := by intro e; rw [e] at hlt; exact absurd hlt (by simp)
      obtain ⟨g, rfl⟩ := HA.out hne
      have hxl : xs.length = us.length := by have := HOW.out.1; omega
      obtain ⟨z, hz⟩ := HX.out xs[k] (List.getElem_mem (by omega))
      have c1 : wr.cell? ⟨g, k, none⟩ = some (.int .i64 z) := by
        rw [HOW.out.cellAt k (by omega), List.getElem?_eq_getElem (by omega), hz]
      have f1 := HOW.out.frozenAt k
      have hki : (k : Int) < (us.length : Int) := by omega
      have HXL := Lib.hid hxl
      clear hne hxl hz
      go_wp2_with fail
      go_roundw
      case rel =>
        obtain ⟨h1, h2⟩ := HOW.out.stored k (.int .i64 (wrap64 (-9 - z)))
        refine ⟨k + 1, _, by omega, by go_num, ?_, h1, HG.out.trans h2⟩
        intro x hx
        rcases List.mem_or_eq_of_mem_set hx with h | h
        · exact HX.out x h
        · exact ⟨_, h⟩
      case measure => simp [intOf]; omega
    · go_wp2_with fail
      go_end0
      exact ⟨⟨_, rfl⟩, HG.out⟩

theorem units_some (s : ByteArray) (w : World) (hz : s.size ≤ 16777216) (hT : Tabs w) (ps : List Piece) (h : (litL s.data.toList).2 = some ps) :
    Calls Tryd.prog 14 #[.string s] w fun e w' => ∃ v, e = .returned (.tuple #[v, .int .i64 0]) ∧ w'.ownsRow w.heap.size 3 1 v (usL ps).length ((usL ps).map (Value.int .i64)) ∧ Below w.heap.size w w' := by
  refine (units_any s w hz hT).mono ?_
  rintro e w' ⟨h1, hb⟩
  rcases h1 with ⟨h2, _⟩ | ⟨ps', v, h2, h3, h4⟩
  · rw [h] at h2; cases h2
  · rw [h] at h2; injection h2 with h2; subst h2
    exact ⟨v, h3, h4, hb⟩

theorem aw_units : (litL [39, 97, 92, 120, 52, 49, 39]).2.map usL = some [97, 65] := by decide +kernel
theorem aw_quote : quoteL true [39, 105, 116, 92, 39, 115, 39] = [34, 105, 116, 39, 115, 34] := by decide +kernel
theorem aw_quote0 : codeL (litL [39, 105, 116, 92, 39, 115, 39]) = 0 := by decide +kernel
theorem aw_check : (litL [39, 97]).1 = 2 := by decide +kernel
theorem aw_check0 : codeL (litL [39, 97]) = 300 := by decide +kernel

theorem aw_u (w : World) (hT : Tabs w) :
    Calls Tryd.prog 14 #[.string ⟨#[39, 97, 92, 120, 52, 49, 39]⟩] w fun e w' => ∃ v, e = .returned (.tuple #[v, .int .i64 0]) ∧ IntsAt w' v [97, 65] ∧ Below w.heap.size w w' := by
  have h := aw_units
  cases hp : (litL [39, 97, 92, 120, 52, 49, 39]).2 with
  | none => rw [hp] at h; cases h
  | some ps =>
    rw [hp] at h
    injection h with h
    refine (units_some ⟨#[39, 97, 92, 120, 52, 49, 39]⟩ w (by decide) hT ps hp).mono ?_
    rintro e w' ⟨v, h1, h2, h3⟩
    exact ⟨v, h1, by rw [← h]; exact ints_of_own h2, h3⟩
theorem aw_q (w : World) (hT : Tabs w) :
    Calls Tryd.prog 18 #[.string ⟨#[39, 105, 116, 92, 39, 115, 39]⟩, .bool true] w fun e w' => e = .returned (.tuple #[.string ⟨#[34, 105, 116, 39, 115, 34]⟩, .int .i64 0]) ∧ Below w.heap.size w w' := by
  refine (quote_any ⟨#[39, 105, 116, 92, 39, 115, 39]⟩ true w (by decide) hT).mono ?_
  rintro e w' ⟨rfl, hb⟩
  have e1 : quoteL true (⟨#[39, 105, 116, 92, 39, 115, 39]⟩ : ByteArray).data.toList = [34, 105, 116, 39, 115, 34] := aw_quote
  have e2 : codeL (litL (⟨#[39, 105, 116, 92, 39, 115, 39]⟩ : ByteArray).data.toList) = 0 := aw_quote0
  rw [e1, e2]
  exact ⟨rfl, hb⟩
theorem aw_c (w : World) (hT : Tabs w) :
    Calls Tryd.prog 10 #[.string ⟨#[39, 97]⟩] w fun e w' => e = .returned (.tuple #[.int .i64 2, .int .i64 300]) ∧ Below w.heap.size w w' := by
  refine (check_any ⟨#[39, 97]⟩ w (by decide) hT).mono ?_
  rintro e w' ⟨rfl, hb⟩
  have e1 : (litL (⟨#[39, 97]⟩ : ByteArray).data.toList).1 = 2 := aw_check
  have e2 : codeL (litL (⟨#[39, 97]⟩ : ByteArray).data.toList) = 300 := aw_check0
  rw [e1, e2]
  exact ⟨rfl, hb⟩

set_option maxHeartbeats 2000000 in
set_option maxRecDepth 20000 in
theorem awake_any (w : World) (hT : Tabs w) : Calls Tryd.prog 13 #[] w fun e w' => e = .returned (.bool true) ∧ Below w.heap.size w w' := by
  have HU := Lib.hid (aw_u w hT)
  have HT := Lib.hid hT
  have h2 : 2 ≤ w.heap.size := hT.1
  clear hT
  go_enter Tryd.func13, Tryd.ntmps13
  go_wp2_with fail
  refine HU.out.mono ?_
  rintro e w1 ⟨v, rfl, hI, hb1⟩
  have HI := Lib.hid hI
  have HB1 := Lib.hid hb1
  clear hI hb1
  go_wp2_with fail
  refine (aw_q w1 (HT.out.below HB1.out h2)).mono ?_
  rintro e w2 ⟨rfl, hb2⟩
  have HB2 := Lib.hid (HB1.out.trans (hb2.mono HB1.out.size))
  have HI2 := Lib.hid (HI.out.keep hb2)
  clear hb2
  go_wp2_with fail
  refine (aw_c w2 (HT.out.below HB2.out h2)).mono ?_
  rintro e w3 ⟨rfl, hb3⟩
  have HB3 := Lib.hid (HB2.out.trans (hb3.mono HB2.out.size))
  have HI3 := Lib.hid (HI2.out.keep hb3)
  clear hb3
  go_wp2_with fail
  refine (num_any 0 w3).mono ?_
  rintro e w4 ⟨rfl, rfl⟩
  go_wp2_with fail
  refine (same_any _ _ [97, 65] _ (HI3.out.keep ((Below.refl _ _).alloc (Nat.le_refl _) _)) (ints_lit w3 [97, 65]) (by decide)).mono ?_
  rintro e w4 ⟨rfl, hb4⟩
  have HB4 := Lib.hid ((HB3.out.alloc HB3.out.size _).trans (hb4.mono (by have := HB3.out.size; simp; omega)))
  clear hb4
  go_wp2_with fail
  refine (num_any 0 w4).mono ?_
  rintro e w5 ⟨rfl, rfl⟩
  go_wp2_with fail
  refine (num_any 300 w4).mono ?_
  rintro e w5 ⟨rfl, rfl⟩
  go_wp2_with fail
  go_ret
  exact ⟨rfl, HB4.out⟩

end Str
end Go.Proofs.YtddldddehgnobaaDoor
