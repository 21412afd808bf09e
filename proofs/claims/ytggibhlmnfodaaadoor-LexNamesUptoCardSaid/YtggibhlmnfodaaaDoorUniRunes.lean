/-
  The contracts of the functions that say what a character is good for.
-/
import Derived.Test.YtggibhlmnfodaaaDoorUniWithin
namespace Go.Proofs.YtggibhlmnfodaaaDoor
namespace Uni
open Go.RowKit

theorem built_cell (w : World) (l : List Int) (t : TypeId) (i : Nat) (h : i < l.length) :
    (w.alloc (.cells (l.map (Value.int .i64)).toArray t)).cell? ⟨w.heap.size, i, none⟩ = some (.int .i64 (l.getD i 0)) := by
  rw [World.cell?_alloc_at _ _ _ _ rfl]
  simp [h, List.getD]

theorem within_built (r : Int) (l : List Int) (w : World) (hlen : l.length ≤ 1000) :
    Calls Tryd.prog 14 #[.int .i64 r, .slice (some ⟨w.heap.size, 0, none⟩) l.length l.length] (w.alloc (.cells (l.map (Value.int .i64)).toArray 3)) fun e w' => e = .returned (.bool (ascB r l)) ∧ Below w.heap.size w w' :=
  (within_any r l w.heap.size _ hlen (fun i hi => built_cell w l _ i hi)).mono fun _ _ ⟨he, hw⟩ => ⟨he, hw ▸ (Below.refl _ _).alloc (Nat.le_refl _) _⟩

set_option maxHeartbeats 400000 in
theorem ends_any (r : Int) (w : World) :
    Calls Tryd.prog 17 #[.int .i64 r] w fun e w' => e = .returned (.bool (endsB r)) ∧ Below w.heap.size w w' := by
  go_enter Tryd.func17, Tryd.ntmps17
  go_wp2_with fail
  refine (within_built r endsL w (by decide)).mono ?_
  rintro e w' ⟨rfl, hb⟩
  go_wp2
  go_ret
  exact ⟨ret_bool (ends_asc r), hb⟩

set_option maxHeartbeats 400000 in
theorem blank_any (r : Int) (w : World) :
    Calls Tryd.prog 18 #[.int .i64 r] w fun e w' => e = .returned (.bool (blankB r)) ∧ Below w.heap.size w w' := by
  go_enter Tryd.func18, Tryd.ntmps18
  go_wp2_with fail
  refine (within_built r blankL w (by decide)).mono ?_
  rintro e w' ⟨rfl, hb⟩
  go_wp2
  go_ret
  exact ⟨ret_bool (blank_asc r), hb⟩

set_option maxHeartbeats 400000 in
theorem start_any (r : Int) (w : World) :
    Calls Tryd.prog 10 #[.int .i64 r] w fun e w' => e = .returned (.bool (startB r)) ∧ Below w.heap.size w w' := by
  by_cases h : r < 128
  · have hn := start_near r h
    by_cases h1 : r = 36
    · subst h1
      go_enter Tryd.func10, Tryd.ntmps10
      go_wp2_with fail
      go_ret
      exact ⟨rfl, Below.refl _ _⟩
    · by_cases h2 : r = 95
      · subst h2
        go_enter Tryd.func10, Tryd.ntmps10
        go_wp2_with fail
        go_ret
        exact ⟨rfl, Below.refl _ _⟩
      · have h3 : (r == 36) = false := beq_eq_false_iff_ne.2 h1
        have h4 : (r == 95) = false := beq_eq_false_iff_ne.2 h2
        rw [h3, h4, Bool.false_or, Bool.false_or] at hn
        have Hn := Lib.hid hn; clear hn
        go_enter Tryd.func10, Tryd.ntmps10
        go_wp2_with fail
        refine (within_built r azL w (by decide)).mono ?_
        rintro e w' ⟨rfl, hb⟩
        go_wp2_with fail
        go_ret
        exact ⟨ret_bool Hn.out, hb⟩
  · have Hn := Lib.hid (start_far r h)
    go_enter Tryd.func10, Tryd.ntmps10
    go_wp2_with fail
    refine (within_built r farL w (by decide)).mono ?_
    rintro e w' ⟨rfl, hb⟩
    go_wp2_with fail
    go_ret
    exact ⟨ret_bool Hn.out, hb⟩

set_option maxHeartbeats 400000 in
theorem part_any (r : Int) (w : World) :
    Calls Tryd.prog 9 #[.int .i64 r] w fun e w' => e = .returned (.bool (partB r)) ∧ Below w.heap.size w w' := by
  cases h : startB r
  all_goals
    have Hs := Lib.hid h; clear h
    go_enter Tryd.func9, Tryd.ntmps9
    go_wp2_with fail
    refine (start_any r w).mono ?_
    rintro e w' ⟨rfl, hb⟩
    rw [Hs.out]
    go_wp2_with fail
  · refine (within_built r moreL w' (by decide)).mono ?_
    rintro e w2 ⟨rfl, hb2⟩
    go_wp2_with fail
    go_ret
    exact ⟨ret_bool (by rw [partB, Hs.out, more_asc]; rfl), hb.trans (hb2.mono hb.size)⟩
  · go_ret
    exact ⟨ret_bool (by rw [partB, Hs.out]; rfl), hb⟩

theorem ends_or (r : Int) : endsB r = (r == 10 || r == 13 || r == 8232 || r == 8233) := by
  rw [Bool.eq_iff_iff]
  simp only [endsB, endsL, anyB, Bool.or_eq_true, beq_iff_eq]
  by_cases h1 : r = 10
  · simp [h1]
  by_cases h2 : r = 13
  · simp [h2]
  by_cases h3 : r = 8232
  · simp [h3]
  by_cases h4 : r = 8233
  · simp [h4]
  rw [if_neg (by omega), if_neg (by omega), if_neg (by omega)]
  simp [h1, h2, h3, h4]

end Uni
end Go.Proofs.YtggibhlmnfodaaaDoor
