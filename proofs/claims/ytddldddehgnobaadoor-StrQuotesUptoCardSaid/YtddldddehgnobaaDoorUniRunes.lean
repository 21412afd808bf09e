/-
  The contracts of the functions that say what a character is good for.
-/
import Derived.Test.YtddldddehgnobaaDoorUniWithin
namespace Go.Proofs.YtddldddehgnobaaDoor
namespace Uni
open Go.RowKit

theorem built_cell (w : World) (l : List Int) (t : TypeId) (i : Nat) (h : i < l.length) :
    (w.alloc (.cells (l.map (Value.int .i64)).toArray t)).cell? ⟨w.heap.size, i, none⟩ = some (.int .i64 (l.getD i 0)) := by
  rw [World.cell?_alloc_at _ _ _ _ rfl]
  simp [h, List.getD]

theorem within_built (r : Int) (l : List Int) (w : World) (hlen : l.length ≤ 1000) :
    Calls Tryd.prog 43 #[.int .i64 r, .slice (some ⟨w.heap.size, 0, none⟩) l.length l.length] (w.alloc (.cells (l.map (Value.int .i64)).toArray 3)) fun e w' => e = .returned (.bool (ascB r l)) ∧ Below w.heap.size w w' :=
  (within_any r l w.heap.size _ hlen (fun i hi => built_cell w l _ i hi)).mono fun _ _ ⟨he, hw⟩ => ⟨he, hw ▸ (Below.refl _ _).alloc (Nat.le_refl _) _⟩

set_option maxHeartbeats 400000 in
theorem ends_any (r : Int) (w : World) :
    Calls Tryd.prog 36 #[.int .i64 r] w fun e w' => e = .returned (.bool (endsB r)) ∧ Below w.heap.size w w' := by
  go_enter Tryd.func36, Tryd.ntmps36
  go_wp2_with fail
  refine (within_built r endsL w (by decide)).mono ?_
  rintro e w' ⟨rfl, hb⟩
  go_wp2
  go_ret
  exact ⟨ret_bool (ends_asc r), hb⟩

theorem ends_or (r : Int) : endsB r = (r == 10 || r == 13 || r == 8232 || r == 8233) := by
  rw [Bool.eq_iff_iff]
  simp only [endsB, endsL, anyB, Bool.or_eq_true, beq_iff_eq]
  by_cases h1 : r = 10
  · simp [h1]
  by_cases h2 : r = 13
  · simp [h2]
  by_cases h3 : r = 8232
  · simp [h3]
  by_cases h4 : r = 8233
  · simp [h4]
  rw [if_neg (by omega), if_neg (by omega), if_neg (by omega)]
  simp [h1, h2, h3, h4]

set_option maxHeartbeats 400000 in
theorem rends_any (r : Int) (w : World) :
    Calls Tryd.prog 41 #[.int .i64 r] w fun e w' => e = .returned (.bool (endsB r)) ∧ Below w.heap.size w w' := by
  have Hn := Lib.hid (ends_or r)
  by_cases h1 : r = 10
  · subst h1
    go_enter Tryd.func41, Tryd.ntmps41
    go_wp2_with fail
    go_ret
    exact ⟨rfl, Below.refl _ _⟩
  by_cases h2 : r = 13
  · subst h2
    go_enter Tryd.func41, Tryd.ntmps41
    go_wp2_with fail
    go_ret
    exact ⟨rfl, Below.refl _ _⟩
  by_cases h3 : r = 8232
  · subst h3
    go_enter Tryd.func41, Tryd.ntmps41
    go_wp2_with fail
    go_ret
    exact ⟨rfl, Below.refl _ _⟩
  have e1 : (r == 10) = false := beq_eq_false_iff_ne.2 h1
  have e2 : (r == 13) = false := beq_eq_false_iff_ne.2 h2
  have e3 : (r == 8232) = false := beq_eq_false_iff_ne.2 h3
  go_enter Tryd.func41, Tryd.ntmps41
  go_wp2_with fail
  go_ret
  exact ⟨ret_bool (by rw [Hn.out, e1, e2, e3]; rfl), Below.refl _ _⟩

end Uni
end Go.Proofs.YtddldddehgnobaaDoor
