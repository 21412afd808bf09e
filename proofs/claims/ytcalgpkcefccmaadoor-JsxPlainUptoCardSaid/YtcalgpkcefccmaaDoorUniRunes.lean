/-
  The contracts of the functions that say what a character is good for.
-/
import Derived.Test.YtcalgpkcefccmaaDoorUniWithin
namespace Go.Proofs.YtcalgpkcefccmaaDoor
namespace Uni
open Go.RowKit

theorem built_cell (w : World) (l : List Int) (t : TypeId) (i : Nat) (h : i < l.length) :
    (w.alloc (.cells (l.map (Value.int .i64)).toArray t)).cell? ⟨w.heap.size, i, none⟩ = some (.int .i64 (l.getD i 0)) := by
  rw [World.cell?_alloc_at _ _ _ _ rfl]
  simp [h, List.getD]

theorem within_built (r : Int) (l : List Int) (w : World) (hlen : l.length ≤ 1000) :
    Calls Tryd.prog 51 #[.int .i64 r, .slice (some ⟨w.heap.size, 0, none⟩) l.length l.length] (w.alloc (.cells (l.map (Value.int .i64)).toArray 3)) fun e w' => e = .returned (.bool (ascB r l)) ∧ Below w.heap.size w w' :=
  (within_any r l w.heap.size _ hlen (fun i hi => built_cell w l _ i hi)).mono fun _ _ ⟨he, hw⟩ => ⟨he, hw ▸ (Below.refl _ _).alloc (Nat.le_refl _) _⟩

theorem ends_or (r : Int) : endsB r = (r == 10 || r == 13 || r == 8232 || r == 8233) := by
  rw [Bool.eq_iff_iff]
  simp only [endsB, endsL, anyB, Bool.or_eq_true, beq_iff_eq]
  by_cases h1 : r = 10
  · simp [h1]
  by_cases h2 : r = 13
  · simp [h2]
  by_cases h3 : r = 8232
  · simp [h3]
  by_cases h4 : r = 8233
  · simp [h4]
  rw [if_neg (by omega), if_neg (by omega), if_neg (by omega)]
  simp [h1, h2, h3, h4]

end Uni
end Go.Proofs.YtcalgpkcefccmaaDoor
