/-
  The law 'NumRuns': all its cases.
-/
import Derived.Test.YtinjaopgnlpncaaGreatDoorNumLawC
namespace Go.Proofs.YtinjaopgnlpncaaGreatDoor
namespace Num
open Go.RowKit

theorem mod4 (x : Int) : (IntKind.u64.wrap x).tmod 4 = 0 ∨ (IntKind.u64.wrap x).tmod 4 = 1 ∨ (IntKind.u64.wrap x).tmod 4 = 2 ∨ (IntKind.u64.wrap x).tmod 4 = 3 := by
  obtain ⟨k, hk, h⟩ := mod_cut x 3
  rw [show ((3 : Nat) : Int) + 1 = 4 from rfl] at h
  rw [h]; omega
theorem numruns_any (x a b : Int) (w : World) (ht : Tab w.heap.size w) :
    Calls Tryz.prog 5 #[.int .i64 x, .int .i64 a, .int .i64 b] w fun e w' => e = .returned (.bool true) ∧ Below w.heap.size w w' := by
  rcases mod4 b with h | h | h | h
  · exact runs_0 x a b w ht h
  · exact runs_1 x a b w ht h
  · exact runs_2 x a b w ht h
  · exact runs_3 x a b w ht h

end Num
end Go.Proofs.YtinjaopgnlpncaaGreatDoor
