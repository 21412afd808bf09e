/-
  The contract of the laws' own first question, and of the number of an error.
-/
import Derived.Test.YtggibhlmnfodaaaUniWidth
namespace Go.Proofs.Ytggibhlmnfodaaa
namespace Uni
open Go.RowKit

theorem sz2 : (⟨#[97, 255]⟩ : ByteArray).size ≤ maxLen := by decide
theorem sz4 : (⟨#[97, 230, 151, 165]⟩ : ByteArray).size ≤ maxLen := by decide
theorem at2 : badAt ⟨#[97, 255]⟩ = 1 := by decide +kernel
theorem code2 : badCode ⟨#[97, 255]⟩ = 100 := by decide +kernel
theorem wide4 : widthFrom ⟨#[97, 230, 151, 165]⟩ 0 = 3 := by decide +kernel
theorem start36 : startB 36 = true := by decide
theorem start49 : startB 49 = false := by decide
theorem part49 : partB 49 = true := by decide
theorem ends10 : endsB 10 = true := by decide
theorem blank9 : blankB 9 = true := by decide

theorem num_any (n : Int) (w : World) : Calls Try.prog 18 #[.int .i64 n] w fun e w' => e = .returned (.int .i64 n) ∧ w = w' := by
  go_enter Try.func18, Try.ntmps18
  go_wp2
  go_ret
  exact ⟨rfl, rfl⟩

end Uni
end Go.Proofs.Ytggibhlmnfodaaa
