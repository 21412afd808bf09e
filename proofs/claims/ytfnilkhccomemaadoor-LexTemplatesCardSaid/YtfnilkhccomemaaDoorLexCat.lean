/-
  Sizes of texts put together.
-/
import Derived.Test.YtfnilkhccomemaaDoorLexTemT
namespace Go.Proofs.YtfnilkhccomemaaDoor
namespace Lex
open Go.RowKit
open Str (lenL runeL)

theorem cat2_size (a b : ByteArray) : (a ++ b).size = a.size + b.size := by
  have h := congrArg List.length (show (a ++ b : ByteArray).data.toList = a.data.toList ++ b.data.toList by simp)
  simp only [List.length_append, Array.length_toList] at h
  exact h
theorem cat3_size (a b c : ByteArray) : (a ++ b ++ c).size = a.size + b.size + c.size := by rw [cat2_size, cat2_size]
theorem u64_nonneg (z : Int) : 0 ≤ IntKind.u64.wrap z := by
  rw [IntKind.wrap_u64]; omega


end Lex
end Go.Proofs.YtfnilkhccomemaaDoor
