/-
  What the rows' condition on the listed variables gives: the tables of Go's decoder.
-/
import Derived.Test.YtggibhlmnfodaaaDoorLexAll
import Derived.Test.YtggibhlmnfodaaaDoorRows
import Derived.Lib.LaidU8T
import Derived.PinnedBridge
import Derived.MakeChecks
namespace Go.Proofs.YtggibhlmnfodaaaDoor
namespace Lex
open Go.RowKit

theorem u8x : U8Extra Tryd.prog Tryd.lays260_ren := ⟨by kernel_rfl, by kernel_rfl, by kernel_rfl, by kernel_rfl, by kernel_rfl, by kernel_rfl, by kernel_rfl⟩
theorem accept_eq : Rows.laid_unicode_utf8_acceptRanges (H := Unit) = Lib.acceptData := by kernel_rfl

theorem tabs_of {W : World} (h : laidMetH Tryd.prog Rows.lexNamesRow.laid W) : Tabs W.heap.size W := by
  rw [MakeChecks.laidMetH_plain _ _ _ (by kernel_rfl)] at h
  have h1 : Lib.VarReads Tryd.prog W "unicode/utf8.first" Lib.firstData := by
    have := Lib.laidMet.reads h (n := "unicode/utf8.first") (d := Rows.laid_unicode_utf8_first) (by simp [Rows.lexNamesRow])
    rwa [show Rows.laid_unicode_utf8_first = Lib.firstData from Go.Pinned.utf8First_eq] at this
  have h2 : Lib.VarReads Tryd.prog W "unicode/utf8.acceptRanges" Lib.acceptData := by
    have := Lib.laidMet.reads h (n := "unicode/utf8.acceptRanges") (d := Rows.laid_unicode_utf8_acceptRanges) (by simp [Rows.lexNamesRow])
    rwa [accept_eq] at this
  have ht : Lib.Utf8Tabs 0 1 W := utf8Tabs_of_readsT (U8Types.of260 Tryd.lays260) u8x h1 h2
  exact ⟨World.block_lt_of_cell? W _ (ht.2 0 (by decide)).1, Nat.le_refl _, ht⟩

end Lex
end Go.Proofs.YtggibhlmnfodaaaDoor
