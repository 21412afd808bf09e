/-
  What the rows' condition on the listed variables gives: Go's decoder's tables, the table of powers of ten, two errors.
-/
import Derived.Test.YtjoohpdohdehgaaGreatDoorRegAwake
import Derived.Test.YtjoohpdohdehgaaGreatDoorRows
import Derived.Lib.LaidU8T
import Derived.Lib.LaidTab
import Derived.Lib.AppendIntMem
import Derived.PinnedBridge
import Derived.MakeChecks
import Derived.Stop.LaidErr
namespace Go.Proofs.YtjoohpdohdehgaaGreatDoor
namespace Reg
open Go.RowKit Go.ChangeShapes

theorem u8x : U8Extra Tryz.prog Tryz.lays260_ren := ⟨by kernel_rfl, by kernel_rfl, by kernel_rfl, by kernel_rfl, by kernel_rfl, by kernel_rfl, by kernel_rfl⟩
theorem accept_eq : Rows.laid_unicode_utf8_acceptRanges (H := Unit) = Lib.acceptData := by kernel_rfl
theorem pow_eq : (Rows.laid_internal_strconv_uint64pow10 : DataW Unit) = Lib.tabData .u64 Lib.pow10Tab := by kernel_rfl
theorem star_error : "*" ++ "errors.errorString" = "*errors.errorString" := by decide
theorem one_error (u : TypeId) (h : Tryz.prog.typeName? 3 u = some "*errors.errorString") : u = 133 :=
  typeName_ptr_named (nm := "errors.errorString") (by rw [star_error]; kernel_rfl) (by kernel_rfl) (by decide) u (by rw [star_error]; exact h)

theorem tabs_of {W : World} (h : laidMetH Tryz.prog Rows.regexFlagsRow.laid W) : Tabs W.heap.size W := by
  rw [MakeChecks.laidMetH_plain _ _ _ (by kernel_rfl)] at h
  have h1 : Lib.VarReads Tryz.prog W "unicode/utf8.first" Lib.firstData := by
    have := Lib.laidMet.reads h (n := "unicode/utf8.first") (d := Rows.laid_unicode_utf8_first) (by simp [Rows.regexFlagsRow])
    rwa [show Rows.laid_unicode_utf8_first = Lib.firstData from Go.Pinned.utf8First_eq] at this
  have h2 : Lib.VarReads Tryz.prog W "unicode/utf8.acceptRanges" Lib.acceptData := by
    have := Lib.laidMet.reads h (n := "unicode/utf8.acceptRanges") (d := Rows.laid_unicode_utf8_acceptRanges) (by simp [Rows.regexFlagsRow])
    rwa [accept_eq] at this
  have hu : Lib.Utf8Tabs 1 2 W := utf8Tabs_of_readsT (U8Types.of260 Tryz.lays260) u8x h1 h2
  have hp : Lib.TabIs Tryz.prog W "internal/strconv.uint64pow10" .u64 Lib.pow10Tab := by
    obtain ⟨g3, t3, c3, f3, p3, hg, ht, hv, hd⟩ := Lib.laidMet.reads h (n := "internal/strconv.uint64pow10") (d := Rows.laid_internal_strconv_uint64pow10) (by simp [Rows.regexFlagsRow])
    obtain rfl := Option.some.inj ((show Tryz.prog.globalNamed "internal/strconv.uint64pow10" = some 3 by kernel_rfl).symm.trans hg)
    obtain rfl := Option.some.inj ((show (Tryz.prog.globals[3]?).map (·.type) = some 123 by kernel_rfl).symm.trans ht)
    rw [pow_eq] at hd
    have hcs := Lib.cells_of_tab (n := 20) Tryz.underlying123 Tryz.underlying54 (by kernel_rfl) (by kernel_rfl) hd
    unfold Lib.TabIs
    rw [hv, ← hcs]
  have hr := laid_sentinel (h.tail.tail.tail.tail) (show Tryz.prog.globalNamed "strconv.ErrRange" = some 5 by kernel_rfl) (show (Tryz.prog.globals[5]?).map (·.type) = some 98 by kernel_rfl) Tryz.underlying98 one_error Tryz.underlying133 Tryz.underlying135 rfl rfl Tryz.underlying9 (by kernel_rfl) (by kernel_rfl)
  have hs := laid_sentinel (h.tail.tail.tail.tail.tail) (show Tryz.prog.globalNamed "strconv.ErrSyntax" = some 4 by kernel_rfl) (show (Tryz.prog.globals[4]?).map (·.type) = some 98 by kernel_rfl) Tryz.underlying98 one_error Tryz.underlying133 Tryz.underlying135 rfl rfl Tryz.underlying9 (by kernel_rfl) (by kernel_rfl)
  obtain ⟨ar, -, hvr, -⟩ := hr
  obtain ⟨at1, -, hvs, -⟩ := hs
  have cr := World.var?_cell (show Tryz.prog.globalNamed "strconv.ErrRange" = some 5 by kernel_rfl) hvr 0
  have cs := World.var?_cell (show Tryz.prog.globalNamed "strconv.ErrSyntax" = some 4 by kernel_rfl) hvs 0
  have cr' : W.cell? ⟨5, 0, none⟩ = some (.iface 133 (.pointer (some ar))) := by simpa using cr
  have cs' : W.cell? ⟨4, 0, none⟩ = some (.iface 133 (.pointer (some at1))) := by simpa using cs
  have hpb := Lib.tabBelow_of_tabIs hp
  exact ⟨Nat.le_refl _, fun w' hb => ⟨Utf8Tabs_below hu hb, hpb w' hb,
    ⟨_, _, (hb.cell (World.block_lt_of_cell? W _ cs')).trans cs'⟩, ⟨_, _, (hb.cell (World.block_lt_of_cell? W _ cr')).trans cr'⟩⟩⟩

end Reg
end Go.Proofs.YtjoohpdohdehgaaGreatDoor
