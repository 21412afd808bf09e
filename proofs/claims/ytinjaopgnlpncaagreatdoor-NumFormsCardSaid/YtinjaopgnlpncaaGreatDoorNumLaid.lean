/-
  What the rows' condition on the listed variables gives: the table of powers of ten.
-/
import Derived.Test.YtinjaopgnlpncaaGreatDoorNumLawA
import Derived.Lib.LaidTab
import Derived.MakeChecks
namespace Go.Proofs.YtinjaopgnlpncaaGreatDoor
namespace Num
open Go.RowKit

theorem tab_stays {w w' : World} (h : Lib.TabIs Tryz.prog w "internal/strconv.uint64pow10" .u64 Lib.pow10Tab) (hb : Below w.heap.size w w') : Lib.TabIs Tryz.prog w' "internal/strconv.uint64pow10" .u64 Lib.pow10Tab := by
  unfold Lib.TabIs World.var? at *
  cases hg : Tryz.prog.globalNamed "internal/strconv.uint64pow10" with
  | none => simp [hg] at h
  | some g =>
    simp only [hg, Option.bind_some] at h ⊢
    have hlt : g < w.heap.size := by
      rcases Nat.lt_or_ge g w.heap.size with h' | h'
      · exact h'
      · simp [Array.getElem?_eq_none h'] at h
    rw [hb.block g hlt]
    exact h

theorem tab_of {W : World} (h : laidMetH Tryz.prog Rows.numPrintsRow.laid W) : Tab W.heap.size W := by
  rw [MakeChecks.laidMetH_plain _ _ _ (by kernel_rfl)] at h
  obtain ⟨ps, ⟨g1, t1, c1, f1, p1, q1, _, _, _, _, ⟨g2, t2, c2, f2, p2, q2, _, _, _, _, ⟨g3, t3, c3, f3, p3, q3, hg, ht, hv, hd, _, _⟩, _⟩, _⟩, _, _⟩ := h
  have hty : (Tryz.prog.globals[g3]?).map (·.type) = some t3 := ht
  obtain rfl := Option.some.inj ((show Tryz.prog.globalNamed "internal/strconv.uint64pow10" = some 4 by kernel_rfl).symm.trans hg)
  obtain rfl := Option.some.inj ((show (Tryz.prog.globals[4]?).map (·.type) = some 134 by kernel_rfl).symm.trans hty)
  have hD : (Rows.laid_internal_strconv_uint64pow10 : DataW Unit) = Lib.tabData .u64 Lib.pow10Tab := by kernel_rfl
  rw [hD] at hd
  have hcs := Lib.cells_of_tab (n := 20) Tryz.underlying134 Tryz.underlying77 (by kernel_rfl) (by kernel_rfl) hd
  intro w' hw'
  refine tab_stays ?_ hw'
  unfold Lib.TabIs
  rw [hv, ← hcs]

end Num
end Go.Proofs.YtinjaopgnlpncaaGreatDoor
