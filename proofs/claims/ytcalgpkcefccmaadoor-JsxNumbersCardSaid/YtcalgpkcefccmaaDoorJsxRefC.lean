/-
  The document's own side: an entity's name.
-/
import Derived.Test.YtcalgpkcefccmaaDoorJsxRefM
namespace Go.Proofs.YtcalgpkcefccmaaDoor
namespace Jsx
open Go.RowKit

def strV (l : List UInt8) : Value := .string ⟨l.toArray⟩
def namesL : List (List UInt8) := [[97, 109, 112], [108, 116], [103, 116], [113, 117, 111, 116], [97, 112, 111, 115], [110, 98, 115, 112], [99, 111, 112, 121], [114, 101, 103], [104, 101, 108, 108, 105, 112], [109, 100, 97, 115, 104], [110, 100, 97, 115, 104]]
def meansL : List Nat := [38, 60, 62, 34, 39, 160, 169, 174, 8230, 8212, 8211]
/-- A name looked up from place k on. -/
def lookF : List (List UInt8) → List Nat → List UInt8 → Nat
  | n :: t, v :: r, x => if n = x then v else lookF t r x
  | _, _, _ => 0
theorem look_chr (x : List UInt8) : lookF namesL meansL x = chrF x := by
  simp only [namesL, meansL, lookF, chrF, eq_comm (b := x)]
theorem drop_cons {α : Type} (l : List α) (i : Nat) (h : i < l.length) (d : α) : l.drop i = l.getD i d :: l.drop (i + 1) := by
  rw [List.drop_eq_getElem_cons h]
  simp [List.getD, List.getElem?_eq_getElem h]
theorem built_str (w : World) (l : List (List UInt8)) (t : TypeId) (i : Nat) (h : i < l.length) :
    (w.alloc (.cells (l.map strV).toArray t)).cell? ⟨w.heap.size, i, none⟩ = some (strV (l.getD i [])) := by
  rw [World.cell?_alloc_at _ _ _ _ rfl]
  simp [List.getD, List.getElem?_eq_getElem h]
theorem built_int (w : World) (l : List Nat) (t : TypeId) (i : Nat) (h : i < l.length) :
    (w.alloc (.cells (l.map fun v : Nat => Value.int .i32 (v : Int)).toArray t)).cell? ⟨w.heap.size, i, none⟩ = some (.int .i32 (l.getD i 0 : Nat)) := by
  rw [World.cell?_alloc_at _ _ _ _ rfl]
  simp [List.getD, List.getElem?_eq_getElem h]
theorem cel_alloc {w : World} {a : Addr} {v : Value} (h : w.cell? a = some v) (o : Obj) : (w.alloc o).cell? a = some v := (World.cell?_of_block (Below.heap_alloc _ _ _ (World.block_lt_of_cell? w _ h))).trans h
theorem alloc_size (w : World) (o : Obj) : (w.alloc o).heap.size = w.heap.size + 1 := by simp
/-- The two lists as they are laid. -/
def tabW (w : World) : World := (w.alloc (.cells (namesL.map strV).toArray 9)).alloc (.cells (meansL.map fun v : Nat => Value.int .i32 (v : Int)).toArray 21)
theorem tab_cells (w : World) : (∀ i, i < 11 → (tabW w).cell? ⟨w.heap.size, i, none⟩ = some (strV (namesL.getD i []))) ∧ (∀ i, i < 11 → (tabW w).cell? ⟨w.heap.size + 1, i, none⟩ = some (.int .i32 (meansL.getD i 0 : Nat))) ∧ Below w.heap.size w (tabW w) := by
  refine ⟨fun i hi => cel_alloc (built_str w namesL _ i hi) _, fun i hi => ?_, ((Below.refl _ _).alloc (Nat.le_refl _) _).alloc (by simp) _⟩
  have := built_int (w.alloc (.cells (namesL.map strV).toArray 9)) meansL 21 i hi
  rw [alloc_size] at this
  exact this
theorem look_drop (i : Nat) (h : i < 11) (x : List UInt8) : lookF (namesL.drop i) (meansL.drop i) x = if namesL.getD i [] = x then meansL.getD i 0 else lookF (namesL.drop (i + 1)) (meansL.drop (i + 1)) x := by
  rw [drop_cons namesL i h [], drop_cons meansL i h 0, lookF]

set_option maxHeartbeats 2000000 in
set_option maxRecDepth 20000 in
theorem rentity_any (s : ByteArray) (w : World) :
    Calls Tryd.prog 28 #[.string s] w fun e w' => e = .returned (.int .i32 (chrF s.data.toList)) ∧ Below w.heap.size w w' := by
  have Hk := Lib.hid (look_chr s.data.toList)
  go_enter Tryd.func28, Tryd.ntmps28
  go_wp2_with fail
  obtain ⟨hc1, hc2, hb⟩ := tab_cells w
  have Hc1 := Lib.hid hc1
  have Hc2 := Lib.hid hc2
  have HB := Lib.hid hb
  clear hc1 hc2 hb
  generalize hw : World.alloc (World.alloc _ _) _ = w1
  have hw' : tabW w = w1 := hw
  clear hw
  rw [hw'] at Hc1 Hc2 HB
  clear hw'
  go_loop [5] (fun i => ∃ k : Nat, k ≤ 11 ∧ i = .int .i64 k ∧ Hid (chrF s.data.toList = lookF (namesL.drop k) (meansL.drop k) s.data.toList)) (fun i => 11 - (intOf i).toNat)
  case atStart => exact ⟨0, by omega, rfl, Lib.hid Hk.out.symm⟩
  case round =>
    obtain ⟨k, hk, rfl, Hs⟩ := hrel
    by_cases hlt : k < 11
    · have h1 := Hc1.out k hlt
      have h2 := Hc2.out k hlt
      have Hd := Lib.hid (look_drop k hlt s.data.toList)
      generalize namesL.getD k [] = y at h1 Hd
      generalize meansL.getD k 0 = m at h2 Hd
      unfold strV at h1
      have hya : (⟨y.toArray⟩ : ByteArray).toList = y := by rw [Lib.toList_data]
      generalize (⟨y.toArray⟩ : ByteArray) = ya at h1 hya
      by_cases he : y = s.data.toList
      · have b1 : (ya.toList == s.toList) = true := by rw [hya, Lib.toList_data, ← he]; simp
        have Hf : Hid (chrF s.data.toList = m) := Lib.hid (by rw [Hs.out, Hd.out, if_pos he])
        clear he hya
        go_wp2_with fail
        go_ret
        exact ⟨ret_i32 (by rw [Hf.out]), HB.out⟩
      · have b1 : (ya.toList == s.toList) = false := by
          rw [hya, Lib.toList_data]; exact beq_eq_false_iff_ne.2 (by simpa using he)
        have Hf : Hid (chrF s.data.toList = lookF (namesL.drop (k + 1)) (meansL.drop (k + 1)) s.data.toList) := Lib.hid (by rw [Hs.out, Hd.out, if_neg he])
        clear he hya
        go_wp2_with fail
        go_round
        case rel => exact ⟨k + 1, by omega, by go_num, Hf⟩
        case measure => simp [intOf]; omega
    · have Hf : Hid (chrF s.data.toList = 0) := Lib.hid (by rw [Hs.out, List.drop_eq_nil_of_le (by show 11 ≤ k; omega)]; rfl)
      go_wp2_with fail
      go_ret
      exact ⟨ret_i32 (by rw [Hf.out]; rfl), HB.out⟩

end Jsx
end Go.Proofs.YtcalgpkcefccmaaDoor
