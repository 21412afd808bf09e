/-
  The contracts of the functions that append a number's digits, over a piece of a row wherever it begins.
-/
import Derived.Test.YtinjaopgnlpncaaGreatDoorNumTrim
import Derived.Shelf.Strconv.AppendUint10
namespace Go.Proofs.YtinjaopgnlpncaaGreatDoor
namespace Num
open Go.RowKit Go.Sort

/-- The table of powers reads as its text lays it, whatever turns from block B on. -/
def Tab (B : Nat) (w : World) : Prop := Lib.TabBelow Tryz.prog B w "internal/strconv.uint64pow10" .u64 Lib.pow10Tab
theorem Tab.on {B : Nat} {w w1 : World} (h : Tab B w) (hb : Below B w w1) : Tab B w1 := Lib.TabBelow.on h hb
theorem Tab.up {B C : Nat} {w : World} (h : Tab B w) (hBC : B ≤ C) : Tab C w := fun w' hw' => h w' (hw'.mono hBC)

theorem bytes_cells (l : List UInt8) : Lib.byteCells l = cellsOf l := rfl
theorem digits_le (u : Nat) (h : u < 18446744073709551616) : (Lib.decDigits u).length ≤ 20 := by
  rw [Lib.decDigits_length]
  by_cases h1 : 1 ≤ u
  · have := Lib.numDigits_eq u h1 h
    split at this <;> omega
  · rw [Lib.nDigits_small (by omega)]; omega

set_option maxHeartbeats 4000000 in
set_option maxRecDepth 100000 in
theorem uint_small (B u : Nat) (hu : u < 100) (v : Value) (xs : List UInt8) (w : World) (h : Seg w B v xs) (hB : B ≤ w.heap.size) (hlim : xs.length + 20 ≤ 140737488355328) :
    Calls Tryz.prog 94 #[v, .int .u64 u, .int .i64 10] w (SegPost B w (xs ++ Lib.decDigits u)) := by
  have H := Lib.hid h; clear h
  have hl := digits_le u (by omega)
  have hsz : (⟨(Lib.decDigits u).toArray⟩ : ByteArray).size = (Lib.decDigits u).length := show (⟨(Lib.decDigits u).toArray⟩ : ByteArray).size = (Lib.decDigits u).length from by simp [ByteArray.size]
  go_enter Tryz.func94, Tryz.ntmps94
  go_wp2_with (first
    | (go_at_call 107; refine (Tryz.internal_strconv_small u hu _).mono ?_; rintro e w' ⟨rfl, rfl⟩)
    | (at_builtin; refine wpList_append_seg _ rfl _ _ 9 rfl rfl H.out _ rfl _ (Lib.decDigits u) rfl (src_str _ _) ?c1 hB ?_))
  case c1 => omega
  intro v' w1 hs1 hb1
  have Hs1 := Lib.hid hs1
  clear hs1
  go_wp2_with fail
  go_ret
  exact ⟨_, rfl, Hs1.out, hb1⟩

theorem src_row (w : World) (b : Nat) (l : List UInt8) (n c : Nat) (hn : l.length = n) (hc : ∀ j u, (cellsOf l)[j]? = some u → w.cell? ((⟨b, 0, none⟩ : Addr).add j) = some u) :
    Src Tryz.prog 1 42 (.slice (some ⟨b, 0, none⟩) n c) n (cellsOf l) w :=
  Src.ofSlice (w := w) Tryz.underlying42 _ _ _ _ (by rw [cellsOf_len, hn, Nat.mul_one]) hc (cellsOf_one l)

set_option maxHeartbeats 4000000 in
set_option maxRecDepth 100000 in
theorem uint_big (B u : Nat) (hu : 100 ≤ u) (hu64 : u < 18446744073709551616) (v : Value) (xs : List UInt8) (w : World) (h : Seg w B v xs) (hB : B ≤ w.heap.size) (hlim : xs.length + 20 ≤ 140737488355328) (ht : Tab B w) :
    Calls Tryz.prog 94 #[v, .int .u64 u, .int .i64 10] w (SegPost B w (xs ++ Lib.decDigits u)) := by
  have hl := digits_le u hu64
  have hnd : Lib.nDigits u ≤ 20 := by rw [← Lib.decDigits_length]; exact hl
  have hn := Tryz.internal_strconv_numDigits u (by omega) hu64 (w.alloc (.cells Lib.zeros24 118)) (ht _ ((Below.refl _ _).alloc hB _))
  have hcut : ∀ W, (Instr.sliceAt 118 (.pointer (some ⟨w.heap.size, 0, none⟩)) none (some (.int .i64 (Lib.nDigits u : Int))) none).run Tryz.prog W = .ok (.slice (some ⟨w.heap.size, 0, none⟩) (Lib.nDigits u) 24) W := fun W => by
    have hal : Tryz.prog.arrayLen 118 = 24 := by kernel_rfl
    rw [run_sliceAt_array_h W 118 ⟨w.heap.size, 0, none⟩ (by kernel_rfl) .i64 (Lib.nDigits u : Int) (by omega) (by rw [hal]; omega)]
    go_simp
  have hrow := Lib.holds_zero0 w 118 (Lib.nDigits u) (by omega)
  have hfmt := Tryz.internal_strconv_formatBase10 w.heap.size 0 24 u (Array.replicate (Lib.nDigits u) 0) (w.alloc (.cells Lib.zeros24 118)) hrow (by rw [Array.size_replicate]; exact Lib.lt_pow_nDigits u) hu64 (by rw [Array.size_replicate]; omega)
  rw [Array.size_replicate] at hfmt
  have Hrow := Lib.hid hrow; clear hrow
  have H := Lib.hid h; clear h
  have hu' : (100 : Int) ≤ (u : Int) := by omega
  have Ht := Lib.hid ht; clear ht
  go_enter Tryz.func94, Tryz.ntmps94
  go_wp2_with (go_at_call 108; refine hn.mono ?_; rintro e w' ⟨rfl, rfl⟩)
  clear hn
  go_at_call 109
  refine hfmt.mono ?_
  rintro e w' ⟨rfl, k, v', dk, rfl, hF⟩
  have hcells : ∀ j u', (cellsOf (Lib.decDigits u))[j]? = some u' → ((putRow (fun (b : UInt8) => Value.int .u8 (b.toNat : Int)) (w.alloc (.cells Lib.zeros24 118)) w.heap.size 0 dk).drewN k).cell? ((⟨w.heap.size, 0, none⟩ : Addr).add j) = some u' := by
    intro j u' hj
    have hjl : j < (Lib.decDigits u).length := by
      have := (List.getElem?_eq_some_iff.1 hj).1
      rwa [cellsOf_len] at this
    rw [cellsOf_get _ _ hjl] at hj
    cases hj
    rw [Lib.row_is_numeral hF j hjl, Lib.add_plain, World.cell?_drewN]
    exact cell?_putRow (fun (b : UInt8) => Value.int .u8 (b.toNat : Int)) _ w.heap.size 0 _ dk Hrow.out (by rw [hF.size, Array.size_replicate]) j (by rw [hF.size]; rw [Lib.decDigits_length] at hjl; exact hjl)
  obtain ⟨os, eo⟩ := Lib.fin_at w (.cells Lib.zeros24 118) dk k 0
  have hb2 : Below w.heap.size w ((putRow (fun (b : UInt8) => Value.int .u8 (b.toNat : Int)) (w.alloc (.cells Lib.zeros24 118)) w.heap.size 0 dk).drewN k) := by rw [eo]; exact Lib.below_grow w.heap.size w (Nat.le_refl _) k os
  have Hsrc := Lib.hid (src_row _ w.heap.size (Lib.decDigits u) (Lib.nDigits u) 24 (Lib.decDigits_length u) hcells)
  generalize (putRow (fun (b : UInt8) => Value.int .u8 (b.toNat : Int)) (w.alloc (.cells Lib.zeros24 118)) w.heap.size 0 dk).drewN k = w2 at *
  clear eo Hrow hfmt hcells hF
  have Hs2 := Lib.hid (H.out.keep hb2)
  have hB2 : B ≤ w2.heap.size := Nat.le_trans hB hb2.size
  go_wp2_with (at_builtin; refine wpList_append_seg _ rfl _ _ 42 rfl rfl Hs2.out _ rfl _ (Lib.decDigits u) (Lib.decDigits_length u) Hsrc.out ?c1 hB2 ?_)
  case c1 => omega
  intro v3 w3 hs3 hb3
  have Hs3 := Lib.hid hs3
  clear hs3
  go_wp2_with fail
  go_ret
  exact ⟨_, rfl, Hs3.out, (hb2.mono hB).trans hb3⟩

theorem uint_any (B u : Nat) (hu64 : u < 18446744073709551616) (v : Value) (xs : List UInt8) (w : World) (h : Seg w B v xs) (hB : B ≤ w.heap.size) (hlim : xs.length + 20 ≤ 140737488355328) (ht : Tab B w) :
    Calls Tryz.prog 94 #[v, .int .u64 u, .int .i64 10] w (SegPost B w (xs ++ Lib.decDigits u)) := by
  by_cases hu : u < 100
  · exact uint_small B u hu v xs w h hB hlim
  · exact uint_big B u (by omega) hu64 v xs w h hB hlim ht

set_option maxHeartbeats 4000000 in
set_option maxRecDepth 100000 in
theorem int_any (B : Nat) (i : Int) (h0 : -9223372036854775808 ≤ i) (h1 : i ≤ 9223372036854775807) (v : Value) (xs : List UInt8) (w : World) (h : Seg w B v xs) (hB : B ≤ w.heap.size) (hlim : xs.length + 21 ≤ 140737488355328) (ht : Tab B w) :
    Calls Tryz.prog 69 #[v, .int .i64 i, .int .i64 10] w (SegPost B w (xs ++ Lib.itoa i)) := by
  have H := Lib.hid h; clear h
  have Ht := Lib.hid ht; clear ht
  by_cases hneg : i < 0
  · obtain ⟨u, rfl⟩ : ∃ u : Nat, i = -(u : Int) := ⟨i.natAbs, by omega⟩
    have hu1 : 1 ≤ u := by omega
    have hu64 : u < 18446744073709551616 := by omega
    have hwr : IntKind.u64.wrap (-IntKind.u64.wrap (-(u : Int))) = (u : Int) := by rw [IntKind.wrap_u64, IntKind.wrap_u64]; omega
    rw [Lib.itoa_neg u hu1]
    go_enter Tryz.func69, Tryz.ntmps69
    go_wp2_with (at_builtin; refine wpList_append_seg _ rfl _ _ 42 rfl rfl (H.out.keep ((Below.refl _ _).alloc (Nat.le_refl _) _)) _ rfl 1 [45] rfl (src_one w _ rfl 45) ?c1 ?c2 ?_)
    case c1 => simp only [List.length_cons, List.length_nil]; omega
    case c2 => simp; omega
    intro v1 w1 hs1 hb1
    have hb2 : Below B w w1 := ((Below.refl B w).alloc hB _).trans hb1
    have Hs1 := Lib.hid hs1
    have hB1 : B ≤ w1.heap.size := Nat.le_trans hB hb2.size
    clear hs1 hb1
    go_wp2_with fail
    refine (uint_any B u hu64 v1 (xs ++ [45]) w1 Hs1.out hB1 (by rw [List.length_append]; simp only [List.length_cons, List.length_nil]; omega) (Ht.out.on hb2)).mono ?_
    rintro e w2 ⟨v2, rfl, hs2, hb3⟩
    have Hs2 := Lib.hid hs2; clear hs2
    go_wp2_with fail
    go_ret
    exact ⟨_, rfl, by have := Hs2.out; rwa [List.append_assoc] at this, hb2.trans hb3⟩
  · obtain ⟨u, rfl⟩ : ∃ u : Nat, i = u := ⟨i.toNat, by omega⟩
    have hu64 : u < 18446744073709551616 := by omega
    rw [Lib.itoa_nonneg]
    go_enter Tryz.func69, Tryz.ntmps69
    go_wp2_with fail
    refine (uint_any B u hu64 v xs w H.out hB (by omega) Ht.out).mono ?_
    rintro e w2 ⟨v2, rfl, hs2, hb3⟩
    have Hs2 := Lib.hid hs2; clear hs2
    go_wp2_with fail
    go_ret
    exact ⟨_, rfl, Hs2.out, hb3⟩

set_option maxHeartbeats 4000000 in
theorem appendInt_any (B : Nat) (i : Int) (h0 : -9223372036854775808 ≤ i) (h1 : i ≤ 9223372036854775807) (v : Value) (xs : List UInt8) (w : World) (h : Seg w B v xs) (hB : B ≤ w.heap.size) (hlim : xs.length + 21 ≤ 140737488355328) (ht : Tab B w) :
    Calls Tryz.prog 40 #[v, .int .i64 i, .int .i64 10] w (SegPost B w (xs ++ Lib.itoa i)) := by
  have H := Lib.hid h; clear h
  have Ht := Lib.hid ht; clear ht
  go_enter Tryz.func40, Tryz.ntmps40
  go_wp2_with fail
  refine (int_any B i h0 h1 v xs w H.out hB hlim Ht.out).mono ?_
  rintro e w2 ⟨v2, rfl, hs2, hb3⟩
  have Hs2 := Lib.hid hs2; clear hs2
  go_wp2_with fail
  go_ret
  exact ⟨_, rfl, Hs2.out, hb3⟩

end Num
end Go.Proofs.YtinjaopgnlpncaaGreatDoor
