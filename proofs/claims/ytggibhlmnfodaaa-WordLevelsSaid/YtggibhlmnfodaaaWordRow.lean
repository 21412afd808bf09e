/-
  The rows of operators as the document's side and the law build them; the document's levels.
-/
import Derived.Test.YtggibhlmnfodaaaWordHas
import Derived.WalkLawsBesides
namespace Go.Proofs.Ytggibhlmnfodaaa
namespace Word
open Go.RowKit
open Uni (ret_bool ret_int)

/-- The rows, each in a block of its own. -/
def pushRows : List (List (List UInt8)) → World → World
  | [], w => w
  | r :: t, w => pushRows t (w.alloc (.cells (r.map strV).toArray 9))
def rowsV (h : Nat) : List (List (List UInt8)) → List Value
  | [] => []
  | r :: t => .slice (some ⟨h, 0, none⟩) r.length r.length :: rowsV (h + 1) t
def layW (w : World) : World := (pushRows rowsL w).alloc (.cells (rowsV w.heap.size rowsL).toArray 31)

theorem cel_alloc {w : World} {a : Addr} {v : Value} (h : w.cell? a = some v) (o : Obj) : (w.alloc o).cell? a = some v := (World.cell?_of_block (Below.heap_alloc _ _ _ (World.block_lt_of_cell? w _ h))).trans h
theorem cel_on {w w' : World} {a : Addr} {v : Value} (h : w.cell? a = some v) (hb : Below w.heap.size w w') : w'.cell? a = some v := (hb.cell (World.block_lt_of_cell? w _ h)).trans h
theorem bel_alloc {w w' : World} (h : Below w.heap.size w w') (o : Obj) : Below w.heap.size w (w'.alloc o) := h.alloc h.size _
theorem bel_trans {w w' w'' : World} (h : Below w.heap.size w w') (k : Below w'.heap.size w' w'') : Below w.heap.size w w'' := h.trans (k.mono h.size)
theorem size_alloc (w : World) (o : Obj) : (w.alloc o).heap.size = w.heap.size + 1 := by show (w.heap.push _).size = _; simp

theorem push_old : ∀ (t : List (List (List UInt8))) (w : World) (a : Addr) (v : Value), w.cell? a = some v → (pushRows t w).cell? a = some v
  | [], _, _, _, h => h
  | _ :: t, _, _, _, h => push_old t _ _ _ (cel_alloc h _)
theorem push_size : ∀ (t : List (List (List UInt8))) (w : World), (pushRows t w).heap.size = w.heap.size + t.length
  | [], _ => rfl
  | r :: t, w => by rw [pushRows, push_size t, size_alloc, List.length_cons]; omega
theorem push_bel : ∀ (t : List (List (List UInt8))) (w v : World), Below w.heap.size w v → Below w.heap.size w (pushRows t v)
  | [], _, _, h => h
  | _ :: t, w, _, h => push_bel t w _ (bel_alloc h _)
theorem push_cell : ∀ (t : List (List (List UInt8))) (w : World) (i j : Nat), i < t.length → j < (t.getD i []).length → (pushRows t w).cell? ⟨w.heap.size + i, j, none⟩ = some (strV ((t.getD i []).getD j []))
  | [], _, _, _, h, _ => absurd h (Nat.not_lt_zero _)
  | r :: t, w, 0, j, _, hj => push_old t _ _ _ (built_str w r _ j hj)
  | r :: t, w, i + 1, j, h, hj => by
    have := push_cell t (w.alloc (.cells (r.map strV).toArray 9)) i j (by simpa using h) hj
    rw [size_alloc, show w.heap.size + 1 + i = w.heap.size + (i + 1) by omega] at this
    exact this
theorem rowsV_get : ∀ (t : List (List (List UInt8))) (h i : Nat), i < t.length → (rowsV h t)[i]? = some (.slice (some ⟨h + i, 0, none⟩) (t.getD i []).length (t.getD i []).length)
  | [], _, _, h => absurd h (Nat.not_lt_zero _)
  | r :: t, h, 0, _ => rfl
  | r :: t, h, i + 1, hi => by
    rw [rowsV, List.getElem?_cons_succ, rowsV_get t (h + 1) i (by simpa using hi), show h + 1 + i = h + (i + 1) by omega]
    rfl

/-- In block g stand the rows of operators. -/
def RowsAt (g : Nat) (w : World) : Prop := ∀ i, i < 12 → ∃ b, w.cell? ⟨g, i, none⟩ = some (.slice (some ⟨b, 0, none⟩) (rowsL.getD i []).length (rowsL.getD i []).length) ∧
  ∀ j, j < (rowsL.getD i []).length → w.cell? ⟨b, j, none⟩ = some (strV ((rowsL.getD i []).getD j []))
theorem RowsAt.on {g : Nat} {w w' : World} (h : RowsAt g w) (hb : Below w.heap.size w w') : RowsAt g w' := fun i hi =>
  let ⟨b, h1, h2⟩ := h i hi
  ⟨b, cel_on h1 hb, fun j hj => cel_on (h2 j hj) hb⟩
theorem lay_rows (w : World) : RowsAt (w.heap.size + 12) (layW w) := by
  intro i hi
  refine ⟨w.heap.size + i, ?_, fun j hj => cel_alloc (push_cell rowsL w i j hi hj) _⟩
  unfold layW
  rw [World.cell?_alloc_at _ _ _ _ (by rw [push_size]; rfl)]
  simpa using rowsV_get rowsL w.heap.size i hi
theorem lay_bel (w : World) : Below w.heap.size w (layW w) := bel_alloc (push_bel rowsL w w (Below.refl _ _)) _

set_option maxHeartbeats 1000000 in
theorem levels_any (w : World) :
    Calls Try.prog 22 #[] w fun e w' => e = .returned (.slice (some ⟨w.heap.size + 12, 0, none⟩) 12 12) ∧ w' = layW w := by
  go_enter Try.func22, Try.ntmps22
  go_wp2_with fail
  go_ret
  exact ⟨rfl, rfl⟩

theorem row_len : ∀ i, i < 12 → (rowsL.getD i []).length ≤ 1000 := by decide
theorem lev_drop (i : Nat) (h : i < 12) (x : List UInt8) : levF (rowsL.drop i) i x = if hasB (rowsL.getD i []) x = true then i + 1 else levF (rowsL.drop (i + 1)) (i + 1) x := by
  rw [drop_cons rowsL i h [], levF]

set_option maxHeartbeats 1000000 in
theorem rlevel_any (s : ByteArray) (w : World) :
    Calls Try.prog 11 #[.string s] w fun e w' => e = .returned (.int .i64 (levN s)) ∧ Below w.heap.size w w' := by
  go_enter Try.func11, Try.ntmps11
  go_wp2_with fail
  refine (levels_any w).mono ?_
  rintro e w1 ⟨rfl, rfl⟩
  have HR := Lib.hid (lay_rows w)
  have HB := Lib.hid (lay_bel w)
  generalize layW w = w1 at *
  generalize w.heap.size + 12 = g at *
  go_wp2_with fail
  go_loop [4] (fun i => ∃ k : Nat, k ≤ 12 ∧ i = .int .i64 k ∧ levN s = levF (rowsL.drop k) k s.data.toList) (fun i => 12 - (intOf i).toNat)
  case atStart => exact ⟨0, by omega, rfl, rfl⟩
  case round =>
    obtain ⟨k, hk, rfl, hs⟩ := hrel
    have Hs := Lib.hid hs; clear hs
    by_cases hlt : k < 12
    · obtain ⟨b, h1, h2⟩ := HR.out k hlt
      have Hd := Lib.hid (lev_drop k hlt s.data.toList)
      have Hh := Lib.hid (has_any s (rowsL.getD k []) b w1 (row_len k hlt) h2)
      generalize rowsL.getD k [] = r at h1 Hd Hh
      clear h2
      go_wp2_with fail
      refine Hh.out.mono ?_
      rintro e w2 ⟨rfl, rfl⟩
      cases hh : hasB r s.data.toList with
      | true =>
        have Hf : Hid (levN s = k + 1) := Lib.hid (by rw [Hs.out, Hd.out, if_pos hh])
        clear hh
        go_wp2_with fail
        go_ret
        exact ⟨ret_int (by rw [Hf.out]; rfl), HB.out⟩
      | false =>
        have Hf : Hid (levN s = levF (rowsL.drop (k + 1)) (k + 1) s.data.toList) := Lib.hid (by rw [Hs.out, Hd.out, hh]; rfl)
        clear hh
        go_wp2_with fail
        go_round
        case rel => exact ⟨k + 1, by omega, by go_num, Hf.out⟩
        case measure => simp [intOf]; omega
    · have Hf : Hid (levN s = 0) := Lib.hid (by rw [Hs.out, List.drop_eq_nil_of_le (by show 12 ≤ k; omega)]; rfl)
      go_wp2_with fail
      go_ret
      exact ⟨ret_int (by rw [Hf.out]; rfl), HB.out⟩

end Word
end Go.Proofs.Ytggibhlmnfodaaa
