/-
  The document's own escape, the other cases.
-/
import Derived.Test.YtddldddehgnobaaDoorStrRefEsc
import Derived.RegionTactic
import Derived.BigRegion
namespace Go.Proofs.YtddldddehgnobaaDoor
namespace Str
open Go.RowKit

/-- The function's own two blocks: what it hands back, and the part at hand. -/
structure PB (w0 W : World) (f t : Int) (v : Value) (ch : Int) : Prop where
  res : W.heap[w0.heap.size]? = some (.cells #[.int .i64 0, .int .i64 0, .slice none 0 0, .int .i64 0] 56)
  part : W.heap[w0.heap.size + 1]? = some (.cells #[.int .i64 f, .int .i64 t, v, .int .i64 ch] 56)
  below : Below w0.heap.size w0 W
theorem PB.start (w : World) (f t : Int) (v : Value) (ch : Int) : PB w ((w.alloc (.cells #[.int .i64 0, .int .i64 0, .slice none 0 0, .int .i64 0] 56)).alloc (.cells #[.int .i64 f, .int .i64 t, v, .int .i64 ch] 56)) f t v ch :=
  ⟨blk_a w _ _, blk_b w _ _, ((Below.refl _ _).alloc (Nat.le_refl _) _).alloc (by simp) _⟩
theorem PB.keep {w0 W W' : World} {f t : Int} {v : Value} {ch : Int} (h : PB w0 W f t v ch) (hb : Below W.heap.size W W') : PB w0 W' f t v ch :=
  ⟨blk_keep h.res hb, blk_keep h.part hb, h.below.trans (hb.mono h.below.size)⟩
theorem PB.setTo {w0 W : World} {f t : Int} {v : Value} {ch : Int} (h : PB w0 W f t v ch) (t' : Int) : PB w0 (W.setCell ⟨w0.heap.size + 1, 1, none⟩ (.int .i64 t')) f t' v ch := by
  refine ⟨?_, ?_, h.below.setCell (by simp) _⟩
  · rw [Below.heap_setCell _ _ _ _ (by simp)]; exact h.res
  · show (W.heap.modify (w0.heap.size + 1) _)[w0.heap.size + 1]? = _
    rw [Array.getElem?_modify, if_pos rfl, h.part]; rfl
theorem PB.sizes {w0 W : World} {f t : Int} {v : Value} {ch : Int} (h : PB w0 W f t v ch) : w0.heap.size + 1 < W.heap.size := heap_lt h.part
theorem PB.a {w0 W : World} {f t : Int} {v : Value} {ch : Int} (h : PB w0 W f t v ch) :
    W.cell? ⟨w0.heap.size, 0, none⟩ = some (.int .i64 0) ∧ W.cell? ⟨w0.heap.size, 1, none⟩ = some (.int .i64 0) ∧ W.cell? ⟨w0.heap.size, 2, none⟩ = some (.slice none 0 0) ∧ W.cell? ⟨w0.heap.size, 3, none⟩ = some (.int .i64 0) :=
  ⟨blk_cell h.res 0, blk_cell h.res 1, blk_cell h.res 2, blk_cell h.res 3⟩
theorem PB.b {w0 W : World} {f t : Int} {v : Value} {ch : Int} (h : PB w0 W f t v ch) :
    W.cell? ⟨w0.heap.size + 1, 0, none⟩ = some (.int .i64 f) ∧ W.cell? ⟨w0.heap.size + 1, 1, none⟩ = some (.int .i64 t) ∧ W.cell? ⟨w0.heap.size + 1, 2, none⟩ = some v ∧ W.cell? ⟨w0.heap.size + 1, 3, none⟩ = some (.int .i64 ch) :=
  ⟨blk_cell h.part 0, blk_cell h.part 1, blk_cell h.part 2, blk_cell h.part 3⟩
theorem PB.fa {w0 W : World} {f t : Int} {v : Value} {ch : Int} (h : PB w0 W f t v ch) (o : Nat) : W.frozen? ⟨w0.heap.size, o, none⟩ = false := blk_frozen h.res o
theorem PB.fb {w0 W : World} {f t : Int} {v : Value} {ch : Int} (h : PB w0 W f t v ch) (o : Nat) : W.frozen? ⟨w0.heap.size + 1, o, none⟩ = false := blk_frozen h.part o

set_option maxHeartbeats 8000000 in
set_option maxRecDepth 20000 in
theorem resc_end (s : ByteArray) (i : Nat) (w : World) (hz : s.size ≤ 16777216) (hi : i < s.size) (hlt : ¬ i + 1 < s.size) :
    Calls Tryd.prog 32 #[.string s, .int .i64 i] w (PartAt i ((escL (sufL s (i + 1))).1 + 1, (escL (sufL s (i + 1))).2) (headV (sufL s (i + 1))) w) := by
  have hm : s.size ≤ maxLen := by unfold maxLen; omega
  have Ex : Hid (escL (sufL s (i + 1)) = (0, none)) := Lib.hid (by rw [suf_nil s (i + 1) hlt]; rfl)
  have hsz : (s.size : Int) = (i : Int) + 1 := by omega
  have HS := Lib.hid hsz
  clear hsz
  go_enter Tryd.func32, Tryd.ntmps32
  go_wp2_with fail
  refine bodyPost_ret (v := .tuple #[.agg #[.int .i64 i, .int .i64 (s.size), .slice none 0 0, .int .i64 0], .bool false]) ?_ rfl ⟨none, 0, 0, 0, ?_, ?_, ?_⟩
  · simp [results, Tryd.results32, go_sem]
  · rw [Ex.out]; exact agg_eq (by simp; have := HS.out; omega) rfl
  · rw [Ex.out]; intro val h; cases h
  · exact ((Below.refl _ _).alloc (Nat.le_refl _) _).alloc (by simp) _

set_option maxHeartbeats 8000000 in
set_option maxRecDepth 20000 in
theorem resc_9 (s : ByteArray) (i : Nat) (w : World) (hz : s.size ≤ 16777216) (hlt : i + 1 < s.size) (c : Nat) (hc : (s[i + 1]'hlt).toNat = c) (h9 : 49 ≤ c ∧ c ≤ 57) :
    Calls Tryd.prog 32 #[.string s, .int .i64 i] w (PartAt i ((escL (sufL s (i + 1))).1 + 1, (escL (sufL s (i + 1))).2) (headV (sufL s (i + 1))) w) := by
  have hm : s.size ≤ maxLen := by unfold maxLen; omega
  have hh := headV_at s (i + 1) hlt
  rw [hc] at hh
  have Ex : Hid (escL (sufL s (i + 1)) = (0, none)) := Lib.hid (esc_9 _ (by rw [hh]; omega))
  have e1 : ((c : Int) == 120) = false := beq_eq_false_iff_ne.2 (by omega)
  have e2 : ((c : Int) == 117) = false := beq_eq_false_iff_ne.2 (by omega)
  have e3 : ((c : Int) == 48) = false := beq_eq_false_iff_ne.2 (by omega)
  have g1 : (49 : Int) ≤ (c : Int) := by omega
  have g2 : (c : Int) ≤ 57 := by omega
  clear hh h9
  go_enter Tryd.func32, Tryd.ntmps32
  go_wp2_with fail
  refine bodyPost_ret (v := .tuple #[.agg #[.int .i64 i, .int .i64 ((i : Int) + 1), .slice none 0 0, .int .i64 0], .bool false]) ?_ rfl ⟨none, 0, 0, 0, ?_, ?_, ?_⟩
  · simp [results, Tryd.results32, go_sem]
  · rw [Ex.out]; exact agg_eq (by simp; try omega) rfl
  · rw [Ex.out]; intro val h; cases h
  · exact ((Below.refl _ _).alloc (Nat.le_refl _) _).alloc (by simp) _

/-- The world behind the part of a zero. -/
theorem zero_world (w : World) (i : Nat) : ∃ W, ((w.alloc (.cells #[.int .i64 0, .int .i64 0, .slice none 0 0, .int .i64 0] 56)).alloc (.cells #[.int .i64 i, .int .i64 ((i : Int) + 2), .slice (some ⟨w.heap.size + 1 + 1, 0, none⟩) 1 1, .int .i64 0] 56)).alloc (.cells #[.int .i64 0] 3) = W ∧
    PB w W i ((i : Int) + 2) (.slice (some ⟨w.heap.size + 1 + 1, 0, none⟩) 1 1) 0 ∧ IntsAt W (.slice (some ⟨w.heap.size + 1 + 1, 0, none⟩) 1 1) [0] :=
  ⟨_, rfl, (PB.start w i ((i : Int) + 2) (.slice (some ⟨w.heap.size + 1 + 1, 0, none⟩) 1 1) 0).keep ((Below.refl _ _).alloc (Nat.le_refl _) _), ints_new _ [(0 : Int)] _ (by simp)⟩

set_option maxHeartbeats 8000000 in
set_option maxRecDepth 20000 in
theorem resc_0a (s : ByteArray) (i : Nat) (w : World) (_hz : s.size ≤ 16777216) (hlt : i + 1 < s.size) (hc : (s[i + 1]'hlt).toNat = 48) (h2 : i + 2 < s.size) (hd : ((s[i + 2]'h2).toNat : Int) < 48) :
    Calls Tryd.prog 32 #[.string s, .int .i64 i] w (PartAt i ((escL (sufL s (i + 1))).1 + 1, (escL (sufL s (i + 1))).2) (headV (sufL s (i + 1))) w) := by
  have hh := headV_at s (i + 1) hlt
  rw [hc] at hh
  have Ex : Hid (escL (sufL s (i + 1)) = (1, some 0)) := Lib.hid (by
    rw [esc_0 _ (by rw [hh]; rfl), suf_tail s (i + 1) hlt, digHead_iff, headV_at s (i + 2) h2, decide_eq_false (by omega : ¬ (48 : Int) ≤ ((s[i + 2]'h2).toNat : Int))]; rfl)
  have HQ : Hid (((0 : Int) = 39 ↔ headV (sufL s (i + 1)) = 39) ∧ ((0 : Int) = 34 ↔ headV (sufL s (i + 1)) = 34)) := Lib.hid (quotes0 _ (by rw [hh]; decide) (by rw [hh]; decide))
  clear hh
  have k1 : decide ((s.size : Int) ≤ (i : Int) + 2) = false := decide_eq_false (by omega)
  have k3 : (i : Int) + 2 < (s.size : Int) := by omega
  have k4 : (0 : Int) ≤ (i : Int) + 2 := by omega
  have k2 : decide (((s[i + 2]'h2).toNat : Int) < 48) = true := decide_eq_true hd
  go_enter Tryd.func32, Tryd.ntmps32
  go_upto_region 26 with fail
  obtain ⟨W, hW, hPB, hI⟩ := zero_world w i
  rw [hW]
  have HPB := Lib.hid hPB
  have HI := Lib.hid hI
  obtain ⟨a0, a1, a2, a3⟩ := hPB.a
  obtain ⟨b0, b1, b2, b3⟩ := hPB.b
  have fa := fun o => hPB.fa o
  have fb := fun o => hPB.fb o
  clear hPB hI hW
  go_region
  go_wp2_with fail
  refine bodyPost_ret (v := .tuple #[.agg #[.int .i64 i, .int .i64 ((i : Int) + 2), .slice (some ⟨w.heap.size + 1 + 1, 0, none⟩) 1 1, .int .i64 0], .bool true]) ?_ rfl ⟨some ⟨w.heap.size + 1 + 1, 0, none⟩, 1, 1, 0, ?_, ?_, ?_⟩
  · simp [results, Tryd.results32, go_sem, a0, a1, a2, a3]
  · rw [Ex.out]; exact agg_eq (by simp; try omega) rfl
  · rw [Ex.out]; intro val h
    obtain rfl : (0 : Int) = val := by simpa using h
    refine ⟨?_, HQ.out⟩
    have na := NotInt.of HPB.out.res (by decide)
    exact (((HI.out.setP na _).setP (na.set _ _) _).setP ((na.set _ _).set _ _) _).setP (((na.set _ _).set _ _).set _ _) _
  · exact ((((HPB.out.below.setCell (by simp) _).setCell (by simp) _).setCell (by simp) _).setCell (by simp) _).drew

set_option maxHeartbeats 8000000 in
set_option maxRecDepth 20000 in
theorem resc_0b (s : ByteArray) (i : Nat) (w : World) (_hz : s.size ≤ 16777216) (hlt : i + 1 < s.size) (hc : (s[i + 1]'hlt).toNat = 48) (h2 : i + 2 < s.size) (hd : (57 : Int) < ((s[i + 2]'h2).toNat : Int)) :
    Calls Tryd.prog 32 #[.string s, .int .i64 i] w (PartAt i ((escL (sufL s (i + 1))).1 + 1, (escL (sufL s (i + 1))).2) (headV (sufL s (i + 1))) w) := by
  have hh := headV_at s (i + 1) hlt
  rw [hc] at hh
  have Ex : Hid (escL (sufL s (i + 1)) = (1, some 0)) := Lib.hid (by
    rw [esc_0 _ (by rw [hh]; rfl), suf_tail s (i + 1) hlt, digHead_iff, headV_at s (i + 2) h2, decide_eq_false (by omega : ¬ ((s[i + 2]'h2).toNat : Int) ≤ 57), Bool.and_false]; rfl)
  have HQ : Hid (((0 : Int) = 39 ↔ headV (sufL s (i + 1)) = 39) ∧ ((0 : Int) = 34 ↔ headV (sufL s (i + 1)) = 34)) := Lib.hid (quotes0 _ (by rw [hh]; decide) (by rw [hh]; decide))
  clear hh
  have k1 : decide ((s.size : Int) ≤ (i : Int) + 2) = false := decide_eq_false (by omega)
  have k3 : (i : Int) + 2 < (s.size : Int) := by omega
  have k4 : (0 : Int) ≤ (i : Int) + 2 := by omega
  have k2 : decide (((s[i + 2]'h2).toNat : Int) < 48) = false := decide_eq_false (by omega)
  have k5 : decide ((57 : Int) < ((s[i + 2]'h2).toNat : Int)) = true := decide_eq_true hd
  go_enter Tryd.func32, Tryd.ntmps32
  go_upto_region 26 with fail
  obtain ⟨W, hW, hPB, hI⟩ := zero_world w i
  rw [hW]
  have HPB := Lib.hid hPB
  have HI := Lib.hid hI
  obtain ⟨a0, a1, a2, a3⟩ := hPB.a
  obtain ⟨b0, b1, b2, b3⟩ := hPB.b
  have fa := fun o => hPB.fa o
  have fb := fun o => hPB.fb o
  clear hPB hI hW
  go_region
  go_wp2_with fail
  refine bodyPost_ret (v := .tuple #[.agg #[.int .i64 i, .int .i64 ((i : Int) + 2), .slice (some ⟨w.heap.size + 1 + 1, 0, none⟩) 1 1, .int .i64 0], .bool true]) ?_ rfl ⟨some ⟨w.heap.size + 1 + 1, 0, none⟩, 1, 1, 0, ?_, ?_, ?_⟩
  · simp [results, Tryd.results32, go_sem, a0, a1, a2, a3]
  · rw [Ex.out]; exact agg_eq (by simp; try omega) rfl
  · rw [Ex.out]; intro val h
    obtain rfl : (0 : Int) = val := by simpa using h
    refine ⟨?_, HQ.out⟩
    have na := NotInt.of HPB.out.res (by decide)
    exact (((HI.out.setP na _).setP (na.set _ _) _).setP ((na.set _ _).set _ _) _).setP (((na.set _ _).set _ _).set _ _) _
  · exact ((((HPB.out.below.setCell (by simp) _).setCell (by simp) _).setCell (by simp) _).setCell (by simp) _).drew

set_option maxHeartbeats 8000000 in
set_option maxRecDepth 20000 in
theorem resc_0c (s : ByteArray) (i : Nat) (w : World) (_hz : s.size ≤ 16777216) (hlt : i + 1 < s.size) (hc : (s[i + 1]'hlt).toNat = 48) (h2 : i + 2 < s.size) (hd : (48 : Int) ≤ ((s[i + 2]'h2).toNat : Int)) (hd2 : ((s[i + 2]'h2).toNat : Int) ≤ 57) :
    Calls Tryd.prog 32 #[.string s, .int .i64 i] w (PartAt i ((escL (sufL s (i + 1))).1 + 1, (escL (sufL s (i + 1))).2) (headV (sufL s (i + 1))) w) := by
  have hh := headV_at s (i + 1) hlt
  rw [hc] at hh
  have Ex : Hid (escL (sufL s (i + 1)) = (1, none)) := Lib.hid (by
    rw [esc_0 _ (by rw [hh]; rfl), suf_tail s (i + 1) hlt, digHead_iff, headV_at s (i + 2) h2, decide_eq_true hd, decide_eq_true hd2]; rfl)
  have HQ : Hid (((0 : Int) = 39 ↔ headV (sufL s (i + 1)) = 39) ∧ ((0 : Int) = 34 ↔ headV (sufL s (i + 1)) = 34)) := Lib.hid (quotes0 _ (by rw [hh]; decide) (by rw [hh]; decide))
  clear hh
  have k1 : decide ((s.size : Int) ≤ (i : Int) + 2) = false := decide_eq_false (by omega)
  have k3 : (i : Int) + 2 < (s.size : Int) := by omega
  have k4 : (0 : Int) ≤ (i : Int) + 2 := by omega
  have k2 : decide (((s[i + 2]'h2).toNat : Int) < 48) = false := decide_eq_false (by omega)
  have k5 : decide ((57 : Int) < ((s[i + 2]'h2).toNat : Int)) = false := decide_eq_false (by omega)
  go_enter Tryd.func32, Tryd.ntmps32
  go_upto_region 26 with fail
  obtain ⟨W, hW, hPB, hI⟩ := zero_world w i
  rw [hW]
  have HPB := Lib.hid hPB
  have HI := Lib.hid hI
  obtain ⟨a0, a1, a2, a3⟩ := hPB.a
  obtain ⟨b0, b1, b2, b3⟩ := hPB.b
  have fa := fun o => hPB.fa o
  have fb := fun o => hPB.fb o
  clear hPB hI hW
  go_region
  go_wp2_with fail
  refine bodyPost_ret (v := .tuple #[.agg #[.int .i64 i, .int .i64 ((i : Int) + 2), .slice (some ⟨w.heap.size + 1 + 1, 0, none⟩) 1 1, .int .i64 0], .bool false]) ?_ rfl ⟨some ⟨w.heap.size + 1 + 1, 0, none⟩, 1, 1, 0, ?_, ?_, ?_⟩
  · simp [results, Tryd.results32, go_sem, a0, a1, a2, a3]
  · rw [Ex.out]; exact agg_eq (by simp; try omega) rfl
  · rw [Ex.out]; intro val h; cases h
  · exact ((((HPB.out.below.setCell (by simp) _).setCell (by simp) _).setCell (by simp) _).setCell (by simp) _).drew

set_option maxHeartbeats 8000000 in
set_option maxRecDepth 20000 in
theorem resc_0d (s : ByteArray) (i : Nat) (w : World) (_hz : s.size ≤ 16777216) (hlt : i + 1 < s.size) (hc : (s[i + 1]'hlt).toNat = 48) (h2 : ¬ i + 2 < s.size) :
    Calls Tryd.prog 32 #[.string s, .int .i64 i] w (PartAt i ((escL (sufL s (i + 1))).1 + 1, (escL (sufL s (i + 1))).2) (headV (sufL s (i + 1))) w) := by
  have hh := headV_at s (i + 1) hlt
  rw [hc] at hh
  have Ex : Hid (escL (sufL s (i + 1)) = (1, some 0)) := Lib.hid (by
    rw [esc_0 _ (by rw [hh]; rfl), suf_tail s (i + 1) hlt, digHead_iff, suf_nil s (i + 2) h2]; rfl)
  have HQ : Hid (((0 : Int) = 39 ↔ headV (sufL s (i + 1)) = 39) ∧ ((0 : Int) = 34 ↔ headV (sufL s (i + 1)) = 34)) := Lib.hid (quotes0 _ (by rw [hh]; decide) (by rw [hh]; decide))
  clear hh
  have k1 : decide ((s.size : Int) ≤ (i : Int) + 2) = true := decide_eq_true (by omega)
  go_enter Tryd.func32, Tryd.ntmps32
  go_upto_region 26 with fail
  obtain ⟨W, hW, hPB, hI⟩ := zero_world w i
  rw [hW]
  have HPB := Lib.hid hPB
  have HI := Lib.hid hI
  obtain ⟨a0, a1, a2, a3⟩ := hPB.a
  obtain ⟨b0, b1, b2, b3⟩ := hPB.b
  have fa := fun o => hPB.fa o
  have fb := fun o => hPB.fb o
  clear hPB hI hW
  go_region
  go_wp2_with fail
  refine bodyPost_ret (v := .tuple #[.agg #[.int .i64 i, .int .i64 ((i : Int) + 2), .slice (some ⟨w.heap.size + 1 + 1, 0, none⟩) 1 1, .int .i64 0], .bool true]) ?_ rfl ⟨some ⟨w.heap.size + 1 + 1, 0, none⟩, 1, 1, 0, ?_, ?_, ?_⟩
  · simp [results, Tryd.results32, go_sem, a0, a1, a2, a3]
  · rw [Ex.out]; exact agg_eq (by simp; try omega) rfl
  · rw [Ex.out]; intro val h
    obtain rfl : (0 : Int) = val := by simpa using h
    refine ⟨?_, HQ.out⟩
    have na := NotInt.of HPB.out.res (by decide)
    exact (((HI.out.setP na _).setP (na.set _ _) _).setP ((na.set _ _).set _ _) _).setP (((na.set _ _).set _ _).set _ _) _
  · exact ((((HPB.out.below.setCell (by simp) _).setCell (by simp) _).setCell (by simp) _).setCell (by simp) _).drew

end Str
end Go.Proofs.YtddldddehgnobaaDoor
