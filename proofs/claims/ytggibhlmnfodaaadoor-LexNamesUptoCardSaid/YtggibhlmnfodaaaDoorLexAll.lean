/-
  The contract of lex.Next at every place, for every goal; what every law calls first.
-/
import Derived.Test.YtggibhlmnfodaaaDoorLexNext
import Derived.Test.YtggibhlmnfodaaaDoorLexNextB
import Derived.Test.YtggibhlmnfodaaaDoorLexNextC
namespace Go.Proofs.YtggibhlmnfodaaaDoor
namespace Lex
open Go.RowKit
open Str (lenL runeL)

theorem next_any (s : ByteArray) (i g : Int) (w : World) (hs : s.size ≤ 4194304) (hT : Tabs w.heap.size w) :
    Calls Tryd.prog 7 #[.string s, .int .i64 i, .int .i64 g] w (PostX s w (answer s i g)) := by
  by_cases h1 : i < 0 ∨ (s.size : Int) < i
  · rw [answer, if_pos h1]; exact next_place s i g h1 w hs
  · obtain ⟨n, rfl⟩ : ∃ n : Nat, i = n := ⟨i.toNat, by omega⟩
    have hn : n ≤ s.size := by omega
    rw [answer, if_neg h1, show ((n : Nat) : Int).toNat = n from rfl]
    cases hg : goalB g (Str.sufL s n) with
    | false => rw [if_pos rfl]; exact next_goal s n hn g w hs hT hg
    | true =>
      rw [if_neg (by decide)]
      obtain ⟨g1, g5, g3⟩ := goal_yes hg
      have hz : decide (((n : Nat) : Int) = 0) = decide (n = 0) := by simp
      rw [hz]
      by_cases e3 : g = 3
      · subst e3; exact next_tail s n hn w hs hT (g3 rfl)
      by_cases e4 : g = 4
      · subst e4; exact next_child s n hn w hs hT
      · exact next_skip s n hn g w hs hT g1 g5 e3 e4

theorem Tabs.below {w w' : World} (h : Tabs w.heap.size w) (hb : Below w.heap.size w w') : Tabs w'.heap.size w' := ⟨Nat.le_trans h.two hb.size, Nat.le_refl _, (h.on hb).utf⟩

theorem owns_cell {w : World} {H : Nat} {t : TypeId} {sz : Nat} {v : Value} {n : Nat} {xs : List Value} (h : w.ownsRow H t sz v n xs) {g : Nat} (hg : v.ownBlock = some g) {j : Nat} {u : Value} (hj : xs[j]? = some u) : w.cell? ⟨g, j, none⟩ = some u := by
  have hadd : (⟨g, 0, none⟩ : Addr).add j = ⟨g, j, none⟩ := by unfold Addr.add; split <;> simp_all
  rw [← hadd]
  exact World.ownsRow.cells h hg j u hj
theorem owns_form {w : World} {H : Nat} {t : TypeId} {sz : Nat} {v : Value} {n : Nat} {xs : List Value} (h : w.ownsRow H t sz v n xs) : ∃ ao cap, v = .slice ao n cap := by
  rcases h.2 with ⟨rfl, rfl⟩ | ⟨g, cap, cur, rfl, _⟩
  · exact ⟨_, _, rfl⟩
  · exact ⟨_, _, rfl⟩
/-- What a call leaves: the values, the row of comments. -/
def Left (s : ByteArray) (w : World) (a : Ans) (tv : Value) (pv c : Int) (n : Nat) (e : Ending) (w' : World) : Prop :=
  ∃ ao cap, e = .returned (.tuple #[tv, .slice ao n cap, .int .i64 pv, .int .i64 c]) ∧ w'.ownsRow w.heap.size 33 4 (.slice ao n cap) n (rowV (boxS s) a.coms) ∧ Below w.heap.size w w'
/-- A call whose answer is known. -/
theorem next_gen (s : ByteArray) (i g : Int) (a : Ans) (tv : Value) (pv c : Int) (n : Nat) (ha : answer s i g = a) (htv : tokV s a = tv) (hpv : placeV s a = pv) (hc : a.code = c) (hn : a.coms.length = n) (w : World) (hs : s.size ≤ 4194304) (hT : Tabs w.heap.size w) :
    Calls Tryd.prog 7 #[.string s, .int .i64 i, .int .i64 g] w (Left s w a tv pv c n) := by
  subst ha
  refine (next_any s i g w hs hT).mono ?_
  rintro e w' ⟨v, rfl, h1, h2⟩
  obtain ⟨ao, cap, rfl⟩ := owns_form h1
  rw [htv, hpv, hc, hn]
  rw [hn] at h1
  exact ⟨ao, cap, rfl, h1, h2⟩

/-- Blocks that stay. -/
theorem blk_alloc {w : World} {g : Nat} {o : Obj} (h : w.heap[g]? = some o) (o' : Obj) : (w.alloc o').heap[g]? = some o := (Below.heap_alloc _ _ _ (Array.getElem?_eq_some_iff.1 h).1).trans h
theorem blk_on {w w' : World} {g : Nat} {o : Obj} (h : w.heap[g]? = some o) (hb : Below w.heap.size w w') : w'.heap[g]? = some o := (hb.block g (Array.getElem?_eq_some_iff.1 h).1).trans h
theorem cel_alloc {w : World} {a : Addr} {v : Value} (h : w.cell? a = some v) (o : Obj) : (w.alloc o).cell? a = some v := (World.cell?_of_block (Below.heap_alloc _ _ _ (World.block_lt_of_cell? w _ h))).trans h
theorem cel_on {w w' : World} {a : Addr} {v : Value} (h : w.cell? a = some v) (hb : Below w.heap.size w w') : w'.cell? a = some v := (hb.cell (World.block_lt_of_cell? w _ h)).trans h
theorem bel_alloc {w w' : World} (h : Below w.heap.size w w') (o : Obj) : Below w.heap.size w (w'.alloc o) := h.alloc h.size _
theorem bel_trans {w w' w'' : World} (h : Below w.heap.size w w') (k : Below w'.heap.size w' w'') : Below w.heap.size w w'' := h.trans (k.mono h.size)

theorem num_any (n : Int) (w : World) : Calls Tryd.prog 8 #[.int .i64 n] w fun e w' => e = .returned (.int .i64 n) ∧ w = w' := by
  go_enter Tryd.func8, Tryd.ntmps8
  go_wp2_with fail
  go_ret
  exact ⟨rfl, rfl⟩

def aw1s : ByteArray := ⟨#[97, 32, 47, 42, 10, 42, 47, 32, 98]⟩
def aw1 : Ans := ⟨0, [], 1, [98], [], true, [⟨2, [47, 42, 10, 42, 47, 32, 98], [32, 98]⟩]⟩
theorem aw1_is : answer aw1s 1 1 = aw1 := by decide +kernel
theorem aw1_tok : tokV aw1s aw1 = .agg #[.int .i64 1, .string ⟨#[98]⟩, .int .i64 8, .int .i64 9, .bool true] := rfl
def aw2s : ByteArray := ⟨#[47, 97, 91, 47, 93, 47, 103]⟩
def aw2 : Ans := ⟨0, [], 6, [47, 97, 91, 47, 93, 47, 103], [], false, []⟩
theorem aw2_is : answer aw2s 0 2 = aw2 := by decide +kernel
theorem aw2_tok : tokV aw2s aw2 = .agg #[.int .i64 6, .string aw2s, .int .i64 0, .int .i64 7, .bool false] := rfl
def aw3s : ByteArray := ⟨#[51, 105, 110]⟩
def aw3 : Ans := ⟨503, [51, 105, 110], 0, [], [], false, []⟩
theorem aw3_tok : tokV aw3s aw3 = .agg #[.int .i64 0, .string ⟨#[]⟩, .int .i64 0, .int .i64 0, .bool false] := rfl
theorem aw3_is : answer aw3s 0 1 = aw3 := by decide +kernel

set_option maxHeartbeats 4000000 in
set_option maxRecDepth 20000 in
theorem awake_any (w : World) (hT : Tabs w.heap.size w) : Calls Tryd.prog 4 #[] w fun e w' => e = .returned (.bool true) ∧ Below w.heap.size w w' := by
  have HT := Lib.hid hT; clear hT
  go_enter Tryd.func4, Tryd.ntmps4
  go_wp2_with fail
  refine (next_gen aw1s 1 1 aw1 _ 0 0 1 aw1_is aw1_tok rfl rfl rfl _ (by decide) HT.out).mono ?_
  rintro e w1 ⟨ao, cap, rfl, hr1, hb1⟩
  obtain ⟨gg, cap', hv, _, hlt⟩ := hr1.form (by decide)
  injection hv with hv1 _ hv2
  subst hv1 hv2
  have k0 : w1.cell? ⟨gg, 0, none⟩ = some (.int .i64 2) := owns_cell hr1 (g := gg) rfl rfl
  have hB1 := bel_alloc hb1 (.cells #[.int .i64 1, .string ⟨#[98]⟩, .int .i64 8, .int .i64 9, .bool true] 26)
  have k1 := cel_alloc k0 (.cells #[.int .i64 1, .string ⟨#[98]⟩, .int .i64 8, .int .i64 9, .bool true] 26)
  have t1 := tok_new w1 #[.int .i64 1, .string ⟨#[98]⟩, .int .i64 8, .int .i64 9, .bool true] 26
  have HT1 := Lib.hid (HT.out.below hB1)
  clear hr1 k0 hb1
  go_wp2_with fail
  refine (next_gen aw2s 0 2 aw2 _ 0 0 0 aw2_is aw2_tok rfl rfl rfl _ (by decide) HT1.out).mono ?_
  rintro e w2 ⟨ao2, cap2, rfl, _, hb2⟩
  have hB2 := bel_alloc (bel_trans hB1 hb2) (.cells #[.int .i64 6, .string aw2s, .int .i64 0, .int .i64 7, .bool false] 26)
  have k2 := cel_alloc (cel_on k1 hb2) (.cells #[.int .i64 6, .string aw2s, .int .i64 0, .int .i64 7, .bool false] 26)
  have t2 := blk_alloc (blk_on t1 hb2) (.cells #[.int .i64 6, .string aw2s, .int .i64 0, .int .i64 7, .bool false] 26)
  have u2 := tok_new w2 #[.int .i64 6, .string aw2s, .int .i64 0, .int .i64 7, .bool false] 26
  have HT2 := Lib.hid (HT.out.below hB2)
  clear hB1 k1 t1 HT1
  go_wp2_with fail
  refine (next_gen aw3s 0 1 aw3 _ 0 503 0 aw3_is aw3_tok rfl rfl rfl _ (by decide) HT2.out).mono ?_
  rintro e w3 ⟨ao3, cap3, rfl, _, hb3⟩
  have HB3 := Lib.hid (bel_alloc (bel_trans hB2 hb3) zeroObj)
  have k3 := cel_alloc (cel_on k2 hb3) zeroObj
  obtain ⟨⟨c0, c1, c2, c3, c4⟩, _⟩ := five_cells (blk_alloc (blk_on t2 hb3) zeroObj)
  obtain ⟨⟨d0, d1, d2, d3, d4⟩, _⟩ := five_cells (blk_alloc (blk_on u2 hb3) zeroObj)
  clear hB2 k2 t2 u2 HT2 hb2 hb3
  go_wp2_with fail
  refine (num_any _ _).mono ?_
  rintro e w4 ⟨rfl, rfl⟩
  go_wp2_with fail
  refine (num_any _ _).mono ?_
  rintro e w4 ⟨rfl, rfl⟩
  go_wp2_with fail
  refine (num_any _ _).mono ?_
  rintro e w4 ⟨rfl, rfl⟩
  go_wp2_with fail
  go_ret
  exact ⟨rfl, HB3.out⟩

end Lex
end Go.Proofs.YtggibhlmnfodaaaDoor
