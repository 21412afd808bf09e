/-
  The contract of lex.Next where nothing is skipped: within a template.
-/
import Derived.Test.YtggibhlmnfodaaaDoorLexNext
namespace Go.Proofs.YtggibhlmnfodaaaDoor
namespace Lex
open Go.RowKit
open Str (lenL runeL)

set_option maxHeartbeats 8000000 in
set_option maxRecDepth 100000 in
theorem next_tail (s : ByteArray) (n : Nat) (hn : n ≤ s.size) (w : World) (hs : s.size ≤ 4194304) (hT : Tabs w.heap.size w) (hp : pre [125] (Str.sufL s n) = true) :
    Calls Tryd.prog 7 #[.string s, .int .i64 (n : Nat), .int .i64 3] w (PostX s w (nextP 3 (decide (n = 0)) (Str.sufL s n))) := by
  obtain ⟨gr, hgr⟩ : ∃ l, Str.sufL s n = l := ⟨_, rfl⟩
  have hrd := rd_new s n hn hs w hT
  have hb := two_below s n w
  have hsz := two_size s n w
  have hz := zero_at s n w
  rw [hgr] at hrd
  have HA : Hid (atS s gr = n) := Lib.hid (by rw [← hgr, atS, Str.suf_len]; omega)
  obtain ⟨R, hR⟩ : ∃ R, nextP 3 (decide (n = 0)) (Str.sufL s n) = R := ⟨_, rfl⟩
  rw [hR]
  have HNx : Hid (R = ansP ⟨0, false, [], gr⟩ (tokenP 3 gr)) := Lib.hid (by rw [← hR, hgr]; rfl)
  have hsuf := hrd.suf
  rw [hgr] at hp
  have Hp := Lib.hid hp
  have HRd := Lib.hid hrd
  have HB := Lib.hid hb
  have HZ := Lib.hid hz
  have Hsz := Lib.hid hsz
  have hat : n ≤ s.size := hn
  have HC : Hid (chL gr = 125) := Lib.hid (by
    rw [pre_one 125 gr (by decide)] at hp
    exact of_decide_eq_true hp)
  clear hrd hb hsz hz hT hR hgr hp
  go_enter Tryd.func7, Tryd.ntmps7
  go_wp2_with fail
  refine (follows_any ⟨w.heap.size, w.heap.size + 1, s⟩ gr ⟨#[125]⟩ true Hp.out _ HRd.out).mono ?_
  rintro e w2 ⟨rfl, h2, hb2⟩
  have hsz2 : w.heap.size + 2 ≤ w2.heap.size := by have := hb2.size; rw [Hsz.out] at this; exact this
  have hb3 : Below w2.heap.size w2 (w2.alloc gapObj) := (Below.refl _ _).alloc (Nat.le_refl _) _
  have hB2 : Below w.heap.size w w2 := HB.out.trans (hb2.mono HB.out.size)
  have HR3 := Lib.hid (h2.on hb3)
  have HB3 := Lib.hid (hB2.trans (hb3.mono hB2.size))
  have HZ3 : Hid ((w2.alloc gapObj).heap[w.heap.size]? = some zeroObj) := Lib.hid ((hb3.block _ (by omega)).trans ((hb2.block _ (by rw [Hsz.out]; omega)).trans HZ.out))
  have HG3 := Lib.hid (gp_new s w w2 hB2 hsz2)
  have HC3 : Hid (ComsAt ⟨w.heap.size, w.heap.size + 1, s⟩ (w2.heap.size + 1) (.slice none 0 0) [] (w2.alloc gapObj)) := Lib.hid (World.ownsRow_nil _ _ _ _)
  obtain ⟨v, hv⟩ : ∃ v, Value.slice none 0 0 = v := ⟨_, rfl⟩
  rw [hv] at HG3 HC3
  have q0 : (w2.alloc gapObj).cell? ⟨w.heap.size + 1, 0, none⟩ = some (.int .i64 (n : Nat)) := by
    have := HR3.out.cell0
    rw [← HA.out]; exact this
  clear h2 hb2 hb3 hB2 hv HB HZ Hsz HRd
  go_wp2_with fail
  refine (token_any ⟨w.heap.size, w.heap.size + 1, s⟩ gr 3 _ HR3.out (fun _ => HC.out)).mono ?_
  rintro e w4 hp
  obtain ⟨T, hT⟩ : ∃ T, tokenP 3 gr = T := ⟨_, rfl⟩
  have hTs := token_sf 3 gr
  have HNx2 : Hid (R = ansP ⟨0, false, [], gr⟩ T) := Lib.hid (by rw [← hT]; exact HNx.out)
  rw [hT] at hp hTs
  clear hT
  obtain ⟨tk, tc, tm⟩ := T
  obtain ⟨rfl, hr4, hb4⟩ := hp
  have hG4 := HG3.out.bar hb4
  have hC4 := HC3.out.bar hb4 (show w.heap.size + 1 < w2.heap.size + 1 by omega)
  have hB4 := HB3.out.trans (hb4.below (B := w.heap.size) (show w.heap.size ≤ w.heap.size + 1 by omega) HB3.out.size)
  have hz4 := (hb4.block w.heap.size (World.block_lt_of_cell? _ _ (five_cells HZ3.out).1.1) (show w.heap.size ≠ w.heap.size + 1 by omega)).trans HZ3.out
  have hlt4 := hG4.lt
  obtain ⟨A2, hA2⟩ : ∃ q, atS s tm = q := ⟨_, rfl⟩
  have hat2 : A2 ≤ s.size := by rw [← hA2]; exact Nat.sub_le _ _
  have hAA : n ≤ A2 := by rw [← hA2, ← HA.out]; have := (show tm <:+ gr from hTs).length_le; unfold atS; omega
  have r0 : w4.cell? ⟨w.heap.size + 1, 0, none⟩ = some (.int .i64 (A2 : Nat)) := by rw [← hA2]; exact hr4.cell0
  have p0 : w4.cell? ⟨w2.heap.size, 0, none⟩ = some v := hG4.cell0
  have p1 : w4.cell? ⟨w2.heap.size, 1, none⟩ = some (.bool false) := hG4.cell1
  have hup := extract_up ⟨w.heap.size, w.heap.size + 1, s⟩ hsuf (show tm <:+ gr from hTs).length_le
  have HX : Hid (s.extract n A2 = Str.ofL (upTo gr tm)) := Lib.hid (by
    rw [← hup, ofL_data, ← HA.out, ← hA2]; rfl)
  have HA2 := Lib.hid hA2
  have HC4 := Lib.hid hC4
  have HB4 := Lib.hid hB4
  have HZ4 := Lib.hid hz4
  have HTs := Lib.hid hTs
  obtain ⟨⟨c0, c1, c2, c3, c4⟩, f0, f1, f2, f3, f4⟩ := five_cells HZ4.out
  clear hr4 hb4 hG4 hC4 hB4 hz4 hup hA2 hTs q0 hsuf
  by_cases e2 : tc = 0
  · subst e2
    have r0' : (w4.alloc zeroObj).cell? ⟨w.heap.size + 1, 0, none⟩ = some (.int .i64 (A2 : Nat)) := (World.cell?_of_block (Below.heap_alloc _ _ _ (World.block_lt_of_cell? w4 _ r0))).trans r0
    have p0' : (w4.alloc zeroObj).cell? ⟨w2.heap.size, 0, none⟩ = some v := (World.cell?_of_block (Below.heap_alloc _ _ _ (World.block_lt_of_cell? w4 _ p0))).trans p0
    have p1' : (w4.alloc zeroObj).cell? ⟨w2.heap.size, 1, none⟩ = some (.bool false) := (World.cell?_of_block (Below.heap_alloc _ _ _ (World.block_lt_of_cell? w4 _ p1))).trans p1
    have hlt4' : w.heap.size < w4.heap.size := World.block_lt_of_cell? w4 _ c0
    go_wp2_with fail
    go_region
    rw [HX.out]
    have HRf : Hid (R = ⟨0, [], tk, gr, tm, false, []⟩) := Lib.hid (by rw [HNx2.out, ansP, if_pos rfl, if_pos rfl])
    have hk : ∀ (cs : Array Value), w4.grownBy (w4.alloc (.cells cs 26)).drew none := fun cs => grown_drew (World.grownBy_alloc _ _ _)
    generalize hw : World.drew _ = w5
    have hz5 : w5.heap[w.heap.size]? = some zeroObj := by rw [← hw]; exact ((hk _).block _ hlt4' (by simp)).trans HZ4.out
    have ht5 : w5.heap[w4.heap.size]? = some (.cells #[.int .i64 tk, .string (Str.ofL (upTo gr tm)), .int .i64 (n : Nat), .int .i64 (A2 : Nat), .bool false] 26) := by rw [← hw]; exact tok_new w4 _ _
    have p5 : w5.cell? ⟨w2.heap.size, 0, none⟩ = some v := by rw [← hw]; exact (World.cell?_of_block ((hk _).block _ (World.block_lt_of_cell? w4 _ p0) (by simp))).trans p0
    have hC5 : w5.ownsRow (w2.heap.size + 1) 33 4 v ([] : List Com).length (rowV ⟨w.heap.size, w.heap.size + 1, s⟩ []) := by rw [← hw]; exact HC4.out.kept (hk _) (by cases v.ownBlock <;> simp)
    have hB5 : Below w.heap.size w w5 := by rw [← hw]; exact (HB4.out.alloc (Nat.le_of_lt hlt4') _).drew
    clear hw hk r0' p0' p1' p0 p1 r0 c0 c1 c2 c3 c4 f0 f1 f2 f3 f4
    obtain ⟨⟨c0, c1, c2, c3, c4⟩, f0, f1, f2, f3, f4⟩ := five_cells hz5
    obtain ⟨⟨d0, d1, d2, d3, d4⟩, _⟩ := five_cells ht5
    have HZ5 := Lib.hid hz5
    have HC5 := Lib.hid hC5
    have HB5 := Lib.hid hB5
    clear hz5 hC5 hB5
    go_wp2_with fail
    go_region
    go_wp2_with fail
    refine bodyPost_ret (results_tok rfl _ (set5 w5 w.heap.size _ _ _ _ _).drew _ _ rfl (set5_at HZ5.out) rfl) rfl ?_
    rw [HRf.out]
    refine ⟨v, ?_, ?_, (set5_below HB5.out (Nat.le_refl _)).drew⟩
    · rw [tokV, if_pos rfl, placeV, if_pos rfl, tokOf]
      show _ = Ending.returned (.tuple #[.agg #[.int .i64 tk, .string (Str.ofL (upTo gr tm)), .int .i64 (atS s gr : Nat), .int .i64 (atS s tm : Nat), .bool false], v, .int .i64 0, .int .i64 0])
      rw [HA.out, HA2.out]
      rfl
    · have hl := World.ownsRow.lt HC5.out
      exact owns_low (HC5.out.kept (grown_drew (set5_grown w5 w.heap.size _ _ _ _ _)) (by
        cases hv : v.ownBlock with
        | none => exact Or.inl rfl
        | some q => exact Or.inr (fun e => by have := (hl q hv).1; injection e with e; omega))) (by omega)
  · have b2 : (tc != 0) = true := bne_iff_ne.2 e2
    have HRf : Hid (R = failA tc tm) := Lib.hid (by rw [HNx2.out, ansP, if_pos rfl, if_neg e2])
    have He2 := Lib.hid e2
    clear e2
    go_wp2_with fail
    go_region
    go_wp2_with fail
    refine bodyPost_ret (results_tok rfl _ (set5 w4 w.heap.size _ _ _ _ _).drew _ _ rfl (set5_at HZ4.out) rfl) rfl ?_
    rw [HRf.out]
    exact post_fail He2.out (by rw [placeV, if_neg (show (failA tc tm).code ≠ 0 from He2.out), ← HA2.out]; rfl) (set5_below HB4.out (Nat.le_refl _)).drew

end Lex
end Go.Proofs.YtggibhlmnfodaaaDoor
