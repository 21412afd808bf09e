/-
  The law 'LexPieces': a token is a piece of the text, and read at its own place it is the same.
-/
import Derived.Test.YtfnilkhccomemaaDoorLexLawB
import Derived.Test.YtfnilkhccomemaaDoorLexPiecesT
namespace Go.Proofs.YtfnilkhccomemaaDoor
namespace Lex
open Go.RowKit
open Str (lenL runeL)

theorem coms_at : ∀ {l cs m}, ComsIn l cs m → ∀ (j : Nat) (c : Com), cs[j]? = some c → c.fr <:+ l ∧ c.to <:+ c.fr ∧ c.to.length < c.fr.length ∧ m <:+ c.to ∧ (∀ p, 0 < j → cs[j - 1]? = some p → c.fr <:+ p.to)
  | _, [], _, _, j, c, h => by simp at h
  | l, c0 :: cs, m, ⟨h1, h2, h3, h4⟩, 0, c, h => by
    obtain rfl : c0 = c := by simpa using h
    exact ⟨h1, h2, h3, h4.suf, fun p hp _ => absurd hp (by omega)⟩
  | l, c0 :: cs, m, ⟨h1, h2, h3, h4⟩, j + 1, c, h => by
    have h5 := coms_at h4 j c (by simpa using h)
    refine ⟨h5.1.trans (h2.trans h1), h5.2.1, h5.2.2.1, h5.2.2.2.1, fun p _ hp => ?_⟩
    cases j with
    | zero =>
      obtain rfl : c0 = p := by simpa using hp
      exact h5.1
    | succ j => exact h5.2.2.2.2 p (by omega) (by simpa using hp)
theorem coms_len : ∀ {l cs m}, ComsIn l cs m → cs.length ≤ l.length
  | _, [], _, _ => Nat.zero_le _
  | _, c :: cs, _, ⟨h1, _, h3, h4⟩ => by
    have := coms_len h4
    have := h1.length_le
    rw [List.length_cons]; omega
theorem row_at (K : Box) : ∀ (cs : List Com) (j : Nat) (c : Com) (q : Nat) (v : Value), cs[j]? = some c → (comV K c)[q]? = some v → (rowV K cs)[4 * j + q]? = some v
  | [], j, c, q, v, h, _ => by simp at h
  | c0 :: cs, 0, c, q, v, h, hv => by
    obtain rfl : c0 = c := by simpa using h
    have hq : q < (comV K c0).length := (List.getElem?_eq_some_iff.1 hv).1
    show (comV K c0 ++ rowV K cs)[4 * 0 + q]? = _
    rw [List.getElem?_append_left (by omega), show 4 * 0 + q = q by omega, hv]
  | c0 :: cs, j + 1, c, q, v, h, hv => by
    have h1 := row_at K cs j c q v (by simpa using h) hv
    show (comV K c0 ++ rowV K cs)[4 * (j + 1) + q]? = _
    have hl : (comV K c0).length = 4 := rfl
    rw [List.getElem?_append_right (by omega), hl, show 4 * (j + 1) + q - 4 = 4 * j + q by omega, h1]

theorem ans_err {s : ByteArray} {i g : Int} (h : (answer s i g).code ≠ 0) : (answer s i g).coms = [] := by
  unfold answer at h ⊢
  split
  · rfl
  split
  · rfl
  rename_i h1 h2
  rw [if_neg h1, if_neg h2] at h
  unfold nextP ansP at h ⊢
  split
  · split
    · rename_i h3 h4
      rw [if_pos h3, if_pos h4] at h
      exact absurd rfl h
    · rfl
  · rfl
theorem ans_in {s : ByteArray} {i g : Int} (h : (answer s i g).code = 0) : ∃ n : Nat, i = n ∧ n ≤ s.size ∧ goalB g (Str.sufL s n) = true ∧ answer s i g = nextP g (decide (n = 0)) (Str.sufL s n) := by
  unfold answer at h
  by_cases h1 : i < 0 ∨ (s.size : Int) < i
  · rw [if_pos h1] at h; exact absurd (show (500 : Int) = 0 from h) (by decide)
  rw [if_neg h1] at h
  by_cases h2 : goalB g (Str.sufL s i.toNat) = false
  · rw [if_pos h2] at h; exact absurd (show (501 : Int) = 0 from h) (by decide)
  refine ⟨i.toNat, by omega, by omega, by simpa using h2, ?_⟩
  unfold answer
  rw [if_neg h1, if_neg h2]
  have : decide (i = 0) = decide (i.toNat = 0) := by
    by_cases e : i = 0
    · rw [decide_eq_true e, decide_eq_true (by omega)]
    · rw [decide_eq_false e, decide_eq_false (by omega)]
  rw [this]
theorem suf_of (s : ByteArray) (m : List UInt8) (h : m <:+ s.data.toList) : Str.sufL s (atS s m) = m := suf_at h
/-- WHAT A TOKEN IS. -/
theorem pieces_ok (s : ByteArray) (i g : Int) (h : (answer s i g).code = 0) : ∃ (n : Nat) (tk : Int) (gr tm : List UInt8) (gl : Bool) (gcs : List Com), i = n ∧ n ≤ s.size ∧ answer s i g = ⟨0, [], tk, gr, tm, gl, gcs⟩ ∧ gr <:+ Str.sufL s n ∧ tm <:+ gr ∧ (tk = 0 → gr = []) ∧
    ComsIn (Str.sufL s n) gcs gr ∧ answer s (atS s gr : Nat) g = ⟨0, [], tk, gr, tm, false, []⟩ := by
  obtain ⟨n, rfl, hn, hg, ha⟩ := ans_in h
  have hsl : Str.sufL s n <:+ s.data.toList := List.drop_suffix _ _
  rw [ha] at h ⊢
  obtain ⟨G, hG⟩ : ∃ G, gapP g (decide (n = 0)) (Str.sufL s n) = G := ⟨_, rfl⟩
  have hgc : ComsIn (Str.sufL s n) G.coms G.rest ∧ (G.code = 0 → gapP g (decide (atS s G.rest = 0)) G.rest = ⟨0, false, [], G.rest⟩ ∧ goalB g G.rest = true) ∨ G.code ≠ 0 := by
    by_cases e : G.code = 0
    · left
      by_cases e34 : g = 3 ∨ g = 4
      · have : G = ⟨0, false, [], Str.sufL s n⟩ := by rw [← hG, gapP, if_pos e34]
        subst this
        exact ⟨List.suffix_refl _, fun _ => ⟨by rw [gapP, if_pos e34], hg⟩⟩
      · have hS : skip (decide (n = 0), false, []) (Str.sufL s n) = G := by rw [← hG, gapP, if_neg e34]
        have h1 := skip_coms (Str.sufL s n) (decide (n = 0), false, []) (Str.sufL s n) (List.suffix_refl _) (by rw [hS]; exact e)
        have h2 := skip_end (decide (n = 0), false, []) (Str.sufL s n) (by rw [hS]; exact e)
        rw [hS] at h1 h2
        refine ⟨h1, fun _ => ⟨?_, ?_⟩⟩
        · rw [gapP, if_neg e34]
          refine skip_stay _ _ _ _ h2.1 h2.2.1 h2.2.2.1 ?_
          rcases h2.2.2.2 with ⟨e1, o⟩ | ⟨e1, o⟩
          · rw [e1]
            have : atS s (Str.sufL s n) = n := by unfold atS; rw [Str.suf_len]; omega
            rw [this]; exact o
          · have : atS s G.rest ≠ 0 := by unfold atS; rw [Str.suf_len] at e1; omega
            rw [decide_eq_false this]; exact o
        · unfold goalB at hg ⊢
          rw [Bool.and_eq_true] at hg ⊢
          refine ⟨hg.1, ?_⟩
          rw [decide_eq_true (show g ≠ 3 from fun e => e34 (Or.inl e))]; rfl
    · exact Or.inr e
  obtain ⟨gc, gl, gcs, gr⟩ := G
  obtain ⟨T, hT⟩ : ∃ T, tokenP g gr = T := ⟨_, rfl⟩
  have hN : nextP g (decide (n = 0)) (Str.sufL s n) = ansP ⟨gc, gl, gcs, gr⟩ T := by rw [nextP, hG, ← hT]
  rw [hN] at h ⊢
  obtain ⟨tk, tc, tm⟩ := T
  by_cases e1 : gc = 0
  · subst e1
    by_cases e2 : tc = 0
    · subst e2
      rcases hgc with ⟨h1, h2⟩ | h1
      · obtain ⟨h3, h4⟩ := h2 rfl
        have hgr := h1.suf
        have hts := token_sf g gr
        rw [hT] at hts
        refine ⟨n, tk, gr, tm, gl, gcs, rfl, hn, by rw [ansP, if_pos rfl, if_pos rfl], hgr, hts, fun e => end_only g gr tm (by rw [hT, e]), h1, ?_⟩
        have hgs : gr <:+ s.data.toList := hgr.trans hsl
        rw [answer, if_neg (by have : atS s gr ≤ s.size := Nat.sub_le _ _; omega), show ((atS s gr : Nat) : Int).toNat = atS s gr from rfl, suf_of s gr hgs, h4, if_neg (by decide)]
        have : decide (((atS s gr : Nat) : Int) = 0) = decide (atS s gr = 0) := by
          by_cases e : atS s gr = 0
          · rw [decide_eq_true e, decide_eq_true (by omega)]
          · rw [decide_eq_false e, decide_eq_false (by omega)]
        rw [this, nextP, h3, hT, ansP, if_pos rfl, if_pos rfl]
      · exact absurd rfl h1
    · exfalso
      have hA : ansP ⟨0, gl, gcs, gr⟩ (tk, tc, tm) = failA tc tm := by rw [ansP, if_pos rfl, if_neg e2]
      rw [hA] at h
      exact e2 h
  · exfalso
    have hA : ansP ⟨gc, gl, gcs, gr⟩ (tk, tc, tm) = failA gc gr := by rw [ansP, if_neg (show (⟨gc, gl, gcs, gr⟩ : Gap).code ≠ 0 from e1)]
    rw [hA] at h
    exact e1 h
theorem extract_list (s : ByteArray) {l m : List UInt8} (h : l <:+ s.data.toList) (hm : m <:+ l) : s.extract (atS s l) (atS s m) = Str.ofL (upTo l m) := by
  have := extract_up ⟨0, 0, s⟩ h hm.length_le
  rw [← this, ofL_data]; rfl

set_option maxHeartbeats 16000000 in
set_option maxRecDepth 100000 in
theorem law_pieces (s : ByteArray) (i g : Int) (W : World) (hs : s.size ≤ 1048576) (hT : Tabs W.heap.size W) :
    Calls Tryd.prog 3 #[.string s, .int .i64 i, .int .i64 g] W fun e w' => e = .returned (.bool true) ∧ Below W.heap.size W w' := by
  have HT := Lib.hid hT
  clear hT
  obtain ⟨a, ha⟩ : ∃ a, answer s i g = a := ⟨_, rfl⟩
  by_cases hc : a.code = 0
  · obtain ⟨n, tk, gr, tm, gl, gcs, rfl, hn, hA, hgr, htm, hk, hcs, hagain⟩ := pieces_ok s i g (by rw [ha]; exact hc)
    have hsl : Str.sufL s n <:+ s.data.toList := List.drop_suffix _ _
    have hX := extract_list s (hgr.trans hsl) htm
    obtain ⟨F, hF⟩ : ∃ F, atS s gr = F := ⟨_, rfl⟩
    obtain ⟨T, hT⟩ : ∃ T, atS s tm = T := ⟨_, rfl⟩
    obtain ⟨X, hX'⟩ : ∃ X, Str.ofL (upTo gr tm) = X := ⟨_, rfl⟩
    rw [hF, hT, hX'] at hX
    rw [hF] at hagain
    have HTok : Hid (tokV s ⟨0, [], tk, gr, tm, gl, gcs⟩ = .agg #[.int .i64 tk, .string X, .int .i64 (F : Nat), .int .i64 (T : Nat), .bool gl]) := Lib.hid (tok_ok rfl hX' hF hT)
    have HTok2 : Hid (tokV s ⟨0, [], tk, gr, tm, false, []⟩ = .agg #[.int .i64 tk, .string X, .int .i64 (F : Nat), .int .i64 (T : Nat), .bool false]) := Lib.hid (tok_ok rfl hX' hF hT)
    have hlg := hgr.length_le
    have hlt := htm.length_le
    rw [Str.suf_len] at hlg
    have hnF : n ≤ F := by rw [← hF]; unfold atS; omega
    have hFT : F ≤ T := by rw [← hF, ← hT]; unfold atS; omega
    have hTs : T ≤ s.size := by rw [← hT]; exact Nat.sub_le _ _
    have hkF : tk = 0 → F = s.size := fun e => by rw [← hF, hk e]; rfl
    have HA := Lib.hid hA
    have HG := Lib.hid hagain
    have HX := Lib.hid hX
    have HCs := Lib.hid hcs
    have HF := Lib.hid hF
    have HSl := Lib.hid hsl
    obtain ⟨nc, hnc⟩ : ∃ n, gcs.length = n := ⟨_, rfl⟩
    have HNc := Lib.hid hnc
    clear ha hc hA hagain hX hX' hcs hF hT hsl hgr htm hk hlg hlt hnc
    go_enter Tryd.func3, Tryd.ntmps3
    go_wp2_with fail
    refine (awake_any W HT.out).mono ?_
    rintro e w1 ⟨rfl, hb1⟩
    have HT1 := Lib.hid (HT.out.below hb1)
    go_wp2_with fail
    refine (next_gen s n g _ _ 0 0 nc HA.out HTok.out (place_ok rfl) rfl HNc.out _ (by omega) HT1.out).mono ?_
    rintro e w2 ⟨ao, cap, rfl, hr2, hb2⟩
    have hB2 := bel_alloc (bel_trans hb1 hb2) (.cells #[.int .i64 tk, .string X, .int .i64 (F : Nat), .int .i64 (T : Nat), .bool gl] 24)
    have u2 := tok_new w2 #[.int .i64 tk, .string X, .int .i64 (F : Nat), .int .i64 (T : Nat), .bool gl] 24
    have HR2 := Lib.hid hr2
    have HW2 : Hid (W.heap.size ≤ w2.heap.size) := Lib.hid (bel_trans hb1 hb2).size
    clear hb1 hb2 hr2
    obtain ⟨⟨c0, c1, c2, c3, c4⟩, f0, f1, f2, f3, f4⟩ := five_cells u2
    go_wp2_with fail
    refine (num_any _ _).mono ?_
    rintro e w3 ⟨rfl, rfl⟩
    go_wp2_with fail
    generalize hw : w2.alloc _ = w4 at *
    have HU := Lib.hid u2
    have HB2 := Lib.hid hB2
    clear u2 hB2
    have t1 : ((s.extract F T).toList == X.toList) = true := by rw [HX.out]; simp
    have t2 : ((s.extract F T).toList != X.toList) = false := by rw [HX.out]; simp
    have hl1 : ¬ F < n := by omega
    have hl2 : ¬ T < F := by omega
    have hl3 : ¬ s.size < T := by omega
    by_cases ek : tk = 0
    · have k1 : (tk == 0) = true := beq_iff_eq.2 ek
      have k2 : ((((F : Nat) : Int)) != ((s.size : Nat) : Int)) = false := by rw [hkF ek]; simp
      clear ek hkF
      go_quiet (fail)
      generalize hw5 : World.drewN _ _ = w5
      have HU5 : Hid (w5.heap[w2.heap.size]? = some (.cells #[.int .i64 tk, .string X, .int .i64 (F : Nat), .int .i64 (T : Nat), .bool gl] 24)) := Lib.hid (hw5 ▸ HU.out)
      have HB5 : Hid (Below W.heap.size W w5) := Lib.hid (hw5 ▸ below_drewN HB2.out _)
      have HR5 : Hid (w5.ownsRow w1.heap.size 31 4 (.slice ao nc cap) nc (rowV (boxS s) gcs)) := Lib.hid (by
        have h := HR2.out.alloc (.cells #[.int .i64 tk, .string X, .int .i64 (F : Nat), .int .i64 (T : Nat), .bool gl] 24)
        rw [hw] at h
        exact hw5 ▸ h)
      clear hw5 c0 c1 c2 c3 c4 f0 f1 f2 f3 f4 t1 t2 hl1 hl2 hl3 k1 k2 HU HB2 HR2
      go_wp2_with fail
      go_loopw [11, 12] (fun i _ wr => ∃ j : Nat, j ≤ nc ∧ i = .int .i64 j ∧ Below w5.heap.size w5 wr) (fun i _ _ => nc - (intOf i).toNat)
      case atStart => exact ⟨0, Nat.zero_le _, rfl, Below.refl _ _⟩
      case round =>
        obtain ⟨j, hj, rfl, hbr⟩ := hrel
        have HBr := Lib.hid hbr
        clear hbr
        by_cases hjn : j < nc
        · obtain ⟨gg, cap', hv, _, hlt⟩ := HR5.out.form (by omega)
          injection hv with hv1 _ hv2
          subst hv1 hv2
          obtain ⟨c, hcj⟩ : ∃ c, gcs[j]? = some c := ⟨_, List.getElem?_eq_getElem (by rw [HNc.out]; exact hjn)⟩
          obtain ⟨k1, k2, k3, k4, k5⟩ := coms_at HCs.out j c hcj
          obtain ⟨A, hA⟩ : ∃ A, atS s c.fr = A := ⟨_, rfl⟩
          obtain ⟨B, hB⟩ : ∃ B, atS s c.to = B := ⟨_, rfl⟩
          obtain ⟨Y, hY⟩ : ∃ Y, Str.ofL (upTo c.fr c.to) = Y := ⟨_, rfl⟩
          have hcell : ∀ q v, (comV (boxS s) c)[q]? = some v → w5.cell? ⟨gg, 4 * j + q, none⟩ = some v := fun q v h => owns_cell HR5.out (g := gg) rfl (row_at _ gcs j c q v hcj h)
          have x0 : wr.cell? ⟨gg, j * 4, none⟩ = some (.int .i64 (c.kind : Nat)) := cel_on (by rw [Nat.mul_comm]; exact hcell 0 _ rfl) HBr.out
          have x1 : wr.cell? ⟨gg, j * 4 + 1, none⟩ = some (.string Y) := cel_on (by rw [Nat.mul_comm, ← hY]; exact hcell 1 _ rfl) HBr.out
          have x2 : wr.cell? ⟨gg, j * 4 + 2, none⟩ = some (.int .i64 (A : Nat)) := cel_on (by rw [Nat.mul_comm, ← hA]; exact hcell 2 _ rfl) HBr.out
          have x3 : wr.cell? ⟨gg, j * 4 + 3, none⟩ = some (.int .i64 (B : Nat)) := cel_on (by rw [Nat.mul_comm, ← hB]; exact hcell 3 _ rfl) HBr.out
          have hsz := k1.length_le
          rw [Str.suf_len] at hsz
          have hcs' := k2.length_le
          have hmf := k4.length_le
          have hA1 : n ≤ A := by rw [← hA]; unfold atS; omega
          have hA2 : A < B := by rw [← hA, ← hB]; unfold atS; omega
          have hA3 : B ≤ F := by rw [← hB, ← HF.out]; unfold atS; omega
          have hA4 : F ≤ s.size := by omega
          have hE : s.extract A B = Y := by rw [← hA, ← hB, ← hY]; exact extract_list s (k1.trans HSl.out) k2
          have t1 : ((s.extract A B).toList == Y.toList) = true := by rw [hE]; simp
          have t2 : ((s.extract A B).toList != Y.toList) = false := by rw [hE]; simp
          have hm1 : ¬ A < n := by omega
          have hm2 : ¬ F < B := by omega
          have hm3 : ¬ B ≤ A := by omega
          have hU6 := blk_alloc (blk_on HU5.out HBr.out) (.cells #[.int .i64 (c.kind : Nat), .string Y, .int .i64 (A : Nat), .int .i64 (B : Nat)] 31)
          obtain ⟨⟨c0, c1, c2, c3, c4⟩, _⟩ := five_cells hU6
          have HK5 := Lib.hid k5
          have HA' := Lib.hid hA
          have HBr2 := Lib.hid (bel_alloc HBr.out (.cells #[.int .i64 (c.kind : Nat), .string Y, .int .i64 (A : Nat), .int .i64 (B : Nat)] 31))
          clear k1 k2 k3 k4 k5 hcj hA hB hY hcell hsz hcs' hmf hE hU6
          by_cases hj0 : j = 0
          · subst hj0
            simp only [Nat.zero_mul, Nat.zero_add] at x0 x1 x2 x3
            go_wp2_with fail
            go_quiet (fail)
            generalize hw6 : World.drewN _ _ = w6
            have HB6 : Hid (Below w5.heap.size w5 w6) := Lib.hid (hw6 ▸ below_drewN HBr2.out _)
            clear hw6
            go_wp2_with fail
            go_roundw
            case rel => exact ⟨1, by omega, rfl, HB6.out⟩
            case measure => simp [intOf]; omega
          · obtain ⟨q, rfl⟩ : ∃ q, j = q + 1 := ⟨j - 1, by omega⟩
            obtain ⟨p, hp⟩ : ∃ p, gcs[q]? = some p := ⟨_, List.getElem?_eq_getElem (by rw [HNc.out]; omega)⟩
            have hpp := (HK5.out p (by omega) hp).length_le
            obtain ⟨D, hD⟩ : ∃ D, atS s p.to = D := ⟨_, rfl⟩
            have y3 : (wr.alloc (.cells #[.int .i64 (c.kind : Nat), .string Y, .int .i64 (A : Nat), .int .i64 (B : Nat)] 31)).cell? ⟨gg, q * 4 + 3, none⟩ = some (.int .i64 (D : Nat)) :=
              cel_alloc (cel_on (by rw [Nat.mul_comm, ← hD]; exact owns_cell HR5.out (g := gg) rfl (row_at (boxS s) gcs q p 3 _ hp rfl)) HBr.out) _
            have hm4 : D ≤ A := by rw [← hD, ← HA'.out]; unfold atS; omega
            have hm5 : ¬ A < D := by omega
            have hqn : q < nc := by omega
            have hq1 : ((q : Nat) : Int) + 1 - 1 = (q : Nat) := by omega
            have hncs : nc ≤ 1048576 := by rw [← HNc.out]; exact Nat.le_trans (coms_len HCs.out) (by rw [Str.suf_len]; omega)
            have hAB : A ≤ B := by omega
            have hBs : B ≤ s.size := by omega
            clear hj0 hp hpp hD hm4 hA1 hA2 hA3 hA4 hnF hFT hTs
            go_wp2_with fail
            go_quiet (fail)
            generalize hw6 : World.drewN _ _ = w6
            have HB6 : Hid (Below w5.heap.size w5 w6) := Lib.hid (hw6 ▸ below_drewN HBr2.out _)
            clear hw6
            go_wp2_with fail
            go_roundw
            case rel => exact ⟨q + 1 + 1, by omega, by simp, HB6.out⟩
            case measure => simp [intOf]; omega
        · obtain ⟨⟨c0, c1, c2, c3, c4⟩, f0, f1, f2, f3, f4⟩ := five_cells (blk_on HU5.out HBr.out)
          have HTr := Lib.hid (HT.out.below (bel_trans HB5.out HBr.out))
          go_wp2_with fail
          refine (next_gen s F g _ _ 0 0 0 HG.out HTok2.out (place_ok rfl) rfl rfl _ (by omega) HTr.out).mono ?_
          rintro e w7 ⟨ao7, cap7, rfl, _, hb7⟩
          obtain ⟨⟨d0, d1, d2, d3, d4⟩, e0, e1, e2, e3, e4⟩ := five_cells (blk_alloc (blk_on (blk_on HU5.out HBr.out) hb7) (.cells #[.int .i64 tk, .string X, .int .i64 (F : Nat), .int .i64 (T : Nat), .bool false] 24))
          have HB7 := Lib.hid (bel_alloc (bel_trans (bel_trans HB5.out HBr.out) hb7) (.cells #[.int .i64 tk, .string X, .int .i64 (F : Nat), .int .i64 (T : Nat), .bool false] 24))
          have hlow : W.heap.size ≤ w2.heap.size := HW2.out
          have hlt7 : w2.heap.size < w7.heap.size := (Array.getElem?_eq_some_iff.1 (blk_on (blk_on HU5.out HBr.out) hb7)).1
          have hne1 : ¬ w7.heap.size = w2.heap.size := by omega
          have hne2 : ¬ w2.heap.size = w7.heap.size := by omega
          have x4 : ((w7.alloc (.cells #[.int .i64 tk, .string X, .int .i64 (F : Nat), .int .i64 (T : Nat), .bool false] 24)).setCell ⟨w2.heap.size, 4, none⟩ (.bool false)).cell? ⟨w7.heap.size, 4, none⟩ = some (.bool false) :=
            (World.cell?_of_block (heap_setCell_other _ _ _ _ hne1)).trans (five_cells (tok_new w7 _ _)).1.2.2.2.2
          clear hne1 hne2 hlt7
          clear hb7 c0 c1 c2 c3 c4 f0 f1 f2 f3 f4
          go_wp2_with fail
          refine (num_any _ _).mono ?_
          rintro e w8 ⟨rfl, rfl⟩
          go_wp2_with fail
          go_ret
          exact ⟨rfl, HB7.out.setCell hlow _⟩
    · have k1 : (tk == 0) = false := beq_eq_false_iff_ne.2 ek
      clear ek hkF
      go_quiet (fail)
      generalize hw5 : World.drewN _ _ = w5
      have HU5 : Hid (w5.heap[w2.heap.size]? = some (.cells #[.int .i64 tk, .string X, .int .i64 (F : Nat), .int .i64 (T : Nat), .bool gl] 24)) := Lib.hid (hw5 ▸ HU.out)
      have HB5 : Hid (Below W.heap.size W w5) := Lib.hid (hw5 ▸ below_drewN HB2.out _)
      have HR5 : Hid (w5.ownsRow w1.heap.size 31 4 (.slice ao nc cap) nc (rowV (boxS s) gcs)) := Lib.hid (by
        have h := HR2.out.alloc (.cells #[.int .i64 tk, .string X, .int .i64 (F : Nat), .int .i64 (T : Nat), .bool gl] 24)
        rw [hw] at h
        exact hw5 ▸ h)
      clear hw5 c0 c1 c2 c3 c4 f0 f1 f2 f3 f4 t1 t2 hl1 hl2 hl3 k1 HU HB2 HR2
      go_wp2_with fail
      go_loopw [11, 12] (fun i _ wr => ∃ j : Nat, j ≤ nc ∧ i = .int .i64 j ∧ Below w5.heap.size w5 wr) (fun i _ _ => nc - (intOf i).toNat)
      case atStart => exact ⟨0, Nat.zero_le _, rfl, Below.refl _ _⟩
      case round =>
        obtain ⟨j, hj, rfl, hbr⟩ := hrel
        have HBr := Lib.hid hbr
        clear hbr
        by_cases hjn : j < nc
        · obtain ⟨gg, cap', hv, _, hlt⟩ := HR5.out.form (by omega)
          injection hv with hv1 _ hv2
          subst hv1 hv2
          obtain ⟨c, hcj⟩ : ∃ c, gcs[j]? = some c := ⟨_, List.getElem?_eq_getElem (by rw [HNc.out]; exact hjn)⟩
          obtain ⟨k1, k2, k3, k4, k5⟩ := coms_at HCs.out j c hcj
          obtain ⟨A, hA⟩ : ∃ A, atS s c.fr = A := ⟨_, rfl⟩
          obtain ⟨B, hB⟩ : ∃ B, atS s c.to = B := ⟨_, rfl⟩
          obtain ⟨Y, hY⟩ : ∃ Y, Str.ofL (upTo c.fr c.to) = Y := ⟨_, rfl⟩
          have hcell : ∀ q v, (comV (boxS s) c)[q]? = some v → w5.cell? ⟨gg, 4 * j + q, none⟩ = some v := fun q v h => owns_cell HR5.out (g := gg) rfl (row_at _ gcs j c q v hcj h)
          have x0 : wr.cell? ⟨gg, j * 4, none⟩ = some (.int .i64 (c.kind : Nat)) := cel_on (by rw [Nat.mul_comm]; exact hcell 0 _ rfl) HBr.out
          have x1 : wr.cell? ⟨gg, j * 4 + 1, none⟩ = some (.string Y) := cel_on (by rw [Nat.mul_comm, ← hY]; exact hcell 1 _ rfl) HBr.out
          have x2 : wr.cell? ⟨gg, j * 4 + 2, none⟩ = some (.int .i64 (A : Nat)) := cel_on (by rw [Nat.mul_comm, ← hA]; exact hcell 2 _ rfl) HBr.out
          have x3 : wr.cell? ⟨gg, j * 4 + 3, none⟩ = some (.int .i64 (B : Nat)) := cel_on (by rw [Nat.mul_comm, ← hB]; exact hcell 3 _ rfl) HBr.out
          have hsz := k1.length_le
          rw [Str.suf_len] at hsz
          have hcs' := k2.length_le
          have hmf := k4.length_le
          have hA1 : n ≤ A := by rw [← hA]; unfold atS; omega
          have hA2 : A < B := by rw [← hA, ← hB]; unfold atS; omega
          have hA3 : B ≤ F := by rw [← hB, ← HF.out]; unfold atS; omega
          have hA4 : F ≤ s.size := by omega
          have hE : s.extract A B = Y := by rw [← hA, ← hB, ← hY]; exact extract_list s (k1.trans HSl.out) k2
          have t1 : ((s.extract A B).toList == Y.toList) = true := by rw [hE]; simp
          have t2 : ((s.extract A B).toList != Y.toList) = false := by rw [hE]; simp
          have hm1 : ¬ A < n := by omega
          have hm2 : ¬ F < B := by omega
          have hm3 : ¬ B ≤ A := by omega
          have hU6 := blk_alloc (blk_on HU5.out HBr.out) (.cells #[.int .i64 (c.kind : Nat), .string Y, .int .i64 (A : Nat), .int .i64 (B : Nat)] 31)
          obtain ⟨⟨c0, c1, c2, c3, c4⟩, _⟩ := five_cells hU6
          have HK5 := Lib.hid k5
          have HA' := Lib.hid hA
          have HBr2 := Lib.hid (bel_alloc HBr.out (.cells #[.int .i64 (c.kind : Nat), .string Y, .int .i64 (A : Nat), .int .i64 (B : Nat)] 31))
          clear k1 k2 k3 k4 k5 hcj hA hB hY hcell hsz hcs' hmf hE hU6
          by_cases hj0 : j = 0
          · subst hj0
            simp only [Nat.zero_mul, Nat.zero_add] at x0 x1 x2 x3
            go_wp2_with fail
            go_quiet (fail)
            generalize hw6 : World.drewN _ _ = w6
            have HB6 : Hid (Below w5.heap.size w5 w6) := Lib.hid (hw6 ▸ below_drewN HBr2.out _)
            clear hw6
            go_wp2_with fail
            go_roundw
            case rel => exact ⟨1, by omega, rfl, HB6.out⟩
            case measure => simp [intOf]; omega
          · obtain ⟨q, rfl⟩ : ∃ q, j = q + 1 := ⟨j - 1, by omega⟩
            obtain ⟨p, hp⟩ : ∃ p, gcs[q]? = some p := ⟨_, List.getElem?_eq_getElem (by rw [HNc.out]; omega)⟩
            have hpp := (HK5.out p (by omega) hp).length_le
            obtain ⟨D, hD⟩ : ∃ D, atS s p.to = D := ⟨_, rfl⟩
            have y3 : (wr.alloc (.cells #[.int .i64 (c.kind : Nat), .string Y, .int .i64 (A : Nat), .int .i64 (B : Nat)] 31)).cell? ⟨gg, q * 4 + 3, none⟩ = some (.int .i64 (D : Nat)) :=
              cel_alloc (cel_on (by rw [Nat.mul_comm, ← hD]; exact owns_cell HR5.out (g := gg) rfl (row_at (boxS s) gcs q p 3 _ hp rfl)) HBr.out) _
            have hm4 : D ≤ A := by rw [← hD, ← HA'.out]; unfold atS; omega
            have hm5 : ¬ A < D := by omega
            have hqn : q < nc := by omega
            have hq1 : ((q : Nat) : Int) + 1 - 1 = (q : Nat) := by omega
            have hncs : nc ≤ 1048576 := by rw [← HNc.out]; exact Nat.le_trans (coms_len HCs.out) (by rw [Str.suf_len]; omega)
            have hAB : A ≤ B := by omega
            have hBs : B ≤ s.size := by omega
            clear hj0 hp hpp hD hm4 hA1 hA2 hA3 hA4 hnF hFT hTs
            go_wp2_with fail
            go_quiet (fail)
            generalize hw6 : World.drewN _ _ = w6
            have HB6 : Hid (Below w5.heap.size w5 w6) := Lib.hid (hw6 ▸ below_drewN HBr2.out _)
            clear hw6
            go_wp2_with fail
            go_roundw
            case rel => exact ⟨q + 1 + 1, by omega, by simp, HB6.out⟩
            case measure => simp [intOf]; omega
        · obtain ⟨⟨c0, c1, c2, c3, c4⟩, f0, f1, f2, f3, f4⟩ := five_cells (blk_on HU5.out HBr.out)
          have HTr := Lib.hid (HT.out.below (bel_trans HB5.out HBr.out))
          go_wp2_with fail
          refine (next_gen s F g _ _ 0 0 0 HG.out HTok2.out (place_ok rfl) rfl rfl _ (by omega) HTr.out).mono ?_
          rintro e w7 ⟨ao7, cap7, rfl, _, hb7⟩
          obtain ⟨⟨d0, d1, d2, d3, d4⟩, e0, e1, e2, e3, e4⟩ := five_cells (blk_alloc (blk_on (blk_on HU5.out HBr.out) hb7) (.cells #[.int .i64 tk, .string X, .int .i64 (F : Nat), .int .i64 (T : Nat), .bool false] 24))
          have HB7 := Lib.hid (bel_alloc (bel_trans (bel_trans HB5.out HBr.out) hb7) (.cells #[.int .i64 tk, .string X, .int .i64 (F : Nat), .int .i64 (T : Nat), .bool false] 24))
          have hlow : W.heap.size ≤ w2.heap.size := HW2.out
          have hlt7 : w2.heap.size < w7.heap.size := (Array.getElem?_eq_some_iff.1 (blk_on (blk_on HU5.out HBr.out) hb7)).1
          have hne1 : ¬ w7.heap.size = w2.heap.size := by omega
          have hne2 : ¬ w2.heap.size = w7.heap.size := by omega
          have x4 : ((w7.alloc (.cells #[.int .i64 tk, .string X, .int .i64 (F : Nat), .int .i64 (T : Nat), .bool false] 24)).setCell ⟨w2.heap.size, 4, none⟩ (.bool false)).cell? ⟨w7.heap.size, 4, none⟩ = some (.bool false) :=
            (World.cell?_of_block (heap_setCell_other _ _ _ _ hne1)).trans (five_cells (tok_new w7 _ _)).1.2.2.2.2
          clear hne1 hne2 hlt7
          clear hb7 c0 c1 c2 c3 c4 f0 f1 f2 f3 f4
          go_wp2_with fail
          refine (num_any _ _).mono ?_
          rintro e w8 ⟨rfl, rfl⟩
          go_wp2_with fail
          go_ret
          exact ⟨rfl, HB7.out.setCell hlow _⟩
  · have hcm := ans_err (s := s) (i := i) (g := g) (by rw [ha]; exact hc)
    rw [ha] at hcm
    obtain ⟨c, hcc⟩ : ∃ c, a.code = c := ⟨_, rfl⟩
    obtain ⟨p, hpp⟩ : ∃ p, atS s a.place = p := ⟨_, rfl⟩
    have hple : p ≤ s.size := by rw [← hpp]; exact Nat.sub_le _ _
    have HA := Lib.hid ha
    have HTok := Lib.hid (tok_no (s := s) hc)
    have HP : Hid (placeV s a = (p : Nat)) := Lib.hid (by rw [place_no hc, hpp])
    have HC := Lib.hid hcc
    have HN : Hid (a.coms.length = 0) := Lib.hid (by rw [hcm]; rfl)
    have b0 : (c != 0) = true := bne_iff_ne.2 (hcc ▸ hc)
    clear ha hc hcm hcc hpp
    go_enter Tryd.func3, Tryd.ntmps3
    go_wp2_with fail
    refine (awake_any W HT.out).mono ?_
    rintro e w1 ⟨rfl, hb1⟩
    have HT1 := Lib.hid (HT.out.below hb1)
    go_wp2_with fail
    refine (next_gen s i g _ _ p c 0 HA.out HTok.out HP.out HC.out HN.out _ (by omega) HT1.out).mono ?_
    rintro e w2 ⟨ao, cap, rfl, _, hb2⟩
    have HB2 := Lib.hid (bel_alloc (bel_trans hb1 hb2) zeroObj)
    clear hb1 hb2
    go_wp2_with fail
    refine (num_any _ _).mono ?_
    rintro e w3 ⟨rfl, rfl⟩
    go_wp2_with fail
    go_ret
    exact ⟨rfl, HB2.out⟩

end Lex
end Go.Proofs.YtfnilkhccomemaaDoor
