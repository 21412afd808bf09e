/-
  The law 'LexEnds': two tokens with a blank between are both.
-/
import Derived.Test.YtfnilkhccomemaaDoorLexLawA
import Derived.Test.YtfnilkhccomemaaDoorLexEndT
namespace Go.Proofs.YtfnilkhccomemaaDoor
namespace Lex
open Go.RowKit
open Str (lenL runeL)

theorem tok_form (s : ByteArray) (a : Ans) : ∃ (K : Int) (X : ByteArray) (F T : Int) (L : Bool), tokV s a = .agg #[.int .i64 K, .string X, .int .i64 F, .int .i64 T, .bool L] ∧ (a.code = 0 → K = a.kind ∧ X = Str.ofL (upTo a.fr a.to) ∧ F = (atS s a.fr : Nat) ∧ T = (atS s a.to : Nat) ∧ L = a.line) := by
  by_cases h : a.code = 0
  · exact ⟨_, _, _, _, _, tok_ok h rfl rfl rfl, fun _ => ⟨rfl, rfl, rfl, rfl, rfl⟩⟩
  · exact ⟨_, _, _, _, _, tok_no h, fun e => absurd e h⟩
theorem fr_all {s : ByteArray} {l : List UInt8} (h : l <:+ s.data.toList) (h0 : (atS s l : Nat) = (0 : Int)) : l = s.data.toList := by
  refine h.eq_of_length ?_
  have := h.length_le
  have hl : s.data.toList.length = s.size := by simp
  unfold atS at h0
  omega
/-- A token from the beginning. -/
theorem first_tok (s : ByteArray) (h0 : (nextP 1 true s.data.toList).code = 0) (hF : ((atS s (nextP 1 true s.data.toList).fr : Nat) : Int) = 0) : ∃ k m, commonP false s.data.toList = (k, 0, m) ∧ nextP 1 true s.data.toList = ⟨0, [], k, s.data.toList, m, false, []⟩ ∧
    (skip (true, false, []) s.data.toList).rest = s.data.toList ∧ (skip (true, false, []) s.data.toList).code = 0 := by
  have hgap : gapP 1 true s.data.toList = skip (true, false, []) s.data.toList := by rw [gapP, if_neg (by omega)]
  have hr := skip_suf (true, false, []) s.data.toList
  obtain ⟨G, hG⟩ : ∃ G, skip (true, false, []) s.data.toList = G := ⟨_, rfl⟩
  have hsame := skip_same true s.data.toList
  rw [hG] at hgap hr hsame ⊢
  have htk : tokenP 1 G.rest = commonP false G.rest := rfl
  rw [nextP, hgap, htk] at h0 hF ⊢
  obtain ⟨gc, gl, gcs, gr⟩ := G
  obtain ⟨T, hT⟩ : ∃ T, commonP false gr = T := ⟨_, rfl⟩
  simp only at hr hsame
  rw [show (⟨gc, gl, gcs, gr⟩ : Gap).rest = gr from rfl, hT] at h0 hF ⊢
  obtain ⟨tk, tc, tm⟩ := T
  by_cases e1 : gc = 0
  · subst e1
    by_cases e2 : tc = 0
    · subst e2
      have hA : ansP ⟨0, gl, gcs, gr⟩ (tk, 0, tm) = ⟨0, [], tk, gr, tm, gl, gcs⟩ := by rw [ansP, if_pos rfl, if_pos rfl]
      rw [hA] at hF ⊢
      have hgr := fr_all hr hF
      subst hgr
      obtain ⟨hs, _⟩ := hsame rfl rfl
      injection hs with _ h2 h3 _
      subst h2 h3
      exact ⟨tk, tm, hT, rfl, rfl, rfl⟩
    · exfalso
      have hA : ansP ⟨0, gl, gcs, gr⟩ (tk, tc, tm) = failA tc tm := by rw [ansP, if_pos rfl, if_neg e2]
      rw [hA] at h0
      exact e2 h0
  · exfalso
    have hA : ansP ⟨gc, gl, gcs, gr⟩ (tk, tc, tm) = failA gc gr := by rw [ansP, if_neg (show (⟨gc, gl, gcs, gr⟩ : Gap).code ≠ 0 from e1)]
    rw [hA] at h0
    exact e1 h0

theorem cat_list (s t : ByteArray) : (s ++ ⟨#[32]⟩ ++ t).data.toList = s.data.toList ++ 32 :: t.data.toList := by simp
theorem cat_size (s t : ByteArray) : (s ++ ⟨#[32]⟩ ++ t).size = s.size + 1 + t.size := by
  have h := congrArg List.length (cat_list s t)
  simp only [List.length_append, List.length_cons, Array.length_toList] at h
  have e : ∀ x : ByteArray, x.data.size = x.size := fun _ => rfl
  rw [e, e, e] at h
  omega
theorem cat_suf (s t : ByteArray) : Str.sufL (s ++ ⟨#[32]⟩ ++ t) s.size = 32 :: t.data.toList := by
  unfold Str.sufL
  rw [cat_list, List.drop_append_of_le_length (by simp)]
  have : s.data.toList.drop s.size = [] := List.drop_of_length_le (by simp)
  rw [this]; rfl

/-- What both answers are, and what is answered where both stand. -/
theorem ends_all (s t : ByteArray) (ka kb : Int) (mb : List UInt8) (hs : (skip (true, false, []) s.data.toList).rest = s.data.toList) (h0 : (skip (true, false, []) s.data.toList).code = 0) (hc : commonP false s.data.toList = (ka, 0, []))
    (hk : ka ≠ 0) (ht : (skip (true, false, []) t.data.toList).rest = t.data.toList) (h1 : (skip (true, false, []) t.data.toList).code = 0) (hd : commonP false t.data.toList = (kb, 0, mb)) :
    answer (s ++ ⟨#[32]⟩ ++ t) 0 1 = ⟨0, [], ka, (s ++ ⟨#[32]⟩ ++ t).data.toList, 32 :: t.data.toList, false, []⟩ ∧ answer (s ++ ⟨#[32]⟩ ++ t) s.size 1 = ⟨0, [], kb, t.data.toList, mb, false, []⟩ := by
  have hl : s.data.toList ≠ [] := fun e => hk (by rw [e] at hc; exact (congrArg Prod.fst hc).symm)
  have hpos := Str.pos_of_ne hl
  have hsl : s.data.toList.length = s.size := by simp
  refine ⟨?_, ?_⟩
  · rw [answer_zero _ _ rfl, cat_list]
    exact ends_first _ _ ka hl hs h0 hc
  · rw [answer, if_neg (by rw [cat_size]; omega), show ((s.size : Nat) : Int).toNat = s.size from rfl, cat_suf, if_neg (by rw [show goalB 1 (32 :: t.data.toList) = true from rfl]; decide), decide_eq_false (by omega), ends_second _ ht h1, hd]
    rfl

set_option maxHeartbeats 16000000 in
set_option maxRecDepth 20000 in
theorem law_ends (s t : ByteArray) (W : World) (hs : s.size ≤ 1048576) (ht : t.size ≤ 1048576) (hT : Tabs W.heap.size W) :
    Calls Tryd.prog 5 #[.string s, .string t] W fun e w' => e = .returned (.bool true) ∧ Below W.heap.size W w' := by
  have HT := Lib.hid hT
  clear hT
  obtain ⟨a, ha⟩ : ∃ a, nextP 1 true s.data.toList = a := ⟨_, rfl⟩
  obtain ⟨b, hb⟩ : ∃ a, nextP 1 true t.data.toList = a := ⟨_, rfl⟩
  have HAa := Lib.hid ((answer_zero s 1 rfl).trans ha)
  have HAb := Lib.hid ((answer_zero t 1 rfl).trans hb)
  obtain ⟨Ka, Xa, Fa, Ta, La, hTa, hVa⟩ := tok_form s a
  obtain ⟨Kb, Xb, Fb, Tb, Lb, hTb, hVb⟩ := tok_form t b
  obtain ⟨ca, hca⟩ : ∃ c, a.code = c := ⟨_, rfl⟩
  obtain ⟨cb, hcb⟩ : ∃ c, b.code = c := ⟨_, rfl⟩
  obtain ⟨na, hna⟩ : ∃ n, a.coms.length = n := ⟨_, rfl⟩
  obtain ⟨nb, hnb⟩ : ∃ n, b.coms.length = n := ⟨_, rfl⟩
  obtain ⟨pa, hpa⟩ : ∃ p, placeV s a = p := ⟨_, rfl⟩
  obtain ⟨pb, hpb⟩ : ∃ p, placeV t b = p := ⟨_, rfl⟩
  have HTa := Lib.hid hTa; have HTb := Lib.hid hTb
  have HCa := Lib.hid hca; have HCb := Lib.hid hcb
  have HNa := Lib.hid hna; have HNb := Lib.hid hnb
  have HPa := Lib.hid hpa; have HPb := Lib.hid hpb
  have HVa := Lib.hid hVa; have HVb := Lib.hid hVb
  have Ha := Lib.hid ha; have Hb := Lib.hid hb
  clear hTa hTb hca hcb hna hnb hpa hpb hVa hVb ha hb
  by_cases e0 : ca = 0
  rotate_left
  · have b0 : (ca != 0) = true := bne_iff_ne.2 e0
    clear e0
    go_enter Tryd.func5, Tryd.ntmps5
    go_wp2_with fail
    refine (awake_any _ HT.out).mono ?_
    rintro e w1 ⟨rfl, hb1⟩
    have HT1 := Lib.hid (HT.out.below hb1)
    go_wp2_with fail
    refine (next_gen s 0 1 _ _ pa ca na HAa.out HTa.out HPa.out HCa.out HNa.out _ (by omega) HT1.out).mono ?_
    rintro e w2 ⟨ao, cap, rfl, _, hb2⟩
    have hB2 := bel_alloc (bel_trans hb1 hb2) (.cells #[.int .i64 Ka, .string Xa, .int .i64 Fa, .int .i64 Ta, .bool La] 24)
    have u2 := tok_new w2 #[.int .i64 Ka, .string Xa, .int .i64 Fa, .int .i64 Ta, .bool La] 24
    have HT2 := Lib.hid (HT.out.below hB2)
    clear hb1 hb2 HT1
    go_wp2_with fail
    refine (next_gen t 0 1 _ _ pb cb nb HAb.out HTb.out HPb.out HCb.out HNb.out _ (by omega) HT2.out).mono ?_
    rintro e w3 ⟨ao2, cap2, rfl, _, hb3⟩
    have hB3 := bel_alloc (bel_trans hB2 hb3) (.cells #[.int .i64 Kb, .string Xb, .int .i64 Fb, .int .i64 Tb, .bool Lb] 24)
    have u3 := blk_alloc (blk_on u2 hb3) (.cells #[.int .i64 Kb, .string Xb, .int .i64 Fb, .int .i64 Tb, .bool Lb] 24)
    have v3 := tok_new w3 #[.int .i64 Kb, .string Xb, .int .i64 Fb, .int .i64 Tb, .bool Lb] 24
    obtain ⟨⟨c0, c1, c2, c3, c4⟩, _⟩ := five_cells u3
    obtain ⟨⟨d0, d1, d2, d3, d4⟩, _⟩ := five_cells v3
    have HB3 := Lib.hid hB3
    clear hB2 u2 hb3 HT2 hB3
    go_wp2_with fail
    refine (num_any _ _).mono ?_
    rintro e w4 ⟨rfl, rfl⟩
    go_wp2_with fail
    go_ret
    exact ⟨rfl, HB3.out⟩
  by_cases e1 : cb = 0
  rotate_left
  · have b0 : (ca != 0) = false := by rw [e0]; rfl
    have b1 : (cb != 0) = true := bne_iff_ne.2 e1
    clear e0 e1
    go_enter Tryd.func5, Tryd.ntmps5
    go_wp2_with fail
    refine (awake_any _ HT.out).mono ?_
    rintro e w1 ⟨rfl, hb1⟩
    have HT1 := Lib.hid (HT.out.below hb1)
    go_wp2_with fail
    refine (next_gen s 0 1 _ _ pa ca na HAa.out HTa.out HPa.out HCa.out HNa.out _ (by omega) HT1.out).mono ?_
    rintro e w2 ⟨ao, cap, rfl, _, hb2⟩
    have hB2 := bel_alloc (bel_trans hb1 hb2) (.cells #[.int .i64 Ka, .string Xa, .int .i64 Fa, .int .i64 Ta, .bool La] 24)
    have u2 := tok_new w2 #[.int .i64 Ka, .string Xa, .int .i64 Fa, .int .i64 Ta, .bool La] 24
    have HT2 := Lib.hid (HT.out.below hB2)
    clear hb1 hb2 HT1
    go_wp2_with fail
    refine (next_gen t 0 1 _ _ pb cb nb HAb.out HTb.out HPb.out HCb.out HNb.out _ (by omega) HT2.out).mono ?_
    rintro e w3 ⟨ao2, cap2, rfl, _, hb3⟩
    have hB3 := bel_alloc (bel_trans hB2 hb3) (.cells #[.int .i64 Kb, .string Xb, .int .i64 Fb, .int .i64 Tb, .bool Lb] 24)
    have u3 := blk_alloc (blk_on u2 hb3) (.cells #[.int .i64 Kb, .string Xb, .int .i64 Fb, .int .i64 Tb, .bool Lb] 24)
    have v3 := tok_new w3 #[.int .i64 Kb, .string Xb, .int .i64 Fb, .int .i64 Tb, .bool Lb] 24
    obtain ⟨⟨c0, c1, c2, c3, c4⟩, _⟩ := five_cells u3
    obtain ⟨⟨d0, d1, d2, d3, d4⟩, _⟩ := five_cells v3
    have HB3 := Lib.hid hB3
    clear hB2 u2 hb3 HT2 hB3
    go_wp2_with fail
    refine (num_any _ _).mono ?_
    rintro e w4 ⟨rfl, rfl⟩
    go_wp2_with fail
    refine (num_any _ _).mono ?_
    rintro e w4 ⟨rfl, rfl⟩
    go_wp2_with fail
    go_ret
    exact ⟨rfl, HB3.out⟩
  by_cases e2 : na = 0
  rotate_left
  · have b0 : (ca != 0) = false := by rw [e0]; rfl
    have b1 : (cb != 0) = false := by rw [e1]; rfl
    have b2 : 0 < na := by omega
    clear e0 e1 e2
    go_enter Tryd.func5, Tryd.ntmps5
    go_wp2_with fail
    refine (awake_any _ HT.out).mono ?_
    rintro e w1 ⟨rfl, hb1⟩
    have HT1 := Lib.hid (HT.out.below hb1)
    go_wp2_with fail
    refine (next_gen s 0 1 _ _ pa ca na HAa.out HTa.out HPa.out HCa.out HNa.out _ (by omega) HT1.out).mono ?_
    rintro e w2 ⟨ao, cap, rfl, _, hb2⟩
    have hB2 := bel_alloc (bel_trans hb1 hb2) (.cells #[.int .i64 Ka, .string Xa, .int .i64 Fa, .int .i64 Ta, .bool La] 24)
    have u2 := tok_new w2 #[.int .i64 Ka, .string Xa, .int .i64 Fa, .int .i64 Ta, .bool La] 24
    have HT2 := Lib.hid (HT.out.below hB2)
    clear hb1 hb2 HT1
    go_wp2_with fail
    refine (next_gen t 0 1 _ _ pb cb nb HAb.out HTb.out HPb.out HCb.out HNb.out _ (by omega) HT2.out).mono ?_
    rintro e w3 ⟨ao2, cap2, rfl, _, hb3⟩
    have hB3 := bel_alloc (bel_trans hB2 hb3) (.cells #[.int .i64 Kb, .string Xb, .int .i64 Fb, .int .i64 Tb, .bool Lb] 24)
    have u3 := blk_alloc (blk_on u2 hb3) (.cells #[.int .i64 Kb, .string Xb, .int .i64 Fb, .int .i64 Tb, .bool Lb] 24)
    have v3 := tok_new w3 #[.int .i64 Kb, .string Xb, .int .i64 Fb, .int .i64 Tb, .bool Lb] 24
    obtain ⟨⟨c0, c1, c2, c3, c4⟩, _⟩ := five_cells u3
    obtain ⟨⟨d0, d1, d2, d3, d4⟩, _⟩ := five_cells v3
    have HB3 := Lib.hid hB3
    clear hB2 u2 hb3 HT2 hB3
    go_wp2_with fail
    refine (num_any _ _).mono ?_
    rintro e w4 ⟨rfl, rfl⟩
    go_wp2_with fail
    refine (num_any _ _).mono ?_
    rintro e w4 ⟨rfl, rfl⟩
    go_wp2_with fail
    go_ret
    exact ⟨rfl, HB3.out⟩
  by_cases e3 : nb = 0
  rotate_left
  · have b0 : (ca != 0) = false := by rw [e0]; rfl
    have b1 : (cb != 0) = false := by rw [e1]; rfl
    have b2 : ¬ 0 < na := by omega
    have b3 : 0 < nb := by omega
    clear e0 e1 e2 e3
    go_enter Tryd.func5, Tryd.ntmps5
    go_wp2_with fail
    refine (awake_any _ HT.out).mono ?_
    rintro e w1 ⟨rfl, hb1⟩
    have HT1 := Lib.hid (HT.out.below hb1)
    go_wp2_with fail
    refine (next_gen s 0 1 _ _ pa ca na HAa.out HTa.out HPa.out HCa.out HNa.out _ (by omega) HT1.out).mono ?_
    rintro e w2 ⟨ao, cap, rfl, _, hb2⟩
    have hB2 := bel_alloc (bel_trans hb1 hb2) (.cells #[.int .i64 Ka, .string Xa, .int .i64 Fa, .int .i64 Ta, .bool La] 24)
    have u2 := tok_new w2 #[.int .i64 Ka, .string Xa, .int .i64 Fa, .int .i64 Ta, .bool La] 24
    have HT2 := Lib.hid (HT.out.below hB2)
    clear hb1 hb2 HT1
    go_wp2_with fail
    refine (next_gen t 0 1 _ _ pb cb nb HAb.out HTb.out HPb.out HCb.out HNb.out _ (by omega) HT2.out).mono ?_
    rintro e w3 ⟨ao2, cap2, rfl, _, hb3⟩
    have hB3 := bel_alloc (bel_trans hB2 hb3) (.cells #[.int .i64 Kb, .string Xb, .int .i64 Fb, .int .i64 Tb, .bool Lb] 24)
    have u3 := blk_alloc (blk_on u2 hb3) (.cells #[.int .i64 Kb, .string Xb, .int .i64 Fb, .int .i64 Tb, .bool Lb] 24)
    have v3 := tok_new w3 #[.int .i64 Kb, .string Xb, .int .i64 Fb, .int .i64 Tb, .bool Lb] 24
    obtain ⟨⟨c0, c1, c2, c3, c4⟩, _⟩ := five_cells u3
    obtain ⟨⟨d0, d1, d2, d3, d4⟩, _⟩ := five_cells v3
    have HB3 := Lib.hid hB3
    clear hB2 u2 hb3 HT2 hB3
    go_wp2_with fail
    refine (num_any _ _).mono ?_
    rintro e w4 ⟨rfl, rfl⟩
    go_wp2_with fail
    refine (num_any _ _).mono ?_
    rintro e w4 ⟨rfl, rfl⟩
    go_wp2_with fail
    go_ret
    exact ⟨rfl, HB3.out⟩
  by_cases e4 : Fa = 0
  rotate_left
  · have b0 : (ca != 0) = false := by rw [e0]; rfl
    have b1 : (cb != 0) = false := by rw [e1]; rfl
    have b2 : ¬ 0 < na := by omega
    have b3 : ¬ 0 < nb := by omega
    have b4 : (Fa != 0) = true := bne_iff_ne.2 e4
    clear e0 e1 e2 e3 e4
    go_enter Tryd.func5, Tryd.ntmps5
    go_wp2_with fail
    refine (awake_any _ HT.out).mono ?_
    rintro e w1 ⟨rfl, hb1⟩
    have HT1 := Lib.hid (HT.out.below hb1)
    go_wp2_with fail
    refine (next_gen s 0 1 _ _ pa ca na HAa.out HTa.out HPa.out HCa.out HNa.out _ (by omega) HT1.out).mono ?_
    rintro e w2 ⟨ao, cap, rfl, _, hb2⟩
    have hB2 := bel_alloc (bel_trans hb1 hb2) (.cells #[.int .i64 Ka, .string Xa, .int .i64 Fa, .int .i64 Ta, .bool La] 24)
    have u2 := tok_new w2 #[.int .i64 Ka, .string Xa, .int .i64 Fa, .int .i64 Ta, .bool La] 24
    have HT2 := Lib.hid (HT.out.below hB2)
    clear hb1 hb2 HT1
    go_wp2_with fail
    refine (next_gen t 0 1 _ _ pb cb nb HAb.out HTb.out HPb.out HCb.out HNb.out _ (by omega) HT2.out).mono ?_
    rintro e w3 ⟨ao2, cap2, rfl, _, hb3⟩
    have hB3 := bel_alloc (bel_trans hB2 hb3) (.cells #[.int .i64 Kb, .string Xb, .int .i64 Fb, .int .i64 Tb, .bool Lb] 24)
    have u3 := blk_alloc (blk_on u2 hb3) (.cells #[.int .i64 Kb, .string Xb, .int .i64 Fb, .int .i64 Tb, .bool Lb] 24)
    have v3 := tok_new w3 #[.int .i64 Kb, .string Xb, .int .i64 Fb, .int .i64 Tb, .bool Lb] 24
    obtain ⟨⟨c0, c1, c2, c3, c4⟩, _⟩ := five_cells u3
    obtain ⟨⟨d0, d1, d2, d3, d4⟩, _⟩ := five_cells v3
    have HB3 := Lib.hid hB3
    clear hB2 u2 hb3 HT2 hB3
    go_wp2_with fail
    refine (num_any _ _).mono ?_
    rintro e w4 ⟨rfl, rfl⟩
    go_wp2_with fail
    refine (num_any _ _).mono ?_
    rintro e w4 ⟨rfl, rfl⟩
    go_wp2_with fail
    go_ret
    exact ⟨rfl, HB3.out⟩
  by_cases e5 : (Xa.toList == s.toList) = true
  rotate_left
  · have b0 : (ca != 0) = false := by rw [e0]; rfl
    have b1 : (cb != 0) = false := by rw [e1]; rfl
    have b2 : ¬ 0 < na := by omega
    have b3 : ¬ 0 < nb := by omega
    have b4 : (Fa != 0) = false := by rw [e4]; rfl
    have b5 : (Xa.toList == s.toList) = false := by simpa using e5
    clear e0 e1 e2 e3 e4 e5
    go_enter Tryd.func5, Tryd.ntmps5
    go_wp2_with fail
    refine (awake_any _ HT.out).mono ?_
    rintro e w1 ⟨rfl, hb1⟩
    have HT1 := Lib.hid (HT.out.below hb1)
    go_wp2_with fail
    refine (next_gen s 0 1 _ _ pa ca na HAa.out HTa.out HPa.out HCa.out HNa.out _ (by omega) HT1.out).mono ?_
    rintro e w2 ⟨ao, cap, rfl, _, hb2⟩
    have hB2 := bel_alloc (bel_trans hb1 hb2) (.cells #[.int .i64 Ka, .string Xa, .int .i64 Fa, .int .i64 Ta, .bool La] 24)
    have u2 := tok_new w2 #[.int .i64 Ka, .string Xa, .int .i64 Fa, .int .i64 Ta, .bool La] 24
    have HT2 := Lib.hid (HT.out.below hB2)
    clear hb1 hb2 HT1
    go_wp2_with fail
    refine (next_gen t 0 1 _ _ pb cb nb HAb.out HTb.out HPb.out HCb.out HNb.out _ (by omega) HT2.out).mono ?_
    rintro e w3 ⟨ao2, cap2, rfl, _, hb3⟩
    have hB3 := bel_alloc (bel_trans hB2 hb3) (.cells #[.int .i64 Kb, .string Xb, .int .i64 Fb, .int .i64 Tb, .bool Lb] 24)
    have u3 := blk_alloc (blk_on u2 hb3) (.cells #[.int .i64 Kb, .string Xb, .int .i64 Fb, .int .i64 Tb, .bool Lb] 24)
    have v3 := tok_new w3 #[.int .i64 Kb, .string Xb, .int .i64 Fb, .int .i64 Tb, .bool Lb] 24
    obtain ⟨⟨c0, c1, c2, c3, c4⟩, _⟩ := five_cells u3
    obtain ⟨⟨d0, d1, d2, d3, d4⟩, _⟩ := five_cells v3
    have HB3 := Lib.hid hB3
    clear hB2 u2 hb3 HT2 hB3
    go_wp2_with fail
    refine (num_any _ _).mono ?_
    rintro e w4 ⟨rfl, rfl⟩
    go_wp2_with fail
    refine (num_any _ _).mono ?_
    rintro e w4 ⟨rfl, rfl⟩
    go_wp2_with fail
    go_ret
    exact ⟨rfl, HB3.out⟩
  by_cases e6 : ¬ Ka = 0
  rotate_left
  · have b0 : (ca != 0) = false := by rw [e0]; rfl
    have b1 : (cb != 0) = false := by rw [e1]; rfl
    have b2 : ¬ 0 < na := by omega
    have b3 : ¬ 0 < nb := by omega
    have b4 : (Fa != 0) = false := by rw [e4]; rfl
    have b5 : (Xa.toList == s.toList) = true := e5
    have b6 : (Ka == 0) = true := beq_iff_eq.2 (Decidable.of_not_not e6)
    clear e0 e1 e2 e3 e4 e5 e6
    go_enter Tryd.func5, Tryd.ntmps5
    go_wp2_with fail
    refine (awake_any _ HT.out).mono ?_
    rintro e w1 ⟨rfl, hb1⟩
    have HT1 := Lib.hid (HT.out.below hb1)
    go_wp2_with fail
    refine (next_gen s 0 1 _ _ pa ca na HAa.out HTa.out HPa.out HCa.out HNa.out _ (by omega) HT1.out).mono ?_
    rintro e w2 ⟨ao, cap, rfl, _, hb2⟩
    have hB2 := bel_alloc (bel_trans hb1 hb2) (.cells #[.int .i64 Ka, .string Xa, .int .i64 Fa, .int .i64 Ta, .bool La] 24)
    have u2 := tok_new w2 #[.int .i64 Ka, .string Xa, .int .i64 Fa, .int .i64 Ta, .bool La] 24
    have HT2 := Lib.hid (HT.out.below hB2)
    clear hb1 hb2 HT1
    go_wp2_with fail
    refine (next_gen t 0 1 _ _ pb cb nb HAb.out HTb.out HPb.out HCb.out HNb.out _ (by omega) HT2.out).mono ?_
    rintro e w3 ⟨ao2, cap2, rfl, _, hb3⟩
    have hB3 := bel_alloc (bel_trans hB2 hb3) (.cells #[.int .i64 Kb, .string Xb, .int .i64 Fb, .int .i64 Tb, .bool Lb] 24)
    have u3 := blk_alloc (blk_on u2 hb3) (.cells #[.int .i64 Kb, .string Xb, .int .i64 Fb, .int .i64 Tb, .bool Lb] 24)
    have v3 := tok_new w3 #[.int .i64 Kb, .string Xb, .int .i64 Fb, .int .i64 Tb, .bool Lb] 24
    obtain ⟨⟨c0, c1, c2, c3, c4⟩, _⟩ := five_cells u3
    obtain ⟨⟨d0, d1, d2, d3, d4⟩, _⟩ := five_cells v3
    have HB3 := Lib.hid hB3
    clear hB2 u2 hb3 HT2 hB3
    go_wp2_with fail
    refine (num_any _ _).mono ?_
    rintro e w4 ⟨rfl, rfl⟩
    go_wp2_with fail
    refine (num_any _ _).mono ?_
    rintro e w4 ⟨rfl, rfl⟩
    go_wp2_with fail
    go_ret
    exact ⟨rfl, HB3.out⟩
  by_cases e7 : Fb = 0
  rotate_left
  · have b0 : (ca != 0) = false := by rw [e0]; rfl
    have b1 : (cb != 0) = false := by rw [e1]; rfl
    have b2 : ¬ 0 < na := by omega
    have b3 : ¬ 0 < nb := by omega
    have b4 : (Fa != 0) = false := by rw [e4]; rfl
    have b5 : (Xa.toList == s.toList) = true := e5
    have b6 : (Ka == 0) = false := beq_eq_false_iff_ne.2 e6
    have b7 : (Fb != 0) = true := bne_iff_ne.2 e7
    clear e0 e1 e2 e3 e4 e5 e6 e7
    go_enter Tryd.func5, Tryd.ntmps5
    go_wp2_with fail
    refine (awake_any _ HT.out).mono ?_
    rintro e w1 ⟨rfl, hb1⟩
    have HT1 := Lib.hid (HT.out.below hb1)
    go_wp2_with fail
    refine (next_gen s 0 1 _ _ pa ca na HAa.out HTa.out HPa.out HCa.out HNa.out _ (by omega) HT1.out).mono ?_
    rintro e w2 ⟨ao, cap, rfl, _, hb2⟩
    have hB2 := bel_alloc (bel_trans hb1 hb2) (.cells #[.int .i64 Ka, .string Xa, .int .i64 Fa, .int .i64 Ta, .bool La] 24)
    have u2 := tok_new w2 #[.int .i64 Ka, .string Xa, .int .i64 Fa, .int .i64 Ta, .bool La] 24
    have HT2 := Lib.hid (HT.out.below hB2)
    clear hb1 hb2 HT1
    go_wp2_with fail
    refine (next_gen t 0 1 _ _ pb cb nb HAb.out HTb.out HPb.out HCb.out HNb.out _ (by omega) HT2.out).mono ?_
    rintro e w3 ⟨ao2, cap2, rfl, _, hb3⟩
    have hB3 := bel_alloc (bel_trans hB2 hb3) (.cells #[.int .i64 Kb, .string Xb, .int .i64 Fb, .int .i64 Tb, .bool Lb] 24)
    have u3 := blk_alloc (blk_on u2 hb3) (.cells #[.int .i64 Kb, .string Xb, .int .i64 Fb, .int .i64 Tb, .bool Lb] 24)
    have v3 := tok_new w3 #[.int .i64 Kb, .string Xb, .int .i64 Fb, .int .i64 Tb, .bool Lb] 24
    obtain ⟨⟨c0, c1, c2, c3, c4⟩, _⟩ := five_cells u3
    obtain ⟨⟨d0, d1, d2, d3, d4⟩, _⟩ := five_cells v3
    have HB3 := Lib.hid hB3
    clear hB2 u2 hb3 HT2 hB3
    go_wp2_with fail
    refine (num_any _ _).mono ?_
    rintro e w4 ⟨rfl, rfl⟩
    go_wp2_with fail
    refine (num_any _ _).mono ?_
    rintro e w4 ⟨rfl, rfl⟩
    go_wp2_with fail
    go_ret
    exact ⟨rfl, HB3.out⟩
  have hV := HVa.out (HCa.out.trans e0)
  have hW := HVb.out (HCb.out.trans e1)
  have hA := first_tok s (by rw [Ha.out]; exact HCa.out.trans e0) (by rw [Ha.out, ← hV.2.2.1]; exact e4)
  have hB := first_tok t (by rw [Hb.out]; exact HCb.out.trans e1) (by rw [Hb.out, ← hW.2.2.1]; exact e7)
  obtain ⟨ka, ma, ha1, ha2, ha3, ha4⟩ := hA
  obtain ⟨kb, mb, hb1', hb2', hb3', hb4'⟩ := hB
  rw [Ha.out] at ha2
  rw [Hb.out] at hb2'
  subst ha2 hb2'
  simp only at hV hW
  obtain ⟨v1, v2, v3, v4, v5⟩ := hV
  obtain ⟨x1, x2, x3, x4, x5⟩ := hW
  have hXs : Xa = s := by
    have := beq_iff_eq.1 e5
    rw [Lib.toList_data, Lib.toList_data] at this
    rw [← ofL_list s, ← this, ofL_list]
  have hma : ma = [] := by
    have hsf := common_sf false s.data.toList
    rw [ha1] at hsf
    have h1 := (show ma <:+ _ from hsf).length_le
    have h2 := congrArg (fun x : ByteArray => x.data.toList.length) (v2.symm.trans hXs)
    simp only [Str.ofL_list] at h2
    unfold upTo at h2
    rw [List.length_take] at h2
    by_cases e : s.data.toList.length = 0
    · exact List.eq_nil_of_length_eq_zero (by omega)
    · exact List.eq_nil_of_length_eq_zero (by omega)
  subst hma
  have hk0 : ka ≠ 0 := by rw [← v1]; exact e6
  obtain ⟨hc, hd⟩ := ends_all s t ka kb mb ha3 ha4 ha1 hk0 hb3' hb4' hb1'
  have hcs := cat_size s t
  have hcl := cat_list s t
  obtain ⟨u, hu⟩ : ∃ u, s ++ ⟨#[32]⟩ ++ t = u := ⟨_, rfl⟩
  rw [hu] at hc hd hcs hcl
  have hsl : s.data.toList.length = s.size := by simp
  have htl : t.data.toList.length = t.size := by simp
  have HTc : Hid (tokV u ⟨0, [], ka, u.data.toList, 32 :: t.data.toList, false, []⟩ = .agg #[.int .i64 Ka, .string Xa, .int .i64 Fa, .int .i64 Ta, .bool La]) := Lib.hid (by
    have h1 : Str.ofL (upTo u.data.toList (32 :: t.data.toList)) = s := by rw [hcl, upTo_app, ofL_list]
    have h2 : atS u (32 :: t.data.toList) = s.size := by unfold atS; rw [hcs, List.length_cons, htl]; omega
    rw [tok_ok rfl h1 (atS_all u) h2, v1, hXs, e4, v4, v5]
    rfl)
  have HTd : Hid (tokV u ⟨0, [], kb, t.data.toList, mb, false, []⟩ = .agg #[.int .i64 Kb, .string Xb, .int .i64 ((s.size : Nat) + 1 : Int), .int .i64 (atS u mb : Nat), .bool false]) := Lib.hid (by
    have h2 : atS u t.data.toList = s.size + 1 := by unfold atS; rw [hcs, htl]; omega
    rw [tok_ok rfl rfl h2 rfl, x1, x2]
    rfl)
  obtain ⟨q, hq⟩ : ∃ q, atS u mb = q := ⟨_, rfl⟩
  rw [hq] at HTd
  have HU := Lib.hid hu
  have Hc := Lib.hid hc
  have Hd := Lib.hid hd
  have hu8 : u.size ≤ 4194304 := by omega
  have hsum : ¬ 9223372036854775807 < s.size + 1 := by omega
  have hsum2 : ¬ 9223372036854775807 < s.size + 1 + t.size := by omega
  have b0 : (ca != 0) = false := by rw [e0]; rfl
  have b1 : (cb != 0) = false := by rw [e1]; rfl
  have b2 : ¬ 0 < na := by omega
  have b3 : ¬ 0 < nb := by omega
  have b4 : (Fa != 0) = false := by rw [e4]; rfl
  have b5 : (Xa.toList == s.toList) = true := e5
  have b6 : (Ka == 0) = false := beq_eq_false_iff_ne.2 e6
  have b7 : (Fb != 0) = false := by rw [e7]; rfl
  clear e0 e1 e2 e3 e4 e5 e6 e7 v1 v2 v3 v4 v5 x1 x2 x3 x4 x5 hXs hk0 hc hd hcs hcl hu hsl htl ha1 ha3 ha4 hb1' hb3' hb4' hq
  go_enter Tryd.func5, Tryd.ntmps5
  go_wp2_with fail
  refine (awake_any _ HT.out).mono ?_
  rintro e w1 ⟨rfl, hb1⟩
  have HT1 := Lib.hid (HT.out.below hb1)
  go_wp2_with fail
  refine (next_gen s 0 1 _ _ pa ca na HAa.out HTa.out HPa.out HCa.out HNa.out _ (by omega) HT1.out).mono ?_
  rintro e w2 ⟨ao, cap, rfl, _, hb2⟩
  have hB2 := bel_alloc (bel_trans hb1 hb2) (.cells #[.int .i64 Ka, .string Xa, .int .i64 Fa, .int .i64 Ta, .bool La] 24)
  have u2 := tok_new w2 #[.int .i64 Ka, .string Xa, .int .i64 Fa, .int .i64 Ta, .bool La] 24
  have HT2 := Lib.hid (HT.out.below hB2)
  clear hb1 hb2 HT1
  go_wp2_with fail
  refine (next_gen t 0 1 _ _ pb cb nb HAb.out HTb.out HPb.out HCb.out HNb.out _ (by omega) HT2.out).mono ?_
  rintro e w3 ⟨ao2, cap2, rfl, _, hb3⟩
  have hB3 := bel_alloc (bel_trans hB2 hb3) (.cells #[.int .i64 Kb, .string Xb, .int .i64 Fb, .int .i64 Tb, .bool Lb] 24)
  have u3 := blk_alloc (blk_on u2 hb3) (.cells #[.int .i64 Kb, .string Xb, .int .i64 Fb, .int .i64 Tb, .bool Lb] 24)
  have v3 := tok_new w3 #[.int .i64 Kb, .string Xb, .int .i64 Fb, .int .i64 Tb, .bool Lb] 24
  obtain ⟨⟨c0, c1, c2, c3, c4⟩, _⟩ := five_cells u3
  obtain ⟨⟨d0, d1, d2, d3, d4⟩, _⟩ := five_cells v3
  have u3' := u3
  have v3' := v3
  have HB3 := Lib.hid hB3
  clear hB2 u2 hb3 HT2 hB3
  go_wp2_with fail
  refine (num_any _ _).mono ?_
  rintro e w4 ⟨rfl, rfl⟩
  go_wp2_with fail
  refine (num_any _ _).mono ?_
  rintro e w4 ⟨rfl, rfl⟩
  have HT3 := Lib.hid (HT.out.below HB3.out)
  go_wp2_with fail
  rw [HU.out]
  refine (next_gen u 0 1 _ _ 0 0 0 Hc.out HTc.out (place_ok rfl) rfl rfl _ hu8 HT3.out).mono ?_
  rintro e w5 ⟨ao3, cap3, rfl, _, hb5⟩
  have hB5 := bel_alloc (bel_trans HB3.out hb5) (.cells #[.int .i64 Ka, .string Xa, .int .i64 Fa, .int .i64 Ta, .bool La] 24)
  have s5 := blk_alloc (blk_on u3 hb5) (.cells #[.int .i64 Ka, .string Xa, .int .i64 Fa, .int .i64 Ta, .bool La] 24)
  have t5 := blk_alloc (blk_on v3 hb5) (.cells #[.int .i64 Ka, .string Xa, .int .i64 Fa, .int .i64 Ta, .bool La] 24)
  have u5 := tok_new w5 #[.int .i64 Ka, .string Xa, .int .i64 Fa, .int .i64 Ta, .bool La] 24
  have HT5 := Lib.hid (HT.out.below hB5)
  clear u3 v3 hb5 HT3 c0 c1 c2 c3 c4 d0 d1 d2 d3 d4
  go_wp2_with fail
  rw [HU.out]
  refine (next_gen u s.size 1 _ _ 0 0 0 Hd.out HTd.out (place_ok rfl) rfl rfl _ hu8 HT5.out).mono ?_
  rintro e w6 ⟨ao4, cap4, rfl, _, hb6⟩
  have hB6 := bel_alloc (bel_trans hB5 hb6) (.cells #[.int .i64 Kb, .string Xb, .int .i64 ((s.size : Nat) + 1 : Int), .int .i64 (q : Nat), .bool false] 24)
  obtain ⟨⟨c0, c1, c2, c3, c4⟩, _⟩ := five_cells (blk_alloc (blk_on s5 hb6) (.cells #[.int .i64 Kb, .string Xb, .int .i64 ((s.size : Nat) + 1 : Int), .int .i64 (q : Nat), .bool false] 24))
  obtain ⟨⟨d0, d1, d2, d3, d4⟩, _⟩ := five_cells (blk_alloc (blk_on t5 hb6) (.cells #[.int .i64 Kb, .string Xb, .int .i64 ((s.size : Nat) + 1 : Int), .int .i64 (q : Nat), .bool false] 24))
  obtain ⟨⟨i0, i1, i2, i3, i4⟩, _⟩ := five_cells (blk_alloc (blk_on u5 hb6) (.cells #[.int .i64 Kb, .string Xb, .int .i64 ((s.size : Nat) + 1 : Int), .int .i64 (q : Nat), .bool false] 24))
  have HB6 := Lib.hid hB6
  clear hB5 s5 t5 u5 hb6 HT5 hB6
  go_wp2_with fail
  refine (num_any _ _).mono ?_
  rintro e w7 ⟨rfl, rfl⟩
  go_wp2_with fail
  refine (num_any _ _).mono ?_
  rintro e w7 ⟨rfl, rfl⟩
  go_wp2_with fail
  go_ret
  exact ⟨rfl, HB6.out⟩

end Lex
end Go.Proofs.YtfnilkhccomemaaDoor
