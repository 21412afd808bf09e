/-
  The law 'LexBlanks' for the goal 2.
-/
import Derived.Test.YtfnilkhccomemaaDoorLexBlankU
namespace Go.Proofs.YtfnilkhccomemaaDoor
namespace Lex
open Go.RowKit
open Str (lenL runeL)
theorem coms_few2 (s : ByteArray) (g : Int) {k : Int} {fr tt : List UInt8} {ln : Bool} {cs : List Com} (h : answer s 0 g = ⟨0, [], k, fr, tt, ln, cs⟩) : cs.length ≤ s.size := by
  obtain ⟨n, tk, gr, tm, gl, gcs, _, _, ha, _, _, _, hc, _⟩ := pieces_ok s 0 g (by rw [h])
  have e : cs = gcs := congrArg Ans.coms (h.symm.trans ha)
  have h1 := coms_len hc
  rw [Str.suf_len] at h1
  rw [e]; omega

set_option maxHeartbeats 16000000 in
set_option maxRecDepth 20000 in
theorem blanks_2_0 (s : ByteArray) (many : Int) (W : World) (hs : s.size ≤ 1048576) (hT : Tabs W.heap.size W) (hr : (IntKind.u64.wrap many).tmod 5 = 0) :
    Calls Tryd.prog 4 #[.string s, .int .i64 2, .int .i64 many] W fun e w' => e = .returned (.bool true) ∧ Below W.heap.size W w' := by
  have HT := Lib.hid hT
  clear hT
  obtain ⟨u, hu⟩ : ∃ u, (⟨#[97]⟩ ++ ⟨#[32]⟩ ++ s : ByteArray) = u := ⟨_, rfl⟩
  have hul : u.data.toList = 97 :: (gaps.getD 0 [] ++ s.data.toList) := by rw [← hu]; simp [gaps]
  have hus : u.size = s.size + 2 := by rw [← hu, cat3_size]; show 1 + 1 + s.size = _; omega
  have hu8 : u.size ≤ 4194304 := by omega
  have HU := Lib.hid hu
  clear hu
  cases hp : pre [35, 33] s.data.toList with
  | true =>
    have h1 : 1 < s.size := by have := pre_len hp; simp at this; omega
    have t1 : ((s.extract 0 2).toList == [35, 33]) = true := by
      rw [Lib.toList_data, take_two, beq_iff_eq]; exact of_decide_eq_true hp
    clear hp
    obtain ⟨a, ha⟩ : ∃ a, answer s 0 2 = a := ⟨_, rfl⟩
    obtain ⟨b, hb⟩ : ∃ a, answer u 1 2 = a := ⟨_, rfl⟩
    obtain ⟨Ka, Xa, Fa, Ta, La, hTa, _⟩ := tok_form s a
    obtain ⟨Kb, Xb, Fb, Tb, Lb, hTb, _⟩ := tok_form u b
    have HAa := Lib.hid ha; have HAb := Lib.hid hb; have HTa := Lib.hid hTa; have HTb := Lib.hid hTb
    clear ha hb hTa hTb hul
    go_enter Tryd.func4, Tryd.ntmps4
    go_wp2_with fail
    refine (awake_any W HT.out).mono ?_
    rintro e w0 ⟨rfl, hb0⟩
    have hB0 := bel_alloc hb0 (.cells #[.string ⟨#[32]⟩, .string ⟨#[9, 10]⟩, .string ⟨#[47, 42, 120, 42, 47]⟩, .string ⟨#[47, 47, 121, 10]⟩, .string ⟨#[13, 10, 32, 47, 42, 10, 42, 47, 32]⟩] 9)
    have HT0 := Lib.hid (HT.out.below hB0)
    clear hb0
    go_wp2_with fail
    
    refine (next_gen s 0 2 _ _ _ _ _ HAa.out HTa.out rfl rfl rfl _ (by omega) HT0.out).mono ?_
    rintro e w1 ⟨ao1, cap1, rfl, _, hb1⟩
    have hB1 := bel_alloc (bel_trans hB0 hb1) (.cells #[.int .i64 Ka, .string Xa, .int .i64 Fa, .int .i64 Ta, .bool La] 24)
    have HT1 := Lib.hid (HT.out.below hB1)
    clear hb1 hB0 HT0
    go_wp2_with fail
    rw [HU.out]
    refine (next_gen u 1 2 _ _ _ _ _ HAb.out HTb.out rfl rfl rfl _ hu8 HT1.out).mono ?_
    rintro e w2 ⟨ao2, cap2, rfl, _, hb2⟩
    have HB2 := Lib.hid (bel_alloc (bel_trans hB1 hb2) (.cells #[.int .i64 Kb, .string Xb, .int .i64 Fb, .int .i64 Tb, .bool Lb] 24))
    clear hb2 hB1 HT1
    go_wp2_with fail
    go_ret
    exact ⟨rfl, HB2.out⟩
  | false =>
    have t1 : ((s.extract 0 2).toList == [35, 33]) = false := by
      rw [Lib.toList_data, take_two, beq_eq_false_iff_ne]; exact of_decide_eq_false hp
    have hBA := blanks_all s u 2 0 (by decide) (by decide) hul hp
    clear hp
    rcases hBA with ⟨c, m, hm, hc, ha, hb⟩ | ⟨K, fr, tt, ln, cs, hfr, htt, ha, hb⟩
    · obtain ⟨p, hpp⟩ : ∃ p, atS s m = p := ⟨_, rfl⟩
      have hp2 : atS u m = p + 2 := by
        have h1 := hm.length_le
        have h2 : s.data.toList.length = s.size := by simp
        rw [← hpp]; unfold atS; omega
      have hp3 : p ≤ s.size := by rw [← hpp]; exact Nat.sub_le _ _
      have HAa := Lib.hid ha; have HAb := Lib.hid hb
      have HTa := Lib.hid (tok_no (s := s) (a := failA c m) hc)
      have HTb := Lib.hid (tok_no (s := u) (a := failA c m) hc)
      have HPa : Hid (placeV s (failA c m) = (p : Nat)) := Lib.hid (by rw [place_no (show (failA c m).code ≠ 0 from hc), ← hpp]; rfl)
      have HPb : Hid (placeV u (failA c m) = ((p : Nat) : Int) + 2) := Lib.hid (by rw [place_no (show (failA c m).code ≠ 0 from hc), show atS u (failA c m).place = p + 2 from hp2]; simp)
      have b0 : (c != 0) = true := bne_iff_ne.2 hc
      clear ha hb hm hpp hp2 hc hul
      go_enter Tryd.func4, Tryd.ntmps4
      go_wp2_with fail
      refine (awake_any W HT.out).mono ?_
      rintro e w0 ⟨rfl, hb0⟩
      have hB0 := bel_alloc hb0 (.cells #[.string ⟨#[32]⟩, .string ⟨#[9, 10]⟩, .string ⟨#[47, 42, 120, 42, 47]⟩, .string ⟨#[47, 47, 121, 10]⟩, .string ⟨#[13, 10, 32, 47, 42, 10, 42, 47, 32]⟩] 9)
      have HT0 := Lib.hid (HT.out.below hB0)
      clear hb0
      go_wp2_with fail
      
      refine (next_gen s 0 2 _ _ _ _ 0 HAa.out HTa.out HPa.out rfl rfl _ (by omega) HT0.out).mono ?_
      rintro e w1 ⟨ao1, cap1, rfl, _, hb1⟩
      have hB1 := bel_alloc (bel_trans hB0 hb1) zeroObj
      have HT1 := Lib.hid (HT.out.below hB1)
      clear hb1 hB0 HT0
      go_wp2_with fail
      rw [HU.out]
      refine (next_gen u 1 2 _ _ _ _ 0 HAb.out HTb.out HPb.out rfl rfl _ hu8 HT1.out).mono ?_
      rintro e w2 ⟨ao2, cap2, rfl, _, hb2⟩
      have HB2 := Lib.hid (bel_alloc (bel_trans hB1 hb2) zeroObj)
      clear hb2 hB1 HT1
      rw [show (failA c m).code = c from rfl]
      go_wp2_with fail
      all_goals
        refine (num_any _ _).mono ?_
        rintro e w3 ⟨rfl, rfl⟩
        go_wp2_with fail
        refine (num_any _ _).mono ?_
        rintro e w3 ⟨rfl, rfl⟩
        go_wp2_with fail
        refine (num_any _ _).mono ?_
        rintro e w3 ⟨rfl, rfl⟩
        go_wp2_with fail
        go_ret
        exact ⟨rfl, HB2.out⟩
    · obtain ⟨X, hX⟩ : ∃ X, Str.ofL (upTo fr tt) = X := ⟨_, rfl⟩
      obtain ⟨F, hF⟩ : ∃ F, atS s fr = F := ⟨_, rfl⟩
      obtain ⟨T, hT⟩ : ∃ T, atS s tt = T := ⟨_, rfl⟩
      obtain ⟨n, hn⟩ : ∃ n, cs.length = n := ⟨_, rfl⟩
      have h1 := hfr.length_le
      have h3 := htt.length_le
      have h2 : s.data.toList.length = s.size := by simp
      have hF2 : atS u fr = F + 2 := by rw [← hF]; unfold atS; omega
      have hT2 : atS u tt = T + 2 := by rw [← hT]; unfold atS; omega
      have hFs : F ≤ s.size := by rw [← hF]; exact Nat.sub_le _ _
      have hTs : T ≤ s.size := by rw [← hT]; exact Nat.sub_le _ _
      have HTa : Hid (tokV s ⟨0, [], K, fr, tt, ln, cs⟩ = .agg #[.int .i64 K, .string X, .int .i64 (F : Nat), .int .i64 (T : Nat), .bool ln]) := Lib.hid (tok_ok rfl hX hF hT)
      have HTb : Hid (tokV u ⟨0, [], K, fr, tt, gapLine 0 || ln, gapOwn s.data.toList 0 ++ cs⟩ = .agg #[.int .i64 K, .string X, .int .i64 (((F : Nat) : Int) + 2), .int .i64 (((T : Nat) : Int) + 2), .bool ln]) := Lib.hid (by rw [tok_ok rfl hX hF2 hT2]; rfl)
      have HAa := Lib.hid ha; have HAb := Lib.hid hb
      have HNa := Lib.hid hn
      obtain ⟨nb, hnb⟩ : ∃ m, n = m := ⟨_, rfl⟩
      have HNb : Hid ((gapOwn s.data.toList 0 ++ cs).length = nb) := Lib.hid (by rw [List.length_append, hn]; show 0 + n = _; omega)
      have HQ : Hid (((nb : Nat) : Int) = (n : Nat)) := Lib.hid (by omega)
      have q1 : (((nb : Nat) : Int) != (n : Nat)) = false := by rw [bne_eq_false_iff_eq]; exact HQ.out
      have HUs := Lib.hid hus
      have hnn : n ≤ 1048576 := by have := coms_few2 s 2 ha; omega
      have t2 : (X.toList == X.toList) = true := by simp
      clear ha hb hX hF hT hn hnb hfr htt h1 h3 h2 hF2 hT2 hul
      go_enter Tryd.func4, Tryd.ntmps4
      go_wp2_with fail
      refine (awake_any W HT.out).mono ?_
      rintro e w0 ⟨rfl, hb0⟩
      have hB0 := bel_alloc hb0 (.cells #[.string ⟨#[32]⟩, .string ⟨#[9, 10]⟩, .string ⟨#[47, 42, 120, 42, 47]⟩, .string ⟨#[47, 47, 121, 10]⟩, .string ⟨#[13, 10, 32, 47, 42, 10, 42, 47, 32]⟩] 9)
      have HT0 := Lib.hid (HT.out.below hB0)
      clear hb0
      go_wp2_with fail
      
      refine (next_gen s 0 2 _ _ _ _ _ HAa.out HTa.out (place_ok rfl) rfl HNa.out _ (by omega) HT0.out).mono ?_
      rintro e w1 ⟨ao1, cap1, rfl, _, hb1⟩
      have hB1 := bel_alloc (bel_trans hB0 hb1) (.cells #[.int .i64 K, .string X, .int .i64 (F : Nat), .int .i64 (T : Nat), .bool ln] 24)
      have u1 := tok_new w1 #[.int .i64 K, .string X, .int .i64 (F : Nat), .int .i64 (T : Nat), .bool ln] 24
      have HT1 := Lib.hid (HT.out.below hB1)
      clear hb1 hB0 HT0
      go_wp2_with fail
      rw [HU.out]
      refine (next_gen u 1 2 _ _ _ _ _ HAb.out HTb.out (place_ok rfl) rfl HNb.out _ hu8 HT1.out).mono ?_
      rintro e w2 ⟨ao2, cap2, rfl, hr2, hb2⟩
      have HB2 := Lib.hid (bel_alloc (bel_trans hB1 hb2) (.cells #[.int .i64 K, .string X, .int .i64 (((F : Nat) : Int) + 2), .int .i64 (((T : Nat) : Int) + 2), .bool ln] 24))
      have u2 := blk_alloc (blk_on u1 hb2) (.cells #[.int .i64 K, .string X, .int .i64 (((F : Nat) : Int) + 2), .int .i64 (((T : Nat) : Int) + 2), .bool ln] 24)
      have v2 := tok_new w2 #[.int .i64 K, .string X, .int .i64 (((F : Nat) : Int) + 2), .int .i64 (((T : Nat) : Int) + 2), .bool ln] 24
      obtain ⟨⟨c0, c1, c2, c3, c4⟩, _⟩ := five_cells u2
      obtain ⟨⟨d0, d1, d2, d3, d4⟩, _⟩ := five_cells v2
      
      clear hb2 hB1 HT1 u1 u2 v2 hr2
      go_wp2_with fail
      all_goals
        refine (num_any _ _).mono ?_
        rintro e w3 ⟨rfl, rfl⟩
        go_wp2_with fail
        refine (num_any _ _).mono ?_
        rintro e w3 ⟨rfl, rfl⟩
        go_wp2_with fail
        all_goals (cases ln <;> first | contradiction | (exfalso; have := HQ.out; omega) | (go_ret; exact ⟨rfl, HB2.out⟩))

set_option maxHeartbeats 16000000 in
set_option maxRecDepth 20000 in
theorem blanks_2_1 (s : ByteArray) (many : Int) (W : World) (hs : s.size ≤ 1048576) (hT : Tabs W.heap.size W) (hr : (IntKind.u64.wrap many).tmod 5 = 1) :
    Calls Tryd.prog 4 #[.string s, .int .i64 2, .int .i64 many] W fun e w' => e = .returned (.bool true) ∧ Below W.heap.size W w' := by
  have HT := Lib.hid hT
  clear hT
  obtain ⟨u, hu⟩ : ∃ u, (⟨#[97]⟩ ++ ⟨#[9, 10]⟩ ++ s : ByteArray) = u := ⟨_, rfl⟩
  have hul : u.data.toList = 97 :: (gaps.getD 1 [] ++ s.data.toList) := by rw [← hu]; simp [gaps]
  have hus : u.size = s.size + 3 := by rw [← hu, cat3_size]; show 1 + 2 + s.size = _; omega
  have hu8 : u.size ≤ 4194304 := by omega
  have HU := Lib.hid hu
  clear hu
  cases hp : pre [35, 33] s.data.toList with
  | true =>
    have h1 : 1 < s.size := by have := pre_len hp; simp at this; omega
    have t1 : ((s.extract 0 2).toList == [35, 33]) = true := by
      rw [Lib.toList_data, take_two, beq_iff_eq]; exact of_decide_eq_true hp
    clear hp
    obtain ⟨a, ha⟩ : ∃ a, answer s 0 2 = a := ⟨_, rfl⟩
    obtain ⟨b, hb⟩ : ∃ a, answer u 1 2 = a := ⟨_, rfl⟩
    obtain ⟨Ka, Xa, Fa, Ta, La, hTa, _⟩ := tok_form s a
    obtain ⟨Kb, Xb, Fb, Tb, Lb, hTb, _⟩ := tok_form u b
    have HAa := Lib.hid ha; have HAb := Lib.hid hb; have HTa := Lib.hid hTa; have HTb := Lib.hid hTb
    clear ha hb hTa hTb hul
    go_enter Tryd.func4, Tryd.ntmps4
    go_wp2_with fail
    refine (awake_any W HT.out).mono ?_
    rintro e w0 ⟨rfl, hb0⟩
    have hB0 := bel_alloc hb0 (.cells #[.string ⟨#[32]⟩, .string ⟨#[9, 10]⟩, .string ⟨#[47, 42, 120, 42, 47]⟩, .string ⟨#[47, 47, 121, 10]⟩, .string ⟨#[13, 10, 32, 47, 42, 10, 42, 47, 32]⟩] 9)
    have HT0 := Lib.hid (HT.out.below hB0)
    clear hb0
    go_wp2_with fail
    
    refine (next_gen s 0 2 _ _ _ _ _ HAa.out HTa.out rfl rfl rfl _ (by omega) HT0.out).mono ?_
    rintro e w1 ⟨ao1, cap1, rfl, _, hb1⟩
    have hB1 := bel_alloc (bel_trans hB0 hb1) (.cells #[.int .i64 Ka, .string Xa, .int .i64 Fa, .int .i64 Ta, .bool La] 24)
    have HT1 := Lib.hid (HT.out.below hB1)
    clear hb1 hB0 HT0
    go_wp2_with fail
    rw [HU.out]
    refine (next_gen u 1 2 _ _ _ _ _ HAb.out HTb.out rfl rfl rfl _ hu8 HT1.out).mono ?_
    rintro e w2 ⟨ao2, cap2, rfl, _, hb2⟩
    have HB2 := Lib.hid (bel_alloc (bel_trans hB1 hb2) (.cells #[.int .i64 Kb, .string Xb, .int .i64 Fb, .int .i64 Tb, .bool Lb] 24))
    clear hb2 hB1 HT1
    go_wp2_with fail
    go_ret
    exact ⟨rfl, HB2.out⟩
  | false =>
    have t1 : ((s.extract 0 2).toList == [35, 33]) = false := by
      rw [Lib.toList_data, take_two, beq_eq_false_iff_ne]; exact of_decide_eq_false hp
    have hBA := blanks_all s u 2 1 (by decide) (by decide) hul hp
    clear hp
    rcases hBA with ⟨c, m, hm, hc, ha, hb⟩ | ⟨K, fr, tt, ln, cs, hfr, htt, ha, hb⟩
    · obtain ⟨p, hpp⟩ : ∃ p, atS s m = p := ⟨_, rfl⟩
      have hp2 : atS u m = p + 3 := by
        have h1 := hm.length_le
        have h2 : s.data.toList.length = s.size := by simp
        rw [← hpp]; unfold atS; omega
      have hp3 : p ≤ s.size := by rw [← hpp]; exact Nat.sub_le _ _
      have HAa := Lib.hid ha; have HAb := Lib.hid hb
      have HTa := Lib.hid (tok_no (s := s) (a := failA c m) hc)
      have HTb := Lib.hid (tok_no (s := u) (a := failA c m) hc)
      have HPa : Hid (placeV s (failA c m) = (p : Nat)) := Lib.hid (by rw [place_no (show (failA c m).code ≠ 0 from hc), ← hpp]; rfl)
      have HPb : Hid (placeV u (failA c m) = ((p : Nat) : Int) + 3) := Lib.hid (by rw [place_no (show (failA c m).code ≠ 0 from hc), show atS u (failA c m).place = p + 3 from hp2]; simp)
      have b0 : (c != 0) = true := bne_iff_ne.2 hc
      clear ha hb hm hpp hp2 hc hul
      go_enter Tryd.func4, Tryd.ntmps4
      go_wp2_with fail
      refine (awake_any W HT.out).mono ?_
      rintro e w0 ⟨rfl, hb0⟩
      have hB0 := bel_alloc hb0 (.cells #[.string ⟨#[32]⟩, .string ⟨#[9, 10]⟩, .string ⟨#[47, 42, 120, 42, 47]⟩, .string ⟨#[47, 47, 121, 10]⟩, .string ⟨#[13, 10, 32, 47, 42, 10, 42, 47, 32]⟩] 9)
      have HT0 := Lib.hid (HT.out.below hB0)
      clear hb0
      go_wp2_with fail
      
      refine (next_gen s 0 2 _ _ _ _ 0 HAa.out HTa.out HPa.out rfl rfl _ (by omega) HT0.out).mono ?_
      rintro e w1 ⟨ao1, cap1, rfl, _, hb1⟩
      have hB1 := bel_alloc (bel_trans hB0 hb1) zeroObj
      have HT1 := Lib.hid (HT.out.below hB1)
      clear hb1 hB0 HT0
      go_wp2_with fail
      rw [HU.out]
      refine (next_gen u 1 2 _ _ _ _ 0 HAb.out HTb.out HPb.out rfl rfl _ hu8 HT1.out).mono ?_
      rintro e w2 ⟨ao2, cap2, rfl, _, hb2⟩
      have HB2 := Lib.hid (bel_alloc (bel_trans hB1 hb2) zeroObj)
      clear hb2 hB1 HT1
      rw [show (failA c m).code = c from rfl]
      go_wp2_with fail
      all_goals
        refine (num_any _ _).mono ?_
        rintro e w3 ⟨rfl, rfl⟩
        go_wp2_with fail
        refine (num_any _ _).mono ?_
        rintro e w3 ⟨rfl, rfl⟩
        go_wp2_with fail
        refine (num_any _ _).mono ?_
        rintro e w3 ⟨rfl, rfl⟩
        go_wp2_with fail
        go_ret
        exact ⟨rfl, HB2.out⟩
    · obtain ⟨X, hX⟩ : ∃ X, Str.ofL (upTo fr tt) = X := ⟨_, rfl⟩
      obtain ⟨F, hF⟩ : ∃ F, atS s fr = F := ⟨_, rfl⟩
      obtain ⟨T, hT⟩ : ∃ T, atS s tt = T := ⟨_, rfl⟩
      obtain ⟨n, hn⟩ : ∃ n, cs.length = n := ⟨_, rfl⟩
      have h1 := hfr.length_le
      have h3 := htt.length_le
      have h2 : s.data.toList.length = s.size := by simp
      have hF2 : atS u fr = F + 3 := by rw [← hF]; unfold atS; omega
      have hT2 : atS u tt = T + 3 := by rw [← hT]; unfold atS; omega
      have hFs : F ≤ s.size := by rw [← hF]; exact Nat.sub_le _ _
      have hTs : T ≤ s.size := by rw [← hT]; exact Nat.sub_le _ _
      have HTa : Hid (tokV s ⟨0, [], K, fr, tt, ln, cs⟩ = .agg #[.int .i64 K, .string X, .int .i64 (F : Nat), .int .i64 (T : Nat), .bool ln]) := Lib.hid (tok_ok rfl hX hF hT)
      have HTb : Hid (tokV u ⟨0, [], K, fr, tt, gapLine 1 || ln, gapOwn s.data.toList 1 ++ cs⟩ = .agg #[.int .i64 K, .string X, .int .i64 (((F : Nat) : Int) + 3), .int .i64 (((T : Nat) : Int) + 3), .bool true]) := Lib.hid (by rw [tok_ok rfl hX hF2 hT2]; rfl)
      have HAa := Lib.hid ha; have HAb := Lib.hid hb
      have HNa := Lib.hid hn
      obtain ⟨nb, hnb⟩ : ∃ m, n = m := ⟨_, rfl⟩
      have HNb : Hid ((gapOwn s.data.toList 1 ++ cs).length = nb) := Lib.hid (by rw [List.length_append, hn]; show 0 + n = _; omega)
      have HQ : Hid (((nb : Nat) : Int) = (n : Nat)) := Lib.hid (by omega)
      have q1 : (((nb : Nat) : Int) != (n : Nat)) = false := by rw [bne_eq_false_iff_eq]; exact HQ.out
      have HUs := Lib.hid hus
      have hnn : n ≤ 1048576 := by have := coms_few2 s 2 ha; omega
      have t2 : (X.toList == X.toList) = true := by simp
      clear ha hb hX hF hT hn hnb hfr htt h1 h3 h2 hF2 hT2 hul
      go_enter Tryd.func4, Tryd.ntmps4
      go_wp2_with fail
      refine (awake_any W HT.out).mono ?_
      rintro e w0 ⟨rfl, hb0⟩
      have hB0 := bel_alloc hb0 (.cells #[.string ⟨#[32]⟩, .string ⟨#[9, 10]⟩, .string ⟨#[47, 42, 120, 42, 47]⟩, .string ⟨#[47, 47, 121, 10]⟩, .string ⟨#[13, 10, 32, 47, 42, 10, 42, 47, 32]⟩] 9)
      have HT0 := Lib.hid (HT.out.below hB0)
      clear hb0
      go_wp2_with fail
      
      refine (next_gen s 0 2 _ _ _ _ _ HAa.out HTa.out (place_ok rfl) rfl HNa.out _ (by omega) HT0.out).mono ?_
      rintro e w1 ⟨ao1, cap1, rfl, _, hb1⟩
      have hB1 := bel_alloc (bel_trans hB0 hb1) (.cells #[.int .i64 K, .string X, .int .i64 (F : Nat), .int .i64 (T : Nat), .bool ln] 24)
      have u1 := tok_new w1 #[.int .i64 K, .string X, .int .i64 (F : Nat), .int .i64 (T : Nat), .bool ln] 24
      have HT1 := Lib.hid (HT.out.below hB1)
      clear hb1 hB0 HT0
      go_wp2_with fail
      rw [HU.out]
      refine (next_gen u 1 2 _ _ _ _ _ HAb.out HTb.out (place_ok rfl) rfl HNb.out _ hu8 HT1.out).mono ?_
      rintro e w2 ⟨ao2, cap2, rfl, hr2, hb2⟩
      have HB2 := Lib.hid (bel_alloc (bel_trans hB1 hb2) (.cells #[.int .i64 K, .string X, .int .i64 (((F : Nat) : Int) + 3), .int .i64 (((T : Nat) : Int) + 3), .bool true] 24))
      have u2 := blk_alloc (blk_on u1 hb2) (.cells #[.int .i64 K, .string X, .int .i64 (((F : Nat) : Int) + 3), .int .i64 (((T : Nat) : Int) + 3), .bool true] 24)
      have v2 := tok_new w2 #[.int .i64 K, .string X, .int .i64 (((F : Nat) : Int) + 3), .int .i64 (((T : Nat) : Int) + 3), .bool true] 24
      obtain ⟨⟨c0, c1, c2, c3, c4⟩, _⟩ := five_cells u2
      obtain ⟨⟨d0, d1, d2, d3, d4⟩, _⟩ := five_cells v2
      
      clear hb2 hB1 HT1 u1 u2 v2 hr2
      go_wp2_with fail
      all_goals
        refine (num_any _ _).mono ?_
        rintro e w3 ⟨rfl, rfl⟩
        go_wp2_with fail
        refine (num_any _ _).mono ?_
        rintro e w3 ⟨rfl, rfl⟩
        go_wp2_with fail
        all_goals (cases ln <;> first | contradiction | (exfalso; have := HQ.out; omega) | (go_ret; exact ⟨rfl, HB2.out⟩))

set_option maxHeartbeats 16000000 in
set_option maxRecDepth 20000 in
theorem blanks_2_2 (s : ByteArray) (many : Int) (W : World) (hs : s.size ≤ 1048576) (hT : Tabs W.heap.size W) (hr : (IntKind.u64.wrap many).tmod 5 = 2) :
    Calls Tryd.prog 4 #[.string s, .int .i64 2, .int .i64 many] W fun e w' => e = .returned (.bool true) ∧ Below W.heap.size W w' := by
  have HT := Lib.hid hT
  clear hT
  obtain ⟨u, hu⟩ : ∃ u, (⟨#[97]⟩ ++ ⟨#[47, 42, 120, 42, 47]⟩ ++ s : ByteArray) = u := ⟨_, rfl⟩
  have hul : u.data.toList = 97 :: (gaps.getD 2 [] ++ s.data.toList) := by rw [← hu]; simp [gaps]
  have hus : u.size = s.size + 6 := by rw [← hu, cat3_size]; show 1 + 5 + s.size = _; omega
  have hu8 : u.size ≤ 4194304 := by omega
  have HU := Lib.hid hu
  clear hu
  cases hp : pre [35, 33] s.data.toList with
  | true =>
    have h1 : 1 < s.size := by have := pre_len hp; simp at this; omega
    have t1 : ((s.extract 0 2).toList == [35, 33]) = true := by
      rw [Lib.toList_data, take_two, beq_iff_eq]; exact of_decide_eq_true hp
    clear hp
    obtain ⟨a, ha⟩ : ∃ a, answer s 0 2 = a := ⟨_, rfl⟩
    obtain ⟨b, hb⟩ : ∃ a, answer u 1 2 = a := ⟨_, rfl⟩
    obtain ⟨Ka, Xa, Fa, Ta, La, hTa, _⟩ := tok_form s a
    obtain ⟨Kb, Xb, Fb, Tb, Lb, hTb, _⟩ := tok_form u b
    have HAa := Lib.hid ha; have HAb := Lib.hid hb; have HTa := Lib.hid hTa; have HTb := Lib.hid hTb
    clear ha hb hTa hTb hul
    go_enter Tryd.func4, Tryd.ntmps4
    go_wp2_with fail
    refine (awake_any W HT.out).mono ?_
    rintro e w0 ⟨rfl, hb0⟩
    have hB0 := bel_alloc hb0 (.cells #[.string ⟨#[32]⟩, .string ⟨#[9, 10]⟩, .string ⟨#[47, 42, 120, 42, 47]⟩, .string ⟨#[47, 47, 121, 10]⟩, .string ⟨#[13, 10, 32, 47, 42, 10, 42, 47, 32]⟩] 9)
    have HT0 := Lib.hid (HT.out.below hB0)
    clear hb0
    go_wp2_with fail
    
    refine (next_gen s 0 2 _ _ _ _ _ HAa.out HTa.out rfl rfl rfl _ (by omega) HT0.out).mono ?_
    rintro e w1 ⟨ao1, cap1, rfl, _, hb1⟩
    have hB1 := bel_alloc (bel_trans hB0 hb1) (.cells #[.int .i64 Ka, .string Xa, .int .i64 Fa, .int .i64 Ta, .bool La] 24)
    have HT1 := Lib.hid (HT.out.below hB1)
    clear hb1 hB0 HT0
    go_wp2_with fail
    rw [HU.out]
    refine (next_gen u 1 2 _ _ _ _ _ HAb.out HTb.out rfl rfl rfl _ hu8 HT1.out).mono ?_
    rintro e w2 ⟨ao2, cap2, rfl, _, hb2⟩
    have HB2 := Lib.hid (bel_alloc (bel_trans hB1 hb2) (.cells #[.int .i64 Kb, .string Xb, .int .i64 Fb, .int .i64 Tb, .bool Lb] 24))
    clear hb2 hB1 HT1
    go_wp2_with fail
    go_ret
    exact ⟨rfl, HB2.out⟩
  | false =>
    have t1 : ((s.extract 0 2).toList == [35, 33]) = false := by
      rw [Lib.toList_data, take_two, beq_eq_false_iff_ne]; exact of_decide_eq_false hp
    have hBA := blanks_all s u 2 2 (by decide) (by decide) hul hp
    clear hp
    rcases hBA with ⟨c, m, hm, hc, ha, hb⟩ | ⟨K, fr, tt, ln, cs, hfr, htt, ha, hb⟩
    · obtain ⟨p, hpp⟩ : ∃ p, atS s m = p := ⟨_, rfl⟩
      have hp2 : atS u m = p + 6 := by
        have h1 := hm.length_le
        have h2 : s.data.toList.length = s.size := by simp
        rw [← hpp]; unfold atS; omega
      have hp3 : p ≤ s.size := by rw [← hpp]; exact Nat.sub_le _ _
      have HAa := Lib.hid ha; have HAb := Lib.hid hb
      have HTa := Lib.hid (tok_no (s := s) (a := failA c m) hc)
      have HTb := Lib.hid (tok_no (s := u) (a := failA c m) hc)
      have HPa : Hid (placeV s (failA c m) = (p : Nat)) := Lib.hid (by rw [place_no (show (failA c m).code ≠ 0 from hc), ← hpp]; rfl)
      have HPb : Hid (placeV u (failA c m) = ((p : Nat) : Int) + 6) := Lib.hid (by rw [place_no (show (failA c m).code ≠ 0 from hc), show atS u (failA c m).place = p + 6 from hp2]; simp)
      have b0 : (c != 0) = true := bne_iff_ne.2 hc
      clear ha hb hm hpp hp2 hc hul
      go_enter Tryd.func4, Tryd.ntmps4
      go_wp2_with fail
      refine (awake_any W HT.out).mono ?_
      rintro e w0 ⟨rfl, hb0⟩
      have hB0 := bel_alloc hb0 (.cells #[.string ⟨#[32]⟩, .string ⟨#[9, 10]⟩, .string ⟨#[47, 42, 120, 42, 47]⟩, .string ⟨#[47, 47, 121, 10]⟩, .string ⟨#[13, 10, 32, 47, 42, 10, 42, 47, 32]⟩] 9)
      have HT0 := Lib.hid (HT.out.below hB0)
      clear hb0
      go_wp2_with fail
      
      refine (next_gen s 0 2 _ _ _ _ 0 HAa.out HTa.out HPa.out rfl rfl _ (by omega) HT0.out).mono ?_
      rintro e w1 ⟨ao1, cap1, rfl, _, hb1⟩
      have hB1 := bel_alloc (bel_trans hB0 hb1) zeroObj
      have HT1 := Lib.hid (HT.out.below hB1)
      clear hb1 hB0 HT0
      go_wp2_with fail
      rw [HU.out]
      refine (next_gen u 1 2 _ _ _ _ 0 HAb.out HTb.out HPb.out rfl rfl _ hu8 HT1.out).mono ?_
      rintro e w2 ⟨ao2, cap2, rfl, _, hb2⟩
      have HB2 := Lib.hid (bel_alloc (bel_trans hB1 hb2) zeroObj)
      clear hb2 hB1 HT1
      rw [show (failA c m).code = c from rfl]
      go_wp2_with fail
      all_goals
        refine (num_any _ _).mono ?_
        rintro e w3 ⟨rfl, rfl⟩
        go_wp2_with fail
        refine (num_any _ _).mono ?_
        rintro e w3 ⟨rfl, rfl⟩
        go_wp2_with fail
        refine (num_any _ _).mono ?_
        rintro e w3 ⟨rfl, rfl⟩
        go_wp2_with fail
        go_ret
        exact ⟨rfl, HB2.out⟩
    · obtain ⟨X, hX⟩ : ∃ X, Str.ofL (upTo fr tt) = X := ⟨_, rfl⟩
      obtain ⟨F, hF⟩ : ∃ F, atS s fr = F := ⟨_, rfl⟩
      obtain ⟨T, hT⟩ : ∃ T, atS s tt = T := ⟨_, rfl⟩
      obtain ⟨n, hn⟩ : ∃ n, cs.length = n := ⟨_, rfl⟩
      have h1 := hfr.length_le
      have h3 := htt.length_le
      have h2 : s.data.toList.length = s.size := by simp
      have hF2 : atS u fr = F + 6 := by rw [← hF]; unfold atS; omega
      have hT2 : atS u tt = T + 6 := by rw [← hT]; unfold atS; omega
      have hFs : F ≤ s.size := by rw [← hF]; exact Nat.sub_le _ _
      have hTs : T ≤ s.size := by rw [← hT]; exact Nat.sub_le _ _
      have HTa : Hid (tokV s ⟨0, [], K, fr, tt, ln, cs⟩ = .agg #[.int .i64 K, .string X, .int .i64 (F : Nat), .int .i64 (T : Nat), .bool ln]) := Lib.hid (tok_ok rfl hX hF hT)
      have HTb : Hid (tokV u ⟨0, [], K, fr, tt, gapLine 2 || ln, gapOwn s.data.toList 2 ++ cs⟩ = .agg #[.int .i64 K, .string X, .int .i64 (((F : Nat) : Int) + 6), .int .i64 (((T : Nat) : Int) + 6), .bool ln]) := Lib.hid (by rw [tok_ok rfl hX hF2 hT2]; rfl)
      have HAa := Lib.hid ha; have HAb := Lib.hid hb
      have HNa := Lib.hid hn
      obtain ⟨nb, hnb⟩ : ∃ m, n + 1 = m := ⟨_, rfl⟩
      have HNb : Hid ((gapOwn s.data.toList 2 ++ cs).length = nb) := Lib.hid (by rw [List.length_append, hn]; show 1 + n = _; omega)
      have HQ : Hid (((nb : Nat) : Int) = (n : Nat) + 1) := Lib.hid (by omega)
      have q1 : (((nb : Nat) : Int) != (n : Nat) + 1) = false := by rw [bne_eq_false_iff_eq]; exact HQ.out
      have HUs := Lib.hid hus
      have hnn : n ≤ 1048576 := by have := coms_few2 s 2 ha; omega
      have t2 : (X.toList == X.toList) = true := by simp
      clear ha hb hX hF hT hn hnb hfr htt h1 h3 h2 hF2 hT2 hul
      go_enter Tryd.func4, Tryd.ntmps4
      go_wp2_with fail
      refine (awake_any W HT.out).mono ?_
      rintro e w0 ⟨rfl, hb0⟩
      have hB0 := bel_alloc hb0 (.cells #[.string ⟨#[32]⟩, .string ⟨#[9, 10]⟩, .string ⟨#[47, 42, 120, 42, 47]⟩, .string ⟨#[47, 47, 121, 10]⟩, .string ⟨#[13, 10, 32, 47, 42, 10, 42, 47, 32]⟩] 9)
      have HT0 := Lib.hid (HT.out.below hB0)
      clear hb0
      go_wp2_with fail
      
      refine (next_gen s 0 2 _ _ _ _ _ HAa.out HTa.out (place_ok rfl) rfl HNa.out _ (by omega) HT0.out).mono ?_
      rintro e w1 ⟨ao1, cap1, rfl, _, hb1⟩
      have hB1 := bel_alloc (bel_trans hB0 hb1) (.cells #[.int .i64 K, .string X, .int .i64 (F : Nat), .int .i64 (T : Nat), .bool ln] 24)
      have u1 := tok_new w1 #[.int .i64 K, .string X, .int .i64 (F : Nat), .int .i64 (T : Nat), .bool ln] 24
      have HT1 := Lib.hid (HT.out.below hB1)
      clear hb1 hB0 HT0
      go_wp2_with fail
      rw [HU.out]
      refine (next_gen u 1 2 _ _ _ _ _ HAb.out HTb.out (place_ok rfl) rfl HNb.out _ hu8 HT1.out).mono ?_
      rintro e w2 ⟨ao2, cap2, rfl, hr2, hb2⟩
      have HB2 := Lib.hid (bel_alloc (bel_trans hB1 hb2) (.cells #[.int .i64 K, .string X, .int .i64 (((F : Nat) : Int) + 6), .int .i64 (((T : Nat) : Int) + 6), .bool ln] 24))
      have u2 := blk_alloc (blk_on u1 hb2) (.cells #[.int .i64 K, .string X, .int .i64 (((F : Nat) : Int) + 6), .int .i64 (((T : Nat) : Int) + 6), .bool ln] 24)
      have v2 := tok_new w2 #[.int .i64 K, .string X, .int .i64 (((F : Nat) : Int) + 6), .int .i64 (((T : Nat) : Int) + 6), .bool ln] 24
      obtain ⟨⟨c0, c1, c2, c3, c4⟩, _⟩ := five_cells u2
      obtain ⟨⟨d0, d1, d2, d3, d4⟩, _⟩ := five_cells v2
      
      obtain ⟨gg, cap', hv, -, -⟩ := hr2.form (by have := HQ.out; omega)
      injection hv with hv1 _ hv2
      subst hv1 hv2
      have k0 : w2.cell? ⟨gg, 2, none⟩ = some (.int .i64 1) := by
        have h3 := owns_cell hr2 (g := gg) rfl (j := 2) (u := .int .i64 ((atS u ([47, 42, 120, 42, 47] ++ s.data.toList) : Nat))) rfl
        have h2 : atS u ([47, 42, 120, 42, 47] ++ s.data.toList) = 1 := by
          have h2 : s.data.toList.length = s.size := by simp
          unfold atS; rw [List.length_append, h2, HUs.out]; simp only [List.length_cons, List.length_nil]; omega
        rw [h2] at h3; exact h3
      have k1 := cel_alloc k0 (.cells #[.int .i64 K, .string X, .int .i64 (((F : Nat) : Int) + 6), .int .i64 (((T : Nat) : Int) + 6), .bool ln] 24)
      
      clear hb2 hB1 HT1 u1 u2 v2 hr2 k0
      go_wp2_with fail
      all_goals
        refine (num_any _ _).mono ?_
        rintro e w3 ⟨rfl, rfl⟩
        go_wp2_with fail
        refine (num_any _ _).mono ?_
        rintro e w3 ⟨rfl, rfl⟩
        go_wp2_with fail
        all_goals (cases ln <;> first | contradiction | (exfalso; have := HQ.out; omega) | (go_ret; exact ⟨rfl, HB2.out⟩))

set_option maxHeartbeats 16000000 in
set_option maxRecDepth 20000 in
theorem blanks_2_3 (s : ByteArray) (many : Int) (W : World) (hs : s.size ≤ 1048576) (hT : Tabs W.heap.size W) (hr : (IntKind.u64.wrap many).tmod 5 = 3) :
    Calls Tryd.prog 4 #[.string s, .int .i64 2, .int .i64 many] W fun e w' => e = .returned (.bool true) ∧ Below W.heap.size W w' := by
  have HT := Lib.hid hT
  clear hT
  obtain ⟨u, hu⟩ : ∃ u, (⟨#[97]⟩ ++ ⟨#[47, 47, 121, 10]⟩ ++ s : ByteArray) = u := ⟨_, rfl⟩
  have hul : u.data.toList = 97 :: (gaps.getD 3 [] ++ s.data.toList) := by rw [← hu]; simp [gaps]
  have hus : u.size = s.size + 5 := by rw [← hu, cat3_size]; show 1 + 4 + s.size = _; omega
  have hu8 : u.size ≤ 4194304 := by omega
  have HU := Lib.hid hu
  clear hu
  cases hp : pre [35, 33] s.data.toList with
  | true =>
    have h1 : 1 < s.size := by have := pre_len hp; simp at this; omega
    have t1 : ((s.extract 0 2).toList == [35, 33]) = true := by
      rw [Lib.toList_data, take_two, beq_iff_eq]; exact of_decide_eq_true hp
    clear hp
    obtain ⟨a, ha⟩ : ∃ a, answer s 0 2 = a := ⟨_, rfl⟩
    obtain ⟨b, hb⟩ : ∃ a, answer u 1 2 = a := ⟨_, rfl⟩
    obtain ⟨Ka, Xa, Fa, Ta, La, hTa, _⟩ := tok_form s a
    obtain ⟨Kb, Xb, Fb, Tb, Lb, hTb, _⟩ := tok_form u b
    have HAa := Lib.hid ha; have HAb := Lib.hid hb; have HTa := Lib.hid hTa; have HTb := Lib.hid hTb
    clear ha hb hTa hTb hul
    go_enter Tryd.func4, Tryd.ntmps4
    go_wp2_with fail
    refine (awake_any W HT.out).mono ?_
    rintro e w0 ⟨rfl, hb0⟩
    have hB0 := bel_alloc hb0 (.cells #[.string ⟨#[32]⟩, .string ⟨#[9, 10]⟩, .string ⟨#[47, 42, 120, 42, 47]⟩, .string ⟨#[47, 47, 121, 10]⟩, .string ⟨#[13, 10, 32, 47, 42, 10, 42, 47, 32]⟩] 9)
    have HT0 := Lib.hid (HT.out.below hB0)
    clear hb0
    go_wp2_with fail
    
    refine (next_gen s 0 2 _ _ _ _ _ HAa.out HTa.out rfl rfl rfl _ (by omega) HT0.out).mono ?_
    rintro e w1 ⟨ao1, cap1, rfl, _, hb1⟩
    have hB1 := bel_alloc (bel_trans hB0 hb1) (.cells #[.int .i64 Ka, .string Xa, .int .i64 Fa, .int .i64 Ta, .bool La] 24)
    have HT1 := Lib.hid (HT.out.below hB1)
    clear hb1 hB0 HT0
    go_wp2_with fail
    rw [HU.out]
    refine (next_gen u 1 2 _ _ _ _ _ HAb.out HTb.out rfl rfl rfl _ hu8 HT1.out).mono ?_
    rintro e w2 ⟨ao2, cap2, rfl, _, hb2⟩
    have HB2 := Lib.hid (bel_alloc (bel_trans hB1 hb2) (.cells #[.int .i64 Kb, .string Xb, .int .i64 Fb, .int .i64 Tb, .bool Lb] 24))
    clear hb2 hB1 HT1
    go_wp2_with fail
    go_ret
    exact ⟨rfl, HB2.out⟩
  | false =>
    have t1 : ((s.extract 0 2).toList == [35, 33]) = false := by
      rw [Lib.toList_data, take_two, beq_eq_false_iff_ne]; exact of_decide_eq_false hp
    have hBA := blanks_all s u 2 3 (by decide) (by decide) hul hp
    clear hp
    rcases hBA with ⟨c, m, hm, hc, ha, hb⟩ | ⟨K, fr, tt, ln, cs, hfr, htt, ha, hb⟩
    · obtain ⟨p, hpp⟩ : ∃ p, atS s m = p := ⟨_, rfl⟩
      have hp2 : atS u m = p + 5 := by
        have h1 := hm.length_le
        have h2 : s.data.toList.length = s.size := by simp
        rw [← hpp]; unfold atS; omega
      have hp3 : p ≤ s.size := by rw [← hpp]; exact Nat.sub_le _ _
      have HAa := Lib.hid ha; have HAb := Lib.hid hb
      have HTa := Lib.hid (tok_no (s := s) (a := failA c m) hc)
      have HTb := Lib.hid (tok_no (s := u) (a := failA c m) hc)
      have HPa : Hid (placeV s (failA c m) = (p : Nat)) := Lib.hid (by rw [place_no (show (failA c m).code ≠ 0 from hc), ← hpp]; rfl)
      have HPb : Hid (placeV u (failA c m) = ((p : Nat) : Int) + 5) := Lib.hid (by rw [place_no (show (failA c m).code ≠ 0 from hc), show atS u (failA c m).place = p + 5 from hp2]; simp)
      have b0 : (c != 0) = true := bne_iff_ne.2 hc
      clear ha hb hm hpp hp2 hc hul
      go_enter Tryd.func4, Tryd.ntmps4
      go_wp2_with fail
      refine (awake_any W HT.out).mono ?_
      rintro e w0 ⟨rfl, hb0⟩
      have hB0 := bel_alloc hb0 (.cells #[.string ⟨#[32]⟩, .string ⟨#[9, 10]⟩, .string ⟨#[47, 42, 120, 42, 47]⟩, .string ⟨#[47, 47, 121, 10]⟩, .string ⟨#[13, 10, 32, 47, 42, 10, 42, 47, 32]⟩] 9)
      have HT0 := Lib.hid (HT.out.below hB0)
      clear hb0
      go_wp2_with fail
      
      refine (next_gen s 0 2 _ _ _ _ 0 HAa.out HTa.out HPa.out rfl rfl _ (by omega) HT0.out).mono ?_
      rintro e w1 ⟨ao1, cap1, rfl, _, hb1⟩
      have hB1 := bel_alloc (bel_trans hB0 hb1) zeroObj
      have HT1 := Lib.hid (HT.out.below hB1)
      clear hb1 hB0 HT0
      go_wp2_with fail
      rw [HU.out]
      refine (next_gen u 1 2 _ _ _ _ 0 HAb.out HTb.out HPb.out rfl rfl _ hu8 HT1.out).mono ?_
      rintro e w2 ⟨ao2, cap2, rfl, _, hb2⟩
      have HB2 := Lib.hid (bel_alloc (bel_trans hB1 hb2) zeroObj)
      clear hb2 hB1 HT1
      rw [show (failA c m).code = c from rfl]
      go_wp2_with fail
      all_goals
        refine (num_any _ _).mono ?_
        rintro e w3 ⟨rfl, rfl⟩
        go_wp2_with fail
        refine (num_any _ _).mono ?_
        rintro e w3 ⟨rfl, rfl⟩
        go_wp2_with fail
        refine (num_any _ _).mono ?_
        rintro e w3 ⟨rfl, rfl⟩
        go_wp2_with fail
        go_ret
        exact ⟨rfl, HB2.out⟩
    · obtain ⟨X, hX⟩ : ∃ X, Str.ofL (upTo fr tt) = X := ⟨_, rfl⟩
      obtain ⟨F, hF⟩ : ∃ F, atS s fr = F := ⟨_, rfl⟩
      obtain ⟨T, hT⟩ : ∃ T, atS s tt = T := ⟨_, rfl⟩
      obtain ⟨n, hn⟩ : ∃ n, cs.length = n := ⟨_, rfl⟩
      have h1 := hfr.length_le
      have h3 := htt.length_le
      have h2 : s.data.toList.length = s.size := by simp
      have hF2 : atS u fr = F + 5 := by rw [← hF]; unfold atS; omega
      have hT2 : atS u tt = T + 5 := by rw [← hT]; unfold atS; omega
      have hFs : F ≤ s.size := by rw [← hF]; exact Nat.sub_le _ _
      have hTs : T ≤ s.size := by rw [← hT]; exact Nat.sub_le _ _
      have HTa : Hid (tokV s ⟨0, [], K, fr, tt, ln, cs⟩ = .agg #[.int .i64 K, .string X, .int .i64 (F : Nat), .int .i64 (T : Nat), .bool ln]) := Lib.hid (tok_ok rfl hX hF hT)
      have HTb : Hid (tokV u ⟨0, [], K, fr, tt, gapLine 3 || ln, gapOwn s.data.toList 3 ++ cs⟩ = .agg #[.int .i64 K, .string X, .int .i64 (((F : Nat) : Int) + 5), .int .i64 (((T : Nat) : Int) + 5), .bool true]) := Lib.hid (by rw [tok_ok rfl hX hF2 hT2]; rfl)
      have HAa := Lib.hid ha; have HAb := Lib.hid hb
      have HNa := Lib.hid hn
      obtain ⟨nb, hnb⟩ : ∃ m, n + 1 = m := ⟨_, rfl⟩
      have HNb : Hid ((gapOwn s.data.toList 3 ++ cs).length = nb) := Lib.hid (by rw [List.length_append, hn]; show 1 + n = _; omega)
      have HQ : Hid (((nb : Nat) : Int) = (n : Nat) + 1) := Lib.hid (by omega)
      have q1 : (((nb : Nat) : Int) != (n : Nat) + 1) = false := by rw [bne_eq_false_iff_eq]; exact HQ.out
      have HUs := Lib.hid hus
      have hnn : n ≤ 1048576 := by have := coms_few2 s 2 ha; omega
      have t2 : (X.toList == X.toList) = true := by simp
      clear ha hb hX hF hT hn hnb hfr htt h1 h3 h2 hF2 hT2 hul
      go_enter Tryd.func4, Tryd.ntmps4
      go_wp2_with fail
      refine (awake_any W HT.out).mono ?_
      rintro e w0 ⟨rfl, hb0⟩
      have hB0 := bel_alloc hb0 (.cells #[.string ⟨#[32]⟩, .string ⟨#[9, 10]⟩, .string ⟨#[47, 42, 120, 42, 47]⟩, .string ⟨#[47, 47, 121, 10]⟩, .string ⟨#[13, 10, 32, 47, 42, 10, 42, 47, 32]⟩] 9)
      have HT0 := Lib.hid (HT.out.below hB0)
      clear hb0
      go_wp2_with fail
      
      refine (next_gen s 0 2 _ _ _ _ _ HAa.out HTa.out (place_ok rfl) rfl HNa.out _ (by omega) HT0.out).mono ?_
      rintro e w1 ⟨ao1, cap1, rfl, _, hb1⟩
      have hB1 := bel_alloc (bel_trans hB0 hb1) (.cells #[.int .i64 K, .string X, .int .i64 (F : Nat), .int .i64 (T : Nat), .bool ln] 24)
      have u1 := tok_new w1 #[.int .i64 K, .string X, .int .i64 (F : Nat), .int .i64 (T : Nat), .bool ln] 24
      have HT1 := Lib.hid (HT.out.below hB1)
      clear hb1 hB0 HT0
      go_wp2_with fail
      rw [HU.out]
      refine (next_gen u 1 2 _ _ _ _ _ HAb.out HTb.out (place_ok rfl) rfl HNb.out _ hu8 HT1.out).mono ?_
      rintro e w2 ⟨ao2, cap2, rfl, hr2, hb2⟩
      have HB2 := Lib.hid (bel_alloc (bel_trans hB1 hb2) (.cells #[.int .i64 K, .string X, .int .i64 (((F : Nat) : Int) + 5), .int .i64 (((T : Nat) : Int) + 5), .bool true] 24))
      have u2 := blk_alloc (blk_on u1 hb2) (.cells #[.int .i64 K, .string X, .int .i64 (((F : Nat) : Int) + 5), .int .i64 (((T : Nat) : Int) + 5), .bool true] 24)
      have v2 := tok_new w2 #[.int .i64 K, .string X, .int .i64 (((F : Nat) : Int) + 5), .int .i64 (((T : Nat) : Int) + 5), .bool true] 24
      obtain ⟨⟨c0, c1, c2, c3, c4⟩, _⟩ := five_cells u2
      obtain ⟨⟨d0, d1, d2, d3, d4⟩, _⟩ := five_cells v2
      
      obtain ⟨gg, cap', hv, -, -⟩ := hr2.form (by have := HQ.out; omega)
      injection hv with hv1 _ hv2
      subst hv1 hv2
      have k0 : w2.cell? ⟨gg, 2, none⟩ = some (.int .i64 1) := by
        have h3 := owns_cell hr2 (g := gg) rfl (j := 2) (u := .int .i64 ((atS u ([47, 47, 121, 10] ++ s.data.toList) : Nat))) rfl
        have h2 : atS u ([47, 47, 121, 10] ++ s.data.toList) = 1 := by
          have h2 : s.data.toList.length = s.size := by simp
          unfold atS; rw [List.length_append, h2, HUs.out]; simp only [List.length_cons, List.length_nil]; omega
        rw [h2] at h3; exact h3
      have k1 := cel_alloc k0 (.cells #[.int .i64 K, .string X, .int .i64 (((F : Nat) : Int) + 5), .int .i64 (((T : Nat) : Int) + 5), .bool true] 24)
      
      clear hb2 hB1 HT1 u1 u2 v2 hr2 k0
      go_wp2_with fail
      all_goals
        refine (num_any _ _).mono ?_
        rintro e w3 ⟨rfl, rfl⟩
        go_wp2_with fail
        refine (num_any _ _).mono ?_
        rintro e w3 ⟨rfl, rfl⟩
        go_wp2_with fail
        all_goals (cases ln <;> first | contradiction | (exfalso; have := HQ.out; omega) | (go_ret; exact ⟨rfl, HB2.out⟩))

set_option maxHeartbeats 16000000 in
set_option maxRecDepth 20000 in
theorem blanks_2_4 (s : ByteArray) (many : Int) (W : World) (hs : s.size ≤ 1048576) (hT : Tabs W.heap.size W) (hr : (IntKind.u64.wrap many).tmod 5 = 4) :
    Calls Tryd.prog 4 #[.string s, .int .i64 2, .int .i64 many] W fun e w' => e = .returned (.bool true) ∧ Below W.heap.size W w' := by
  have HT := Lib.hid hT
  clear hT
  obtain ⟨u, hu⟩ : ∃ u, (⟨#[97]⟩ ++ ⟨#[13, 10, 32, 47, 42, 10, 42, 47, 32]⟩ ++ s : ByteArray) = u := ⟨_, rfl⟩
  have hul : u.data.toList = 97 :: (gaps.getD 4 [] ++ s.data.toList) := by rw [← hu]; simp [gaps]
  have hus : u.size = s.size + 10 := by rw [← hu, cat3_size]; show 1 + 9 + s.size = _; omega
  have hu8 : u.size ≤ 4194304 := by omega
  have HU := Lib.hid hu
  clear hu
  cases hp : pre [35, 33] s.data.toList with
  | true =>
    have h1 : 1 < s.size := by have := pre_len hp; simp at this; omega
    have t1 : ((s.extract 0 2).toList == [35, 33]) = true := by
      rw [Lib.toList_data, take_two, beq_iff_eq]; exact of_decide_eq_true hp
    clear hp
    obtain ⟨a, ha⟩ : ∃ a, answer s 0 2 = a := ⟨_, rfl⟩
    obtain ⟨b, hb⟩ : ∃ a, answer u 1 2 = a := ⟨_, rfl⟩
    obtain ⟨Ka, Xa, Fa, Ta, La, hTa, _⟩ := tok_form s a
    obtain ⟨Kb, Xb, Fb, Tb, Lb, hTb, _⟩ := tok_form u b
    have HAa := Lib.hid ha; have HAb := Lib.hid hb; have HTa := Lib.hid hTa; have HTb := Lib.hid hTb
    clear ha hb hTa hTb hul
    go_enter Tryd.func4, Tryd.ntmps4
    go_wp2_with fail
    refine (awake_any W HT.out).mono ?_
    rintro e w0 ⟨rfl, hb0⟩
    have hB0 := bel_alloc hb0 (.cells #[.string ⟨#[32]⟩, .string ⟨#[9, 10]⟩, .string ⟨#[47, 42, 120, 42, 47]⟩, .string ⟨#[47, 47, 121, 10]⟩, .string ⟨#[13, 10, 32, 47, 42, 10, 42, 47, 32]⟩] 9)
    have HT0 := Lib.hid (HT.out.below hB0)
    clear hb0
    go_wp2_with fail
    
    refine (next_gen s 0 2 _ _ _ _ _ HAa.out HTa.out rfl rfl rfl _ (by omega) HT0.out).mono ?_
    rintro e w1 ⟨ao1, cap1, rfl, _, hb1⟩
    have hB1 := bel_alloc (bel_trans hB0 hb1) (.cells #[.int .i64 Ka, .string Xa, .int .i64 Fa, .int .i64 Ta, .bool La] 24)
    have HT1 := Lib.hid (HT.out.below hB1)
    clear hb1 hB0 HT0
    go_wp2_with fail
    rw [HU.out]
    refine (next_gen u 1 2 _ _ _ _ _ HAb.out HTb.out rfl rfl rfl _ hu8 HT1.out).mono ?_
    rintro e w2 ⟨ao2, cap2, rfl, _, hb2⟩
    have HB2 := Lib.hid (bel_alloc (bel_trans hB1 hb2) (.cells #[.int .i64 Kb, .string Xb, .int .i64 Fb, .int .i64 Tb, .bool Lb] 24))
    clear hb2 hB1 HT1
    go_wp2_with fail
    go_ret
    exact ⟨rfl, HB2.out⟩
  | false =>
    have t1 : ((s.extract 0 2).toList == [35, 33]) = false := by
      rw [Lib.toList_data, take_two, beq_eq_false_iff_ne]; exact of_decide_eq_false hp
    have hBA := blanks_all s u 2 4 (by decide) (by decide) hul hp
    clear hp
    rcases hBA with ⟨c, m, hm, hc, ha, hb⟩ | ⟨K, fr, tt, ln, cs, hfr, htt, ha, hb⟩
    · obtain ⟨p, hpp⟩ : ∃ p, atS s m = p := ⟨_, rfl⟩
      have hp2 : atS u m = p + 10 := by
        have h1 := hm.length_le
        have h2 : s.data.toList.length = s.size := by simp
        rw [← hpp]; unfold atS; omega
      have hp3 : p ≤ s.size := by rw [← hpp]; exact Nat.sub_le _ _
      have HAa := Lib.hid ha; have HAb := Lib.hid hb
      have HTa := Lib.hid (tok_no (s := s) (a := failA c m) hc)
      have HTb := Lib.hid (tok_no (s := u) (a := failA c m) hc)
      have HPa : Hid (placeV s (failA c m) = (p : Nat)) := Lib.hid (by rw [place_no (show (failA c m).code ≠ 0 from hc), ← hpp]; rfl)
      have HPb : Hid (placeV u (failA c m) = ((p : Nat) : Int) + 10) := Lib.hid (by rw [place_no (show (failA c m).code ≠ 0 from hc), show atS u (failA c m).place = p + 10 from hp2]; simp)
      have b0 : (c != 0) = true := bne_iff_ne.2 hc
      clear ha hb hm hpp hp2 hc hul
      go_enter Tryd.func4, Tryd.ntmps4
      go_wp2_with fail
      refine (awake_any W HT.out).mono ?_
      rintro e w0 ⟨rfl, hb0⟩
      have hB0 := bel_alloc hb0 (.cells #[.string ⟨#[32]⟩, .string ⟨#[9, 10]⟩, .string ⟨#[47, 42, 120, 42, 47]⟩, .string ⟨#[47, 47, 121, 10]⟩, .string ⟨#[13, 10, 32, 47, 42, 10, 42, 47, 32]⟩] 9)
      have HT0 := Lib.hid (HT.out.below hB0)
      clear hb0
      go_wp2_with fail
      
      refine (next_gen s 0 2 _ _ _ _ 0 HAa.out HTa.out HPa.out rfl rfl _ (by omega) HT0.out).mono ?_
      rintro e w1 ⟨ao1, cap1, rfl, _, hb1⟩
      have hB1 := bel_alloc (bel_trans hB0 hb1) zeroObj
      have HT1 := Lib.hid (HT.out.below hB1)
      clear hb1 hB0 HT0
      go_wp2_with fail
      rw [HU.out]
      refine (next_gen u 1 2 _ _ _ _ 0 HAb.out HTb.out HPb.out rfl rfl _ hu8 HT1.out).mono ?_
      rintro e w2 ⟨ao2, cap2, rfl, _, hb2⟩
      have HB2 := Lib.hid (bel_alloc (bel_trans hB1 hb2) zeroObj)
      clear hb2 hB1 HT1
      rw [show (failA c m).code = c from rfl]
      go_wp2_with fail
      all_goals
        refine (num_any _ _).mono ?_
        rintro e w3 ⟨rfl, rfl⟩
        go_wp2_with fail
        refine (num_any _ _).mono ?_
        rintro e w3 ⟨rfl, rfl⟩
        go_wp2_with fail
        refine (num_any _ _).mono ?_
        rintro e w3 ⟨rfl, rfl⟩
        go_wp2_with fail
        go_ret
        exact ⟨rfl, HB2.out⟩
    · obtain ⟨X, hX⟩ : ∃ X, Str.ofL (upTo fr tt) = X := ⟨_, rfl⟩
      obtain ⟨F, hF⟩ : ∃ F, atS s fr = F := ⟨_, rfl⟩
      obtain ⟨T, hT⟩ : ∃ T, atS s tt = T := ⟨_, rfl⟩
      obtain ⟨n, hn⟩ : ∃ n, cs.length = n := ⟨_, rfl⟩
      have h1 := hfr.length_le
      have h3 := htt.length_le
      have h2 : s.data.toList.length = s.size := by simp
      have hF2 : atS u fr = F + 10 := by rw [← hF]; unfold atS; omega
      have hT2 : atS u tt = T + 10 := by rw [← hT]; unfold atS; omega
      have hFs : F ≤ s.size := by rw [← hF]; exact Nat.sub_le _ _
      have hTs : T ≤ s.size := by rw [← hT]; exact Nat.sub_le _ _
      have HTa : Hid (tokV s ⟨0, [], K, fr, tt, ln, cs⟩ = .agg #[.int .i64 K, .string X, .int .i64 (F : Nat), .int .i64 (T : Nat), .bool ln]) := Lib.hid (tok_ok rfl hX hF hT)
      have HTb : Hid (tokV u ⟨0, [], K, fr, tt, gapLine 4 || ln, gapOwn s.data.toList 4 ++ cs⟩ = .agg #[.int .i64 K, .string X, .int .i64 (((F : Nat) : Int) + 10), .int .i64 (((T : Nat) : Int) + 10), .bool true]) := Lib.hid (by rw [tok_ok rfl hX hF2 hT2]; rfl)
      have HAa := Lib.hid ha; have HAb := Lib.hid hb
      have HNa := Lib.hid hn
      obtain ⟨nb, hnb⟩ : ∃ m, n + 1 = m := ⟨_, rfl⟩
      have HNb : Hid ((gapOwn s.data.toList 4 ++ cs).length = nb) := Lib.hid (by rw [List.length_append, hn]; show 1 + n = _; omega)
      have HQ : Hid (((nb : Nat) : Int) = (n : Nat) + 1) := Lib.hid (by omega)
      have q1 : (((nb : Nat) : Int) != (n : Nat) + 1) = false := by rw [bne_eq_false_iff_eq]; exact HQ.out
      have HUs := Lib.hid hus
      have hnn : n ≤ 1048576 := by have := coms_few2 s 2 ha; omega
      have t2 : (X.toList == X.toList) = true := by simp
      clear ha hb hX hF hT hn hnb hfr htt h1 h3 h2 hF2 hT2 hul
      go_enter Tryd.func4, Tryd.ntmps4
      go_wp2_with fail
      refine (awake_any W HT.out).mono ?_
      rintro e w0 ⟨rfl, hb0⟩
      have hB0 := bel_alloc hb0 (.cells #[.string ⟨#[32]⟩, .string ⟨#[9, 10]⟩, .string ⟨#[47, 42, 120, 42, 47]⟩, .string ⟨#[47, 47, 121, 10]⟩, .string ⟨#[13, 10, 32, 47, 42, 10, 42, 47, 32]⟩] 9)
      have HT0 := Lib.hid (HT.out.below hB0)
      clear hb0
      go_wp2_with fail
      
      refine (next_gen s 0 2 _ _ _ _ _ HAa.out HTa.out (place_ok rfl) rfl HNa.out _ (by omega) HT0.out).mono ?_
      rintro e w1 ⟨ao1, cap1, rfl, _, hb1⟩
      have hB1 := bel_alloc (bel_trans hB0 hb1) (.cells #[.int .i64 K, .string X, .int .i64 (F : Nat), .int .i64 (T : Nat), .bool ln] 24)
      have u1 := tok_new w1 #[.int .i64 K, .string X, .int .i64 (F : Nat), .int .i64 (T : Nat), .bool ln] 24
      have HT1 := Lib.hid (HT.out.below hB1)
      clear hb1 hB0 HT0
      go_wp2_with fail
      rw [HU.out]
      refine (next_gen u 1 2 _ _ _ _ _ HAb.out HTb.out (place_ok rfl) rfl HNb.out _ hu8 HT1.out).mono ?_
      rintro e w2 ⟨ao2, cap2, rfl, hr2, hb2⟩
      have HB2 := Lib.hid (bel_alloc (bel_trans hB1 hb2) (.cells #[.int .i64 K, .string X, .int .i64 (((F : Nat) : Int) + 10), .int .i64 (((T : Nat) : Int) + 10), .bool true] 24))
      have u2 := blk_alloc (blk_on u1 hb2) (.cells #[.int .i64 K, .string X, .int .i64 (((F : Nat) : Int) + 10), .int .i64 (((T : Nat) : Int) + 10), .bool true] 24)
      have v2 := tok_new w2 #[.int .i64 K, .string X, .int .i64 (((F : Nat) : Int) + 10), .int .i64 (((T : Nat) : Int) + 10), .bool true] 24
      obtain ⟨⟨c0, c1, c2, c3, c4⟩, _⟩ := five_cells u2
      obtain ⟨⟨d0, d1, d2, d3, d4⟩, _⟩ := five_cells v2
      
      obtain ⟨gg, cap', hv, -, -⟩ := hr2.form (by have := HQ.out; omega)
      injection hv with hv1 _ hv2
      subst hv1 hv2
      have k0 : w2.cell? ⟨gg, 2, none⟩ = some (.int .i64 4) := by
        have h3 := owns_cell hr2 (g := gg) rfl (j := 2) (u := .int .i64 ((atS u ([47, 42, 10, 42, 47, 32] ++ s.data.toList) : Nat))) rfl
        have h2 : atS u ([47, 42, 10, 42, 47, 32] ++ s.data.toList) = 4 := by
          have h2 : s.data.toList.length = s.size := by simp
          unfold atS; rw [List.length_append, h2, HUs.out]; simp only [List.length_cons, List.length_nil]; omega
        rw [h2] at h3; exact h3
      have k1 := cel_alloc k0 (.cells #[.int .i64 K, .string X, .int .i64 (((F : Nat) : Int) + 10), .int .i64 (((T : Nat) : Int) + 10), .bool true] 24)
      
      clear hb2 hB1 HT1 u1 u2 v2 hr2 k0
      go_wp2_with fail
      all_goals
        refine (num_any _ _).mono ?_
        rintro e w3 ⟨rfl, rfl⟩
        go_wp2_with fail
        refine (num_any _ _).mono ?_
        rintro e w3 ⟨rfl, rfl⟩
        go_wp2_with fail
        all_goals (cases ln <;> first | contradiction | (exfalso; have := HQ.out; omega) | (go_ret; exact ⟨rfl, HB2.out⟩))

theorem blanks_2 (s : ByteArray) (many : Int) (W : World) (hs : s.size ≤ 1048576) (hT : Tabs W.heap.size W) :
    Calls Tryd.prog 4 #[.string s, .int .i64 2, .int .i64 many] W fun e w' => e = .returned (.bool true) ∧ Below W.heap.size W w' := by
  have h1 : 0 ≤ IntKind.u64.wrap many := u64_nonneg many
  have h2 : (IntKind.u64.wrap many).tmod 5 = 0 ∨ (IntKind.u64.wrap many).tmod 5 = 1 ∨ (IntKind.u64.wrap many).tmod 5 = 2 ∨ (IntKind.u64.wrap many).tmod 5 = 3 ∨ (IntKind.u64.wrap many).tmod 5 = 4 := by
    rw [Int.tmod_eq_emod_of_nonneg h1]; omega
  rcases h2 with h | h | h | h | h
  · exact blanks_2_0 s many W hs hT h
  · exact blanks_2_1 s many W hs hT h
  · exact blanks_2_2 s many W hs hT h
  · exact blanks_2_3 s many W hs hT h
  · exact blanks_2_4 s many W hs hT h

end Lex
end Go.Proofs.YtfnilkhccomemaaDoor
