/-
  A text that is one token of a kind: the laws on numbers and on string literals.
-/
import Derived.Test.YtggibhlmnfodaaaDoorLexAll
import Derived.Test.YtggibhlmnfodaaaDoorLexOnly
namespace Go.Proofs.YtggibhlmnfodaaaDoor
namespace Lex
open Go.RowKit
open Str (lenL runeL)

/-- Is a text one token of a kind? -/
def onlyB (s : ByteArray) (a : Ans) (k : Int) : Bool :=
  decide (a.code = 0) && (decide (a.kind = k) && (((Str.ofL (upTo a.fr a.to)).toList == s.toList) && (decide (atS s a.fr = 0) && (decide (atS s a.to = s.size) && decide (a.coms.length = 0)))))

theorem tok_ok {s : ByteArray} {a : Ans} (h : a.code = 0) {X : ByteArray} {F T : Nat} (hX : Str.ofL (upTo a.fr a.to) = X) (hF : atS s a.fr = F) (hT : atS s a.to = T) : tokV s a = .agg #[.int .i64 a.kind, .string X, .int .i64 (F : Nat), .int .i64 (T : Nat), .bool a.line] := by
  rw [tokV, if_pos h, tokOf, hX, hF, hT]
theorem tok_no {s : ByteArray} {a : Ans} (h : a.code ≠ 0) : tokV s a = .agg #[.int .i64 0, .string ⟨#[]⟩, .int .i64 0, .int .i64 0, .bool false] := by
  rw [tokV, if_neg h]; rfl
theorem place_ok {s : ByteArray} {a : Ans} (h : a.code = 0) : placeV s a = 0 := by rw [placeV, if_pos h]
theorem place_no {s : ByteArray} {a : Ans} (h : a.code ≠ 0) : placeV s a = (atS s a.place : Nat) := by rw [placeV, if_neg h]

set_option maxHeartbeats 8000000 in
set_option maxRecDepth 20000 in
theorem only_any (s : ByteArray) (g k : Int) (a : Ans) (ha : answer s 0 g = a) (b : Bool) (hb : onlyB s a k = b) (w : World) (hs : s.size ≤ 4194304) (hT : Tabs w.heap.size w) :
    Calls Tryd.prog 6 #[.string s, .int .i64 g, .int .i64 k] w fun e w' => e = .returned (.bool b) ∧ Below w.heap.size w w' := by
  have HT := Lib.hid hT
  have HA := Lib.hid ha
  have HO := Lib.hid (hb.symm.trans (onlyB.eq_1 s a k))
  clear hT ha hb
  by_cases c1 : a.code = 0
  · obtain ⟨X, hX⟩ : ∃ X, Str.ofL (upTo a.fr a.to) = X := ⟨_, rfl⟩
    obtain ⟨F, hF⟩ : ∃ F, atS s a.fr = F := ⟨_, rfl⟩
    obtain ⟨T, hT⟩ : ∃ T, atS s a.to = T := ⟨_, rfl⟩
    obtain ⟨n, hn⟩ : ∃ n, a.coms.length = n := ⟨_, rfl⟩
    obtain ⟨kk, hk⟩ : ∃ k, a.kind = k := ⟨_, rfl⟩
    obtain ⟨ln, hl⟩ : ∃ l, a.line = l := ⟨_, rfl⟩
    have HTok : Hid (tokV s a = .agg #[.int .i64 kk, .string X, .int .i64 (F : Nat), .int .i64 (T : Nat), .bool ln]) := Lib.hid (by rw [tok_ok c1 hX hF hT, hk, hl])
    have HB : Hid (b = (decide (kk = k) && ((X.toList == s.toList) && (decide (F = 0) && (decide (T = s.size) && decide (n = 0)))))) := Lib.hid (by rw [HO.out, decide_eq_true c1, Bool.true_and, hX, hF, hT, hn, hk])
    have HP := Lib.hid (place_ok (s := s) c1)
    have HC := Lib.hid c1
    have HN := Lib.hid hn
    clear c1 hX hF hT hn hk hl HO
    by_cases e0 : kk = k
    rotate_left
    · have Hb : Hid (b = false) := Lib.hid (by rw [HB.out, decide_eq_false e0, Bool.false_and])
      have b0 : (kk == k) = false := beq_eq_false_iff_ne.2 e0
      clear e0 HB
      go_enter Tryd.func6, Tryd.ntmps6
      go_wp2_with fail
      refine (next_gen s 0 g a _ 0 0 n HA.out HTok.out HP.out HC.out HN.out _ hs HT.out).mono ?_
      rintro e w1 ⟨ao, cap, rfl, _, hb1⟩
      have HB1 := Lib.hid (bel_alloc hb1 (.cells #[.int .i64 kk, .string X, .int .i64 (F : Nat), .int .i64 (T : Nat), .bool ln] 26))
      clear hb1
      go_wp2_with fail
      refine (num_any _ _).mono ?_
      rintro e w4 ⟨rfl, rfl⟩
      go_wp2_with fail
      go_ret
      rw [Hb.out]
      exact ⟨rfl, HB1.out⟩
    by_cases e1 : (X.toList == s.toList) = true
    rotate_left
    · have Hb : Hid (b = false) := Lib.hid (by rw [HB.out, decide_eq_true e0, Bool.true_and, Bool.eq_false_iff.2 e1, Bool.false_and])
      have b0 : (kk == k) = true := beq_iff_eq.2 e0
      have b1 : (X.toList == s.toList) = false := by simpa using e1
      clear e0 e1 HB
      go_enter Tryd.func6, Tryd.ntmps6
      go_wp2_with fail
      refine (next_gen s 0 g a _ 0 0 n HA.out HTok.out HP.out HC.out HN.out _ hs HT.out).mono ?_
      rintro e w1 ⟨ao, cap, rfl, _, hb1⟩
      have HB1 := Lib.hid (bel_alloc hb1 (.cells #[.int .i64 kk, .string X, .int .i64 (F : Nat), .int .i64 (T : Nat), .bool ln] 26))
      clear hb1
      go_wp2_with fail
      refine (num_any _ _).mono ?_
      rintro e w4 ⟨rfl, rfl⟩
      go_wp2_with fail
      go_ret
      rw [Hb.out]
      exact ⟨rfl, HB1.out⟩
    by_cases e2 : F = 0
    rotate_left
    · have Hb : Hid (b = false) := Lib.hid (by rw [HB.out, decide_eq_true e0, Bool.true_and, e1, Bool.true_and, decide_eq_false e2, Bool.false_and])
      have b0 : (kk == k) = true := beq_iff_eq.2 e0
      have b1 : (X.toList == s.toList) = true := e1
      have b2 : (((F : Nat) : Int) == 0) = false := beq_eq_false_iff_ne.2 (by omega)
      clear e0 e1 e2 HB
      go_enter Tryd.func6, Tryd.ntmps6
      go_wp2_with fail
      refine (next_gen s 0 g a _ 0 0 n HA.out HTok.out HP.out HC.out HN.out _ hs HT.out).mono ?_
      rintro e w1 ⟨ao, cap, rfl, _, hb1⟩
      have HB1 := Lib.hid (bel_alloc hb1 (.cells #[.int .i64 kk, .string X, .int .i64 (F : Nat), .int .i64 (T : Nat), .bool ln] 26))
      clear hb1
      go_wp2_with fail
      refine (num_any _ _).mono ?_
      rintro e w4 ⟨rfl, rfl⟩
      go_wp2_with fail
      go_ret
      rw [Hb.out]
      exact ⟨rfl, HB1.out⟩
    by_cases e3 : T = s.size
    rotate_left
    · have Hb : Hid (b = false) := Lib.hid (by rw [HB.out, decide_eq_true e0, Bool.true_and, e1, Bool.true_and, decide_eq_true e2, Bool.true_and, decide_eq_false e3, Bool.false_and])
      have b0 : (kk == k) = true := beq_iff_eq.2 e0
      have b1 : (X.toList == s.toList) = true := e1
      have b2 : (((F : Nat) : Int) == 0) = true := beq_iff_eq.2 (by omega)
      have b3 : (((T : Nat) : Int) == ((s.size : Nat) : Int)) = false := beq_eq_false_iff_ne.2 (by omega)
      clear e0 e1 e2 e3 HB
      go_enter Tryd.func6, Tryd.ntmps6
      go_wp2_with fail
      refine (next_gen s 0 g a _ 0 0 n HA.out HTok.out HP.out HC.out HN.out _ hs HT.out).mono ?_
      rintro e w1 ⟨ao, cap, rfl, _, hb1⟩
      have HB1 := Lib.hid (bel_alloc hb1 (.cells #[.int .i64 kk, .string X, .int .i64 (F : Nat), .int .i64 (T : Nat), .bool ln] 26))
      clear hb1
      go_wp2_with fail
      refine (num_any _ _).mono ?_
      rintro e w4 ⟨rfl, rfl⟩
      go_wp2_with fail
      go_ret
      rw [Hb.out]
      exact ⟨rfl, HB1.out⟩
    by_cases e4 : n = 0
    rotate_left
    · have Hb : Hid (b = false) := Lib.hid (by rw [HB.out, decide_eq_true e0, Bool.true_and, e1, Bool.true_and, decide_eq_true e2, Bool.true_and, decide_eq_true e3, Bool.true_and, decide_eq_false e4])
      have b0 : (kk == k) = true := beq_iff_eq.2 e0
      have b1 : (X.toList == s.toList) = true := e1
      have b2 : (((F : Nat) : Int) == 0) = true := beq_iff_eq.2 (by omega)
      have b3 : (((T : Nat) : Int) == ((s.size : Nat) : Int)) = true := beq_iff_eq.2 (by omega)
      have b4 : (((n : Nat) : Int) == 0) = false := beq_eq_false_iff_ne.2 (by omega)
      clear e0 e1 e2 e3 e4 HB
      go_enter Tryd.func6, Tryd.ntmps6
      go_wp2_with fail
      refine (next_gen s 0 g a _ 0 0 n HA.out HTok.out HP.out HC.out HN.out _ hs HT.out).mono ?_
      rintro e w1 ⟨ao, cap, rfl, _, hb1⟩
      have HB1 := Lib.hid (bel_alloc hb1 (.cells #[.int .i64 kk, .string X, .int .i64 (F : Nat), .int .i64 (T : Nat), .bool ln] 26))
      clear hb1
      go_wp2_with fail
      refine (num_any _ _).mono ?_
      rintro e w4 ⟨rfl, rfl⟩
      go_wp2_with fail
      go_ret
      rw [Hb.out]
      exact ⟨rfl, HB1.out⟩
    have Hb : Hid (b = true) := Lib.hid (by rw [HB.out, decide_eq_true e0, Bool.true_and, e1, Bool.true_and, decide_eq_true e2, Bool.true_and, decide_eq_true e3, Bool.true_and, decide_eq_true e4])
    have b0 : (kk == k) = true := beq_iff_eq.2 e0
    have b1 : (X.toList == s.toList) = true := e1
    have b2 : (((F : Nat) : Int) == 0) = true := beq_iff_eq.2 (by omega)
    have b3 : (((T : Nat) : Int) == ((s.size : Nat) : Int)) = true := beq_iff_eq.2 (by omega)
    have b4 : (((n : Nat) : Int) == 0) = true := beq_iff_eq.2 (by omega)
    clear e0 e1 e2 e3 e4 HB
    go_enter Tryd.func6, Tryd.ntmps6
    go_wp2_with fail
    refine (next_gen s 0 g a _ 0 0 n HA.out HTok.out HP.out HC.out HN.out _ hs HT.out).mono ?_
    rintro e w1 ⟨ao, cap, rfl, _, hb1⟩
    have HB1 := Lib.hid (bel_alloc hb1 (.cells #[.int .i64 kk, .string X, .int .i64 (F : Nat), .int .i64 (T : Nat), .bool ln] 26))
    clear hb1
    go_wp2_with fail
    refine (num_any _ _).mono ?_
    rintro e w4 ⟨rfl, rfl⟩
    go_wp2_with fail
    go_ret
    rw [Hb.out]
    exact ⟨rfl, HB1.out⟩
  · have Hb : Hid (b = false) := Lib.hid (by rw [HO.out, decide_eq_false c1, Bool.false_and])
    obtain ⟨c, hc⟩ : ∃ c, a.code = c := ⟨_, rfl⟩
    have b0 : (c == 0) = false := beq_eq_false_iff_ne.2 (hc ▸ c1)
    have HTok := Lib.hid (tok_no (s := s) c1)
    have HC := Lib.hid hc
    clear c1 hc HO
    go_enter Tryd.func6, Tryd.ntmps6
    go_wp2_with fail
    refine (next_gen s 0 g a _ (placeV s a) c a.coms.length HA.out HTok.out rfl HC.out rfl _ hs HT.out).mono ?_
    rintro e w1 ⟨ao, cap, rfl, _, hb1⟩
    have HB1 := Lib.hid (bel_alloc hb1 zeroObj)
    clear hb1
    go_wp2_with fail
    refine (num_any _ _).mono ?_
    rintro e w4 ⟨rfl, rfl⟩
    go_wp2_with fail
    go_ret
    rw [Hb.out]
    exact ⟨rfl, HB1.out⟩

theorem suf_zero (s : ByteArray) : Str.sufL s 0 = s.data.toList := rfl
theorem answer_zero (s : ByteArray) (g : Int) (hg : goalB g s.data.toList = true) : answer s 0 g = nextP g true s.data.toList := by
  rw [answer, if_neg (by omega)]
  rw [show (0 : Int).toNat = 0 from rfl, suf_zero, hg, if_neg (by decide)]
  rfl
theorem ofL_list (s : ByteArray) : Str.ofL s.data.toList = s := ofL_data s
theorem atS_all (s : ByteArray) : atS s s.data.toList = 0 := by unfold atS; simp
theorem atS_nil (s : ByteArray) : atS s [] = s.size := rfl
/-- One token it is. -/
theorem only_yes (s : ByteArray) (k : Int) (ln : Bool) : onlyB s ⟨0, [], k, s.data.toList, [], ln, []⟩ k = true := by
  unfold onlyB
  rw [upTo_all, ofL_list, atS_all, atS_nil]
  simp
/-- What it takes to be one token. -/
theorem only_inv (s : ByteArray) (g k : Int) (hg : g = 1 ∨ g = 2) (h : onlyB s (nextP g true s.data.toList) k = true) : (skip (true, false, []) s.data.toList).rest = s.data.toList ∧ (skip (true, false, []) s.data.toList).code = 0 ∧ commonP (decide (g = 2)) s.data.toList = (k, 0, []) := by
  have hgap : gapP g true s.data.toList = skip (true, false, []) s.data.toList := by rw [gapP, if_neg (by omega)]
  have hr := skip_suf (true, false, []) s.data.toList
  obtain ⟨G, hG⟩ : ∃ G, skip (true, false, []) s.data.toList = G := ⟨_, rfl⟩
  rw [hG] at hgap hr ⊢
  obtain ⟨gc, gl, gcs, gr⟩ := G
  have htk : tokenP g gr = commonP (decide (g = 2)) gr := by rw [tokenP, if_neg (by omega), if_neg (by omega), if_neg (by omega)]
  rw [nextP, hgap, htk] at h
  obtain ⟨T, hT⟩ : ∃ T, commonP (decide (g = 2)) gr = T := ⟨_, rfl⟩
  rw [hT] at h
  obtain ⟨tk, tc, tm⟩ := T
  unfold onlyB at h
  simp only [Bool.and_eq_true, decide_eq_true_eq] at h
  obtain ⟨h1, h2, h3, h4, h5, h6⟩ := h
  by_cases e1 : gc = 0
  · subst e1
    by_cases e2 : tc = 0
    · subst e2
      have hA : ansP ⟨0, gl, gcs, gr⟩ (tk, 0, tm) = ⟨0, [], tk, gr, tm, gl, gcs⟩ := by rw [ansP, if_pos rfl, if_pos rfl]
      rw [hA] at h2 h4 h5
      simp only at h2 h4 h5 hr
      have hlen : s.data.toList.length = s.size := by simp
      have hgr : gr = s.data.toList := by
        refine hr.eq_of_length ?_
        unfold atS at h4
        have := hr.length_le
        omega
      have htm : tm = [] := by
        refine List.eq_nil_of_length_eq_zero ?_
        have := token_sf g gr
        rw [htk, hT] at this
        have := (show tm <:+ gr from this).length_le
        unfold atS at h5
        have := hr.length_le
        omega
      refine ⟨hgr, rfl, ?_⟩
      rw [← hgr, hT, htm, h2]
    · exfalso
      have hA : ansP ⟨0, gl, gcs, gr⟩ (tk, tc, tm) = failA tc tm := by rw [ansP, if_pos rfl, if_neg e2]
      rw [hA] at h1
      exact e2 h1
  · exfalso
    have hA : ansP ⟨gc, gl, gcs, gr⟩ (tk, tc, tm) = failA gc gr := by rw [ansP, if_neg (show (⟨gc, gl, gcs, gr⟩ : Gap).code ≠ 0 from e1)]
    rw [hA] at h1
    exact e1 h1

theorem only_num (s : ByteArray) : onlyB s (nextP 1 true s.data.toList) 3 = numB s.data.toList := by
  cases h : numB s.data.toList with
  | true =>
    obtain ⟨h1, h2⟩ := num_ok s.data.toList false h
    have : nextP 1 true s.data.toList = ⟨0, [], 3, s.data.toList, [], false, []⟩ := by
      rw [nextP, gapP, if_neg (by decide), h2]
      show ansP _ (commonP false s.data.toList) = _
      rw [h1]; rfl
    rw [this]; exact only_yes s 3 false
  | false =>
    cases h2 : onlyB s (nextP 1 true s.data.toList) 3 with
    | false => rfl
    | true =>
      exfalso
      obtain ⟨_, _, h3⟩ := only_inv s 1 3 (Or.inl rfl) h2
      have h3 : commonP false s.data.toList = (3, 0, []) := h3
      have h4 := common_three false s.data.toList (by rw [h3])
      rw [h3] at h4
      unfold numP at h4
      by_cases c1 : numB (upTo s.data.toList (reachP s.data.toList)) = false
      · rw [if_pos c1] at h4; exact absurd (show (3 : Int) = 0 from congrArg (fun x => x.1) h4) (by decide)
      rw [if_neg c1] at h4
      by_cases c2 : chL (reachP s.data.toList) = -2
      · rw [if_pos c2] at h4; exact absurd (show (3 : Int) = 0 from congrArg (fun x => x.1) h4) (by decide)
      rw [if_neg c2] at h4
      by_cases c3 : Uni.startB (chL (reachP s.data.toList)) = true ∨ digC (chL (reachP s.data.toList)) = true
      · rw [if_pos c3] at h4; exact absurd (show (3 : Int) = 0 from congrArg (fun x => x.1) h4) (by decide)
      rw [if_neg c3] at h4
      have h5 : [] = reachP s.data.toList := congrArg (fun x => x.2.2) h4
      rw [← h5, upTo_all] at c1
      exact c1 h
theorem only_str (s : ByteArray) : onlyB s (nextP 2 true s.data.toList) 4 = decide (Str.codeL (Str.litL s.data.toList) = 0) := by
  by_cases h : Str.codeL (Str.litL s.data.toList) = 0
  · rw [decide_eq_true h]
    obtain ⟨h1, h2⟩ := lit_only s.data.toList true h
    have : nextP 2 true s.data.toList = ⟨0, [], 4, s.data.toList, [], false, []⟩ := by
      rw [nextP, gapP, if_neg (by decide), h2]
      show ansP _ (commonP true s.data.toList) = _
      rw [h1]; rfl
    rw [this]; exact only_yes s 4 false
  · rw [decide_eq_false h]
    cases h2 : onlyB s (nextP 2 true s.data.toList) 4 with
    | false => rfl
    | true =>
      exfalso
      obtain ⟨_, _, h3⟩ := only_inv s 2 4 (Or.inr rfl) h2
      have h3 : commonP true s.data.toList = (4, 0, []) := h3
      have h4 := common_four true s.data.toList (by rw [h3])
      rw [h3] at h4
      unfold litP at h4
      by_cases c1 : Str.codeL (Str.litL (upTo s.data.toList (litR s.data.toList).2)) = 0
      · rw [if_pos c1] at h4
        have h5 : [] = (litR s.data.toList).2 := congrArg (fun x => x.2.2) h4
        rw [← h5, upTo_all] at c1
        exact h c1
      · rw [if_neg c1] at h4
        split at h4
        · exact absurd (show (4 : Int) = 0 from congrArg (fun x => x.1) h4) (by decide)
        · exact absurd (show (4 : Int) = 0 from congrArg (fun x => x.1) h4) (by decide)

end Lex
end Go.Proofs.YtggibhlmnfodaaaDoor
