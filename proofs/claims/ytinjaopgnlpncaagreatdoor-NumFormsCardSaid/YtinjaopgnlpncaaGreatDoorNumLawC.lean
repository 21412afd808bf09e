/-
  The law 'NumRuns': its walks.
-/
import Derived.Test.YtinjaopgnlpncaaGreatDoorNumLawB
namespace Go.Proofs.YtinjaopgnlpncaaGreatDoor
namespace Num
open Go.RowKit

theorem digits_of (f v b : Nat) (y z : Int) (w : World) (hy : y = v) (hz : z = b) (hf : f ≤ 60) (hv : v < 2 ^ f) (h0 : v ≠ 0) (hb : 2 ≤ b) (hb16 : b ≤ 16) :
    Calls Tryz.prog 15 #[.int .i64 y, .int .i64 z] w fun e w' => e = .returned (.string ⟨(digsL b f v).toArray⟩) ∧ Below w.heap.size w w' := by
  subst hy; subst hz; exact digits_any f v b w hf hv h0 hb hb16

theorem str_eq (a b : ByteArray) (h : a.data.toList = b.data.toList) : a = b := by rw [str_ext a _ rfl, str_ext b _ rfl, h]

/-- What the law asks of the digits of a number in a base. -/
theorem digs_facts (b v : Nat) (d : ByteArray) (hv : v < 16777216 + 1) (h0 : v ≠ 0) (hb : 2 ≤ b) (hb16 : b ≤ 16) (hd : d.data.toList = digsL b 25 v) :
    d.size ≤ 25 ∧ 0 < d.size ∧ (∀ c ∈ d.data.toList, valN c < b) ∧ d.data.toList.head? ≠ some 48 := by
  obtain ⟨c, r, e, hc⟩ := digs_head b hb hb16 25 v (by omega) h0
  have hl := digs_len b 25 v
  rw [Lib.size_eq, hd]
  exact ⟨hl, by rw [e]; simp, digs_under b (by omega) hb16 25 v, by rw [e]; simpa using hc⟩

set_option maxHeartbeats 4000000 in
set_option maxRecDepth 100000 in
theorem runs_0 (x a b : Int) (w : World) (ht : Tab w.heap.size w) (hi : (IntKind.u64.wrap b).tmod 4 = 0) :
    Calls Tryz.prog 5 #[.int .i64 x, .int .i64 a, .int .i64 b] w fun e w' => e = .returned (.bool true) ∧ Below w.heap.size w w' := by
  obtain ⟨m, hm, hx⟩ := and_24 x
  have Ht := Lib.hid ht
  clear ht
  go_enter Tryz.func5, Tryz.ntmps5
  go_wp2_with fail
  refine (awake_any _ Ht.out).mono ?_
  rintro e w1 ⟨rfl, hb1⟩
  go_wp2_with fail
  refine (digits_of 25 (1 + m) 10 _ _ _ (by omega) (by decide) (by decide) (by omega) (by omega) (by decide) (by decide)).mono ?_
  rintro e w2 ⟨rfl, hb2⟩
  have hc2 := (hb1.alloc hb1.size _).trans (hb2.mono (hb1.alloc hb1.size _).size)
  obtain ⟨d, hd⟩ : ∃ d : ByteArray, (⟨(digsL 10 25 (1 + m)).toArray⟩ : ByteArray) = d := ⟨_, rfl⟩
  rw [hd]
  obtain ⟨hd25, hd0, hdu, hd48⟩ := digs_facts 10 (1 + m) d (by omega) (by omega) (by decide) (by decide) (by rw [← hd])
  clear hd
  obtain ⟨k, hk, hmod⟩ := mod_cut a d.size
  obtain ⟨s, hs⟩ : ∃ s : ByteArray, ({ data := #[] } : ByteArray) ++ d.extract 0 k ++ { data := #[95] } ++ d.extract k d.size = s := ⟨_, rfl⟩
  have hsl : s.data.toList = markL 0 ++ (d.data.toList.take k ++ 95 :: d.data.toList.drop k) := by
    rw [← hs, take_str, drop_str]; simp [markL]
  have hss : s.size ≤ 30 := by
    rw [Lib.size_eq, hsl]
    rw [Lib.size_eq] at hd25
    simp only [markL, List.length_append, List.length_cons, List.length_nil, List.length_take, List.length_drop]; omega
  have hne : d.data.toList ≠ [] := by
    intro e; rw [Lib.size_eq, e] at hd0; exact absurd hd0 (by decide)
  have hde : ¬ d = ByteArray.empty := by
    intro e; rw [e] at hd0; exact absurd hd0 (by decide)
  have hw2 := (hc2.alloc hc2.size (Obj.cells #[Value.string { data := #[] }, Value.string { data := #[48, 120] }, Value.string { data := #[48, 79] }, Value.string { data := #[48, 98] }] 9)).drew
  by_cases hk0 : k = 0
  · subst hk0
    have Hf : Hid (okN s.data.toList = 200) := Lib.hid (code_none _ (by rw [hsl]; exact out_front 0 (by decide) _)).2.2
    have hs : ({ data := #[] } : ByteArray) ++ { data := #[95] } ++ d = s := str_eq _ _ (by rw [hsl]; simp [markL])
    clear hsl hdu hd48 hne
    go_wp2_with fail
    go_region
    all_goals go_wp2_with fail
    try rw [hs]
    clear hs
    refine (check_any s _ (by unfold maxLen; omega)).mono ?_
    rintro e w3 ⟨rfl, hb3⟩
    have hc3 := hw2.trans (hb3.mono hw2.size)
    rw [Hf.out]
    go_wp2_with fail
    refine (num_any _ _).mono ?_
    rintro e w4 ⟨rfl, rfl⟩
    go_wp2_with fail
    go_ret
    exact ⟨rfl, hc3⟩
  · by_cases hkn : k = d.size
    · subst hkn
      have Hf : Hid (okN s.data.toList = 200) := Lib.hid (code_none _ (by
        rw [hsl, List.take_of_length_le (by rw [Lib.size_eq]; exact Nat.le_refl _), List.drop_of_length_le (by rw [Lib.size_eq]; exact Nat.le_refl _)]
        exact out_end 0 (by decide) _ hdu hd48 hne)).2.2
      have hs : ({ data := #[] } : ByteArray) ++ d ++ { data := #[95] } = s := str_eq _ _ (by
        rw [hsl, List.take_of_length_le (by rw [Lib.size_eq]; exact Nat.le_refl _), List.drop_of_length_le (by rw [Lib.size_eq]; exact Nat.le_refl _)]; simp [markL])
      clear hsl hdu hd48 hne hk0 hk
      go_wp2_with fail
      go_region
      all_goals go_wp2_with fail
      try rw [hs]
      clear hs
      refine (check_any s _ (by unfold maxLen; omega)).mono ?_
      rintro e w3 ⟨rfl, hb3⟩
      have hc3 := hw2.trans (hb3.mono hw2.size)
      rw [Hf.out]
      go_wp2_with fail
      refine (num_any _ _).mono ?_
      rintro e w4 ⟨rfl, rfl⟩
      go_wp2_with fail
      go_ret
      exact ⟨rfl, hc3⟩
    · have hkl : k < d.data.toList.length := by rw [← Lib.size_eq]; omega
      have Hm := Lib.hid (mid_same 0 (by decide) (d.data.toList.take k) (d.data.toList.drop k) (by intro e; have := congrArg List.length e; rw [List.length_take] at this; simp only [List.length_nil] at this; omega) (by intro e; have := congrArg List.length e; rw [List.length_drop] at this; simp only [List.length_nil] at this; omega)
        (by rw [List.take_append_drop]; exact hdu) (by rw [List.take_append_drop]; exact hd48))
      rw [← hsl, List.take_append_drop] at Hm
      obtain ⟨q, hq⟩ : ∃ q : ByteArray, (⟨(markL 0 ++ d.data.toList).toArray⟩ : ByteArray) = q := ⟨_, rfl⟩
      have hql : markL 0 ++ d.data.toList = q.data.toList := by rw [← hq]
      have hqs : q.size ≤ 30 := by
        rw [Lib.size_eq, ← hql]
        rw [Lib.size_eq] at hd25
        simp only [markL, List.length_append, List.length_cons, List.length_nil]; omega
      have Hq : Hid (({ data := #[] } : ByteArray) ++ d = q) := Lib.hid (by rw [← hq]; refine str_ext _ _ ?_; simp [markL])
      rw [hql] at Hm
      obtain ⟨t, ht⟩ : ∃ t : ByteArray, canonS q.data.toList = t := ⟨_, rfl⟩
      rw [ht] at Hm
      have Htq := Lib.hid ht
      have hki : ((k : Int) == (d.size : Int)) = false := beq_eq_false_iff_ne.2 (by omega)
      clear hsl hdu hd48 hne hkl hql ht hq
      go_wp2_with fail
      go_region
      all_goals go_wp2_with fail
      try rw [hs]
      clear hs
      refine (check_any s _ (by unfold maxLen; omega)).mono ?_
      rintro e w3 ⟨rfl, hb3⟩
      have hc3 := hw2.trans (hb3.mono hw2.size)
      rw [Hm.out.1]
      go_wp2_with fail
      refine (canon_any s _ (by omega) ((Ht.out.on hc3).up hc3.size)).mono ?_
      rintro e w4 ⟨rfl, hb4⟩
      have hc4 := hc3.trans (hb4.mono hc3.size)
      rw [Hm.out.1, Hm.out.2.2]
      go_wp2_with fail

      rw [Hq.out]
      refine (canon_any q _ (by omega) ((Ht.out.on hc4).up hc4.size)).mono ?_
      rintro e w5 ⟨rfl, hb5⟩
      have hc5 := hc4.trans (hb5.mono hc4.size)
      rw [Hm.out.2.1, Htq.out]
      go_wp2_with fail
      refine (num_any _ _).mono ?_
      rintro e w6 ⟨rfl, rfl⟩
      go_wp2_with fail
      refine (num_any _ _).mono ?_
      rintro e w6 ⟨rfl, rfl⟩
      go_wp2_with fail
      refine (num_any _ _).mono ?_
      rintro e w6 ⟨rfl, rfl⟩
      go_wp2_with fail
      go_ret
      exact ⟨rfl, hc5⟩

set_option maxHeartbeats 4000000 in
set_option maxRecDepth 100000 in
theorem runs_1 (x a b : Int) (w : World) (ht : Tab w.heap.size w) (hi : (IntKind.u64.wrap b).tmod 4 = 1) :
    Calls Tryz.prog 5 #[.int .i64 x, .int .i64 a, .int .i64 b] w fun e w' => e = .returned (.bool true) ∧ Below w.heap.size w w' := by
  obtain ⟨m, hm, hx⟩ := and_24 x
  have Ht := Lib.hid ht
  clear ht
  go_enter Tryz.func5, Tryz.ntmps5
  go_wp2_with fail
  refine (awake_any _ Ht.out).mono ?_
  rintro e w1 ⟨rfl, hb1⟩
  go_wp2_with fail
  refine (digits_of 25 (1 + m) 16 _ _ _ (by omega) (by decide) (by decide) (by omega) (by omega) (by decide) (by decide)).mono ?_
  rintro e w2 ⟨rfl, hb2⟩
  have hc2 := (hb1.alloc hb1.size _).trans (hb2.mono (hb1.alloc hb1.size _).size)
  obtain ⟨d, hd⟩ : ∃ d : ByteArray, (⟨(digsL 16 25 (1 + m)).toArray⟩ : ByteArray) = d := ⟨_, rfl⟩
  rw [hd]
  obtain ⟨hd25, hd0, hdu, hd48⟩ := digs_facts 16 (1 + m) d (by omega) (by omega) (by decide) (by decide) (by rw [← hd])
  clear hd
  obtain ⟨k, hk, hmod⟩ := mod_cut a d.size
  obtain ⟨s, hs⟩ : ∃ s : ByteArray, ({ data := #[48, 120] } : ByteArray) ++ d.extract 0 k ++ { data := #[95] } ++ d.extract k d.size = s := ⟨_, rfl⟩
  have hsl : s.data.toList = markL 1 ++ (d.data.toList.take k ++ 95 :: d.data.toList.drop k) := by
    rw [← hs, take_str, drop_str]; simp [markL]
  have hss : s.size ≤ 30 := by
    rw [Lib.size_eq, hsl]
    rw [Lib.size_eq] at hd25
    simp only [markL, List.length_append, List.length_cons, List.length_nil, List.length_take, List.length_drop]; omega
  have hne : d.data.toList ≠ [] := by
    intro e; rw [Lib.size_eq, e] at hd0; exact absurd hd0 (by decide)
  have hde : ¬ d = ByteArray.empty := by
    intro e; rw [e] at hd0; exact absurd hd0 (by decide)
  have hw2 := (hc2.alloc hc2.size (Obj.cells #[Value.string { data := #[] }, Value.string { data := #[48, 120] }, Value.string { data := #[48, 79] }, Value.string { data := #[48, 98] }] 9)).drew
  by_cases hk0 : k = 0
  · subst hk0
    have Hf : Hid (okN s.data.toList = 200) := Lib.hid (code_none _ (by rw [hsl]; exact out_front 1 (by decide) _)).2.2
    have hs : ({ data := #[48, 120] } : ByteArray) ++ { data := #[95] } ++ d = s := str_eq _ _ (by rw [hsl]; simp [markL])
    clear hsl hdu hd48 hne
    go_wp2_with fail
    go_region
    all_goals go_wp2_with fail
    try rw [hs]
    clear hs
    refine (check_any s _ (by unfold maxLen; omega)).mono ?_
    rintro e w3 ⟨rfl, hb3⟩
    have hc3 := hw2.trans (hb3.mono hw2.size)
    rw [Hf.out]
    go_wp2_with fail
    refine (num_any _ _).mono ?_
    rintro e w4 ⟨rfl, rfl⟩
    go_wp2_with fail
    go_ret
    exact ⟨rfl, hc3⟩
  · by_cases hkn : k = d.size
    · subst hkn
      have Hf : Hid (okN s.data.toList = 200) := Lib.hid (code_none _ (by
        rw [hsl, List.take_of_length_le (by rw [Lib.size_eq]; exact Nat.le_refl _), List.drop_of_length_le (by rw [Lib.size_eq]; exact Nat.le_refl _)]
        exact out_end 1 (by decide) _ hdu hd48 hne)).2.2
      have hs : ({ data := #[48, 120] } : ByteArray) ++ d ++ { data := #[95] } = s := str_eq _ _ (by
        rw [hsl, List.take_of_length_le (by rw [Lib.size_eq]; exact Nat.le_refl _), List.drop_of_length_le (by rw [Lib.size_eq]; exact Nat.le_refl _)]; simp [markL])
      clear hsl hdu hd48 hne hk0 hk
      go_wp2_with fail
      go_region
      all_goals go_wp2_with fail
      try rw [hs]
      clear hs
      refine (check_any s _ (by unfold maxLen; omega)).mono ?_
      rintro e w3 ⟨rfl, hb3⟩
      have hc3 := hw2.trans (hb3.mono hw2.size)
      rw [Hf.out]
      go_wp2_with fail
      refine (num_any _ _).mono ?_
      rintro e w4 ⟨rfl, rfl⟩
      go_wp2_with fail
      go_ret
      exact ⟨rfl, hc3⟩
    · have hkl : k < d.data.toList.length := by rw [← Lib.size_eq]; omega
      have Hm := Lib.hid (mid_same 1 (by decide) (d.data.toList.take k) (d.data.toList.drop k) (by intro e; have := congrArg List.length e; rw [List.length_take] at this; simp only [List.length_nil] at this; omega) (by intro e; have := congrArg List.length e; rw [List.length_drop] at this; simp only [List.length_nil] at this; omega)
        (by rw [List.take_append_drop]; exact hdu) (by rw [List.take_append_drop]; exact hd48))
      rw [← hsl, List.take_append_drop] at Hm
      obtain ⟨q, hq⟩ : ∃ q : ByteArray, (⟨(markL 1 ++ d.data.toList).toArray⟩ : ByteArray) = q := ⟨_, rfl⟩
      have hql : markL 1 ++ d.data.toList = q.data.toList := by rw [← hq]
      have hqs : q.size ≤ 30 := by
        rw [Lib.size_eq, ← hql]
        rw [Lib.size_eq] at hd25
        simp only [markL, List.length_append, List.length_cons, List.length_nil]; omega
      have Hq : Hid (({ data := #[48, 120] } : ByteArray) ++ d = q) := Lib.hid (by rw [← hq]; refine str_ext _ _ ?_; simp [markL])
      rw [hql] at Hm
      obtain ⟨t, ht⟩ : ∃ t : ByteArray, canonS q.data.toList = t := ⟨_, rfl⟩
      rw [ht] at Hm
      have Htq := Lib.hid ht
      have hki : ((k : Int) == (d.size : Int)) = false := beq_eq_false_iff_ne.2 (by omega)
      clear hsl hdu hd48 hne hkl hql ht hq
      go_wp2_with fail
      go_region
      all_goals go_wp2_with fail
      try rw [hs]
      clear hs
      refine (check_any s _ (by unfold maxLen; omega)).mono ?_
      rintro e w3 ⟨rfl, hb3⟩
      have hc3 := hw2.trans (hb3.mono hw2.size)
      rw [Hm.out.1]
      go_wp2_with fail
      refine (canon_any s _ (by omega) ((Ht.out.on hc3).up hc3.size)).mono ?_
      rintro e w4 ⟨rfl, hb4⟩
      have hc4 := hc3.trans (hb4.mono hc3.size)
      rw [Hm.out.1, Hm.out.2.2]
      go_wp2_with fail

      rw [Hq.out]
      refine (canon_any q _ (by omega) ((Ht.out.on hc4).up hc4.size)).mono ?_
      rintro e w5 ⟨rfl, hb5⟩
      have hc5 := hc4.trans (hb5.mono hc4.size)
      rw [Hm.out.2.1, Htq.out]
      go_wp2_with fail
      refine (num_any _ _).mono ?_
      rintro e w6 ⟨rfl, rfl⟩
      go_wp2_with fail
      refine (num_any _ _).mono ?_
      rintro e w6 ⟨rfl, rfl⟩
      go_wp2_with fail
      refine (num_any _ _).mono ?_
      rintro e w6 ⟨rfl, rfl⟩
      go_wp2_with fail
      go_ret
      exact ⟨rfl, hc5⟩

set_option maxHeartbeats 4000000 in
set_option maxRecDepth 100000 in
theorem runs_2 (x a b : Int) (w : World) (ht : Tab w.heap.size w) (hi : (IntKind.u64.wrap b).tmod 4 = 2) :
    Calls Tryz.prog 5 #[.int .i64 x, .int .i64 a, .int .i64 b] w fun e w' => e = .returned (.bool true) ∧ Below w.heap.size w w' := by
  obtain ⟨m, hm, hx⟩ := and_24 x
  have Ht := Lib.hid ht
  clear ht
  go_enter Tryz.func5, Tryz.ntmps5
  go_wp2_with fail
  refine (awake_any _ Ht.out).mono ?_
  rintro e w1 ⟨rfl, hb1⟩
  go_wp2_with fail
  refine (digits_of 25 (1 + m) 8 _ _ _ (by omega) (by decide) (by decide) (by omega) (by omega) (by decide) (by decide)).mono ?_
  rintro e w2 ⟨rfl, hb2⟩
  have hc2 := (hb1.alloc hb1.size _).trans (hb2.mono (hb1.alloc hb1.size _).size)
  obtain ⟨d, hd⟩ : ∃ d : ByteArray, (⟨(digsL 8 25 (1 + m)).toArray⟩ : ByteArray) = d := ⟨_, rfl⟩
  rw [hd]
  obtain ⟨hd25, hd0, hdu, hd48⟩ := digs_facts 8 (1 + m) d (by omega) (by omega) (by decide) (by decide) (by rw [← hd])
  clear hd
  obtain ⟨k, hk, hmod⟩ := mod_cut a d.size
  obtain ⟨s, hs⟩ : ∃ s : ByteArray, ({ data := #[48, 79] } : ByteArray) ++ d.extract 0 k ++ { data := #[95] } ++ d.extract k d.size = s := ⟨_, rfl⟩
  have hsl : s.data.toList = markL 2 ++ (d.data.toList.take k ++ 95 :: d.data.toList.drop k) := by
    rw [← hs, take_str, drop_str]; simp [markL]
  have hss : s.size ≤ 30 := by
    rw [Lib.size_eq, hsl]
    rw [Lib.size_eq] at hd25
    simp only [markL, List.length_append, List.length_cons, List.length_nil, List.length_take, List.length_drop]; omega
  have hne : d.data.toList ≠ [] := by
    intro e; rw [Lib.size_eq, e] at hd0; exact absurd hd0 (by decide)
  have hde : ¬ d = ByteArray.empty := by
    intro e; rw [e] at hd0; exact absurd hd0 (by decide)
  have hw2 := (hc2.alloc hc2.size (Obj.cells #[Value.string { data := #[] }, Value.string { data := #[48, 120] }, Value.string { data := #[48, 79] }, Value.string { data := #[48, 98] }] 9)).drew
  by_cases hk0 : k = 0
  · subst hk0
    have Hf : Hid (okN s.data.toList = 200) := Lib.hid (code_none _ (by rw [hsl]; exact out_front 2 (by decide) _)).2.2
    have hs : ({ data := #[48, 79] } : ByteArray) ++ { data := #[95] } ++ d = s := str_eq _ _ (by rw [hsl]; simp [markL])
    clear hsl hdu hd48 hne
    go_wp2_with fail
    go_region
    all_goals go_wp2_with fail
    try rw [hs]
    clear hs
    refine (check_any s _ (by unfold maxLen; omega)).mono ?_
    rintro e w3 ⟨rfl, hb3⟩
    have hc3 := hw2.trans (hb3.mono hw2.size)
    rw [Hf.out]
    go_wp2_with fail
    refine (num_any _ _).mono ?_
    rintro e w4 ⟨rfl, rfl⟩
    go_wp2_with fail
    go_ret
    exact ⟨rfl, hc3⟩
  · by_cases hkn : k = d.size
    · subst hkn
      have Hf : Hid (okN s.data.toList = 200) := Lib.hid (code_none _ (by
        rw [hsl, List.take_of_length_le (by rw [Lib.size_eq]; exact Nat.le_refl _), List.drop_of_length_le (by rw [Lib.size_eq]; exact Nat.le_refl _)]
        exact out_end 2 (by decide) _ hdu hd48 hne)).2.2
      have hs : ({ data := #[48, 79] } : ByteArray) ++ d ++ { data := #[95] } = s := str_eq _ _ (by
        rw [hsl, List.take_of_length_le (by rw [Lib.size_eq]; exact Nat.le_refl _), List.drop_of_length_le (by rw [Lib.size_eq]; exact Nat.le_refl _)]; simp [markL])
      clear hsl hdu hd48 hne hk0 hk
      go_wp2_with fail
      go_region
      all_goals go_wp2_with fail
      try rw [hs]
      clear hs
      refine (check_any s _ (by unfold maxLen; omega)).mono ?_
      rintro e w3 ⟨rfl, hb3⟩
      have hc3 := hw2.trans (hb3.mono hw2.size)
      rw [Hf.out]
      go_wp2_with fail
      refine (num_any _ _).mono ?_
      rintro e w4 ⟨rfl, rfl⟩
      go_wp2_with fail
      go_ret
      exact ⟨rfl, hc3⟩
    · have hkl : k < d.data.toList.length := by rw [← Lib.size_eq]; omega
      have Hm := Lib.hid (mid_same 2 (by decide) (d.data.toList.take k) (d.data.toList.drop k) (by intro e; have := congrArg List.length e; rw [List.length_take] at this; simp only [List.length_nil] at this; omega) (by intro e; have := congrArg List.length e; rw [List.length_drop] at this; simp only [List.length_nil] at this; omega)
        (by rw [List.take_append_drop]; exact hdu) (by rw [List.take_append_drop]; exact hd48))
      rw [← hsl, List.take_append_drop] at Hm
      obtain ⟨q, hq⟩ : ∃ q : ByteArray, (⟨(markL 2 ++ d.data.toList).toArray⟩ : ByteArray) = q := ⟨_, rfl⟩
      have hql : markL 2 ++ d.data.toList = q.data.toList := by rw [← hq]
      have hqs : q.size ≤ 30 := by
        rw [Lib.size_eq, ← hql]
        rw [Lib.size_eq] at hd25
        simp only [markL, List.length_append, List.length_cons, List.length_nil]; omega
      have Hq : Hid (({ data := #[48, 79] } : ByteArray) ++ d = q) := Lib.hid (by rw [← hq]; refine str_ext _ _ ?_; simp [markL])
      rw [hql] at Hm
      obtain ⟨t, ht⟩ : ∃ t : ByteArray, canonS q.data.toList = t := ⟨_, rfl⟩
      rw [ht] at Hm
      have Htq := Lib.hid ht
      have hki : ((k : Int) == (d.size : Int)) = false := beq_eq_false_iff_ne.2 (by omega)
      clear hsl hdu hd48 hne hkl hql ht hq
      go_wp2_with fail
      go_region
      all_goals go_wp2_with fail
      try rw [hs]
      clear hs
      refine (check_any s _ (by unfold maxLen; omega)).mono ?_
      rintro e w3 ⟨rfl, hb3⟩
      have hc3 := hw2.trans (hb3.mono hw2.size)
      rw [Hm.out.1]
      go_wp2_with fail
      refine (canon_any s _ (by omega) ((Ht.out.on hc3).up hc3.size)).mono ?_
      rintro e w4 ⟨rfl, hb4⟩
      have hc4 := hc3.trans (hb4.mono hc3.size)
      rw [Hm.out.1, Hm.out.2.2]
      go_wp2_with fail

      rw [Hq.out]
      refine (canon_any q _ (by omega) ((Ht.out.on hc4).up hc4.size)).mono ?_
      rintro e w5 ⟨rfl, hb5⟩
      have hc5 := hc4.trans (hb5.mono hc4.size)
      rw [Hm.out.2.1, Htq.out]
      go_wp2_with fail
      refine (num_any _ _).mono ?_
      rintro e w6 ⟨rfl, rfl⟩
      go_wp2_with fail
      refine (num_any _ _).mono ?_
      rintro e w6 ⟨rfl, rfl⟩
      go_wp2_with fail
      refine (num_any _ _).mono ?_
      rintro e w6 ⟨rfl, rfl⟩
      go_wp2_with fail
      go_ret
      exact ⟨rfl, hc5⟩

set_option maxHeartbeats 4000000 in
set_option maxRecDepth 100000 in
theorem runs_3 (x a b : Int) (w : World) (ht : Tab w.heap.size w) (hi : (IntKind.u64.wrap b).tmod 4 = 3) :
    Calls Tryz.prog 5 #[.int .i64 x, .int .i64 a, .int .i64 b] w fun e w' => e = .returned (.bool true) ∧ Below w.heap.size w w' := by
  obtain ⟨m, hm, hx⟩ := and_24 x
  have Ht := Lib.hid ht
  clear ht
  go_enter Tryz.func5, Tryz.ntmps5
  go_wp2_with fail
  refine (awake_any _ Ht.out).mono ?_
  rintro e w1 ⟨rfl, hb1⟩
  go_wp2_with fail
  refine (digits_of 25 (1 + m) 2 _ _ _ (by omega) (by decide) (by decide) (by omega) (by omega) (by decide) (by decide)).mono ?_
  rintro e w2 ⟨rfl, hb2⟩
  have hc2 := (hb1.alloc hb1.size _).trans (hb2.mono (hb1.alloc hb1.size _).size)
  obtain ⟨d, hd⟩ : ∃ d : ByteArray, (⟨(digsL 2 25 (1 + m)).toArray⟩ : ByteArray) = d := ⟨_, rfl⟩
  rw [hd]
  obtain ⟨hd25, hd0, hdu, hd48⟩ := digs_facts 2 (1 + m) d (by omega) (by omega) (by decide) (by decide) (by rw [← hd])
  clear hd
  obtain ⟨k, hk, hmod⟩ := mod_cut a d.size
  obtain ⟨s, hs⟩ : ∃ s : ByteArray, ({ data := #[48, 98] } : ByteArray) ++ d.extract 0 k ++ { data := #[95] } ++ d.extract k d.size = s := ⟨_, rfl⟩
  have hsl : s.data.toList = markL 3 ++ (d.data.toList.take k ++ 95 :: d.data.toList.drop k) := by
    rw [← hs, take_str, drop_str]; simp [markL]
  have hss : s.size ≤ 30 := by
    rw [Lib.size_eq, hsl]
    rw [Lib.size_eq] at hd25
    simp only [markL, List.length_append, List.length_cons, List.length_nil, List.length_take, List.length_drop]; omega
  have hne : d.data.toList ≠ [] := by
    intro e; rw [Lib.size_eq, e] at hd0; exact absurd hd0 (by decide)
  have hde : ¬ d = ByteArray.empty := by
    intro e; rw [e] at hd0; exact absurd hd0 (by decide)
  have hw2 := (hc2.alloc hc2.size (Obj.cells #[Value.string { data := #[] }, Value.string { data := #[48, 120] }, Value.string { data := #[48, 79] }, Value.string { data := #[48, 98] }] 9)).drew
  by_cases hk0 : k = 0
  · subst hk0
    have Hf : Hid (okN s.data.toList = 200) := Lib.hid (code_none _ (by rw [hsl]; exact out_front 3 (by decide) _)).2.2
    have hs : ({ data := #[48, 98] } : ByteArray) ++ { data := #[95] } ++ d = s := str_eq _ _ (by rw [hsl]; simp [markL])
    clear hsl hdu hd48 hne
    go_wp2_with fail
    go_region
    all_goals go_wp2_with fail
    try rw [hs]
    clear hs
    refine (check_any s _ (by unfold maxLen; omega)).mono ?_
    rintro e w3 ⟨rfl, hb3⟩
    have hc3 := hw2.trans (hb3.mono hw2.size)
    rw [Hf.out]
    go_wp2_with fail
    refine (num_any _ _).mono ?_
    rintro e w4 ⟨rfl, rfl⟩
    go_wp2_with fail
    go_ret
    exact ⟨rfl, hc3⟩
  · by_cases hkn : k = d.size
    · subst hkn
      have Hf : Hid (okN s.data.toList = 200) := Lib.hid (code_none _ (by
        rw [hsl, List.take_of_length_le (by rw [Lib.size_eq]; exact Nat.le_refl _), List.drop_of_length_le (by rw [Lib.size_eq]; exact Nat.le_refl _)]
        exact out_end 3 (by decide) _ hdu hd48 hne)).2.2
      have hs : ({ data := #[48, 98] } : ByteArray) ++ d ++ { data := #[95] } = s := str_eq _ _ (by
        rw [hsl, List.take_of_length_le (by rw [Lib.size_eq]; exact Nat.le_refl _), List.drop_of_length_le (by rw [Lib.size_eq]; exact Nat.le_refl _)]; simp [markL])
      clear hsl hdu hd48 hne hk0 hk
      go_wp2_with fail
      go_region
      all_goals go_wp2_with fail
      try rw [hs]
      clear hs
      refine (check_any s _ (by unfold maxLen; omega)).mono ?_
      rintro e w3 ⟨rfl, hb3⟩
      have hc3 := hw2.trans (hb3.mono hw2.size)
      rw [Hf.out]
      go_wp2_with fail
      refine (num_any _ _).mono ?_
      rintro e w4 ⟨rfl, rfl⟩
      go_wp2_with fail
      go_ret
      exact ⟨rfl, hc3⟩
    · have hkl : k < d.data.toList.length := by rw [← Lib.size_eq]; omega
      have Hm := Lib.hid (mid_same 3 (by decide) (d.data.toList.take k) (d.data.toList.drop k) (by intro e; have := congrArg List.length e; rw [List.length_take] at this; simp only [List.length_nil] at this; omega) (by intro e; have := congrArg List.length e; rw [List.length_drop] at this; simp only [List.length_nil] at this; omega)
        (by rw [List.take_append_drop]; exact hdu) (by rw [List.take_append_drop]; exact hd48))
      rw [← hsl, List.take_append_drop] at Hm
      obtain ⟨q, hq⟩ : ∃ q : ByteArray, (⟨(markL 3 ++ d.data.toList).toArray⟩ : ByteArray) = q := ⟨_, rfl⟩
      have hql : markL 3 ++ d.data.toList = q.data.toList := by rw [← hq]
      have hqs : q.size ≤ 30 := by
        rw [Lib.size_eq, ← hql]
        rw [Lib.size_eq] at hd25
        simp only [markL, List.length_append, List.length_cons, List.length_nil]; omega
      have Hq : Hid (({ data := #[48, 98] } : ByteArray) ++ d = q) := Lib.hid (by rw [← hq]; refine str_ext _ _ ?_; simp [markL])
      rw [hql] at Hm
      obtain ⟨t, ht⟩ : ∃ t : ByteArray, canonS q.data.toList = t := ⟨_, rfl⟩
      rw [ht] at Hm
      have Htq := Lib.hid ht
      have hki : ((k : Int) == (d.size : Int)) = false := beq_eq_false_iff_ne.2 (by omega)
      clear hsl hdu hd48 hne hkl hql ht hq
      go_wp2_with fail
      go_region
      all_goals go_wp2_with fail
      try rw [hs]
      clear hs
      refine (check_any s _ (by unfold maxLen; omega)).mono ?_
      rintro e w3 ⟨rfl, hb3⟩
      have hc3 := hw2.trans (hb3.mono hw2.size)
      rw [Hm.out.1]
      go_wp2_with fail
      refine (canon_any s _ (by omega) ((Ht.out.on hc3).up hc3.size)).mono ?_
      rintro e w4 ⟨rfl, hb4⟩
      have hc4 := hc3.trans (hb4.mono hc3.size)
      rw [Hm.out.1, Hm.out.2.2]
      go_wp2_with fail

      rw [Hq.out]
      refine (canon_any q _ (by omega) ((Ht.out.on hc4).up hc4.size)).mono ?_
      rintro e w5 ⟨rfl, hb5⟩
      have hc5 := hc4.trans (hb5.mono hc4.size)
      rw [Hm.out.2.1, Htq.out]
      go_wp2_with fail
      refine (num_any _ _).mono ?_
      rintro e w6 ⟨rfl, rfl⟩
      go_wp2_with fail
      refine (num_any _ _).mono ?_
      rintro e w6 ⟨rfl, rfl⟩
      go_wp2_with fail
      refine (num_any _ _).mono ?_
      rintro e w6 ⟨rfl, rfl⟩
      go_wp2_with fail
      go_ret
      exact ⟨rfl, hc5⟩

end Num
end Go.Proofs.YtinjaopgnlpncaaGreatDoor
