/-
  What is shown shows itself, with the words of the text.
-/
import Derived.Test.YtcalgpkcefccmaaDoorJsxLawB
namespace Go.Proofs.YtcalgpkcefccmaaDoor
namespace Jsx
open Go.RowKit

/-! Words of joined texts. -/
theorem words_split : ∀ (a cur b : List UInt8) (c : UInt8), gapB c = true → wordsF cur (a ++ c :: b) = wordsF cur a ++ wordsF [] b
  | [], cur, b, c, h => by
    have e1 : wordsF cur (c :: b) = if gapB c = true then (if cur = [] then wordsF [] b else cur :: wordsF [] b) else wordsF (cur ++ [c]) b := by rw [wordsF]
    have e2 : wordsF cur [] = if cur = [] then [] else [cur] := by rw [wordsF]
    rw [List.nil_append, e1, e2, if_pos h]
    split <;> rfl
  | x :: a, cur, b, c, h => by
    rw [List.cons_append, wordsF, wordsF]
    by_cases hx : gapB x = true
    · rw [if_pos hx, if_pos hx, words_split a [] b c h]
      split <;> rfl
    · rw [if_neg hx, if_neg hx, words_split a _ b c h]
theorem words_gap (c : UInt8) (b : List UInt8) (h : gapB c = true) : wordsF [] (c :: b) = wordsF [] b := by rw [wordsF, if_pos h, if_pos rfl]
theorem words_end (a : List UInt8) (c : UInt8) (h : gapB c = true) : wordsF [] (a ++ [c]) = wordsF [] a := by
  rw [words_split a [] [] c h]; simp [wordsF]
theorem trim_gap (c : UInt8) (h : trimB c = true) : gapB c = true := by
  unfold trimB at h; unfold gapB
  simp only [Bool.or_eq_true] at h ⊢
  rcases h with h | h
  · exact .inl (.inl (.inl h))
  · exact .inl (.inl (.inr h))
theorem words_lead : ∀ l : List UInt8, wordsF [] (leadL l) = wordsF [] l
  | [] => rfl
  | c :: t => by
    rw [lead_cons]
    split
    · rename_i h; rw [words_lead t, words_gap c t (trim_gap c h)]
    · rfl
theorem words_trail (l : List UInt8) : wordsF [] (trailL l) = wordsF [] l := by
  suffices h : ∀ n (l : List UInt8), l.length ≤ n → wordsF [] (trailL l) = wordsF [] l from h l.length l (Nat.le_refl _)
  intro n
  induction n with
  | zero => intro l hl; rw [List.eq_nil_of_length_eq_zero (by omega : l.length = 0)]; rfl
  | succ n ih =>
    intro l hl
    rcases nil_or_snoc l with rfl | ⟨t, c, rfl⟩
    · rfl
    · rw [trail_snoc]
      split
      · rename_i h
        rw [ih t (by rw [List.length_append] at hl; simp at hl; omega), words_end t c (trim_gap c h)]
      · rfl
theorem words_one (f g : Bool) (l : List UInt8) : wordsF [] (oneL f g l) = wordsF [] l := by
  unfold oneL
  cases f <;> cases g
  · exact (words_trail _).trans (words_lead l)
  · exact words_lead l
  · exact words_trail l
  · rfl
theorem words_join : ∀ m : List (List UInt8), wordsF [] (joinL m) = m.flatMap (wordsF [])
  | [] => rfl
  | [a] => by simp [joinL]
  | a :: b :: r => by
    rw [joinL, words_split a [] _ 32 (by decide), words_join (b :: r)]; rfl
theorem words_lineL : ∀ (m : List (List UInt8)) (f : Bool), (lineL f m).flatMap (wordsF []) = m.flatMap (wordsF [])
  | [], _ => rfl
  | [a], f => by
    rw [lineL]
    split
    · rename_i h
      have := words_one f true a
      rw [h] at this
      simp [← this, wordsF]
    · simp [words_one]
  | a :: b :: r, f => by
    rw [lineL]
    have ih := words_lineL (b :: r) false
    split
    · rename_i h
      have := words_one f false a
      rw [h] at this
      rw [ih, List.flatMap_cons (x := a), ← this]; rfl
    · rw [List.flatMap_cons, ih, words_one, List.flatMap_cons (x := a)]
theorem words_lines : ∀ (L : List UInt8) (cr : Bool) (cur : List UInt8), (cr = true → cur = []) → (linesF cr cur L).flatMap (wordsF []) = wordsF [] (cur ++ L)
  | [], cr, cur, _ => by simp [linesF]
  | c :: t, cr, cur, h => by
    rw [linesF]
    split
    · rename_i hc
      subst hc
      split
      · rename_i hcr
        rw [words_lines t false cur (fun e => by cases e), h hcr, List.nil_append, List.nil_append, words_gap 10 t (by decide)]
      · rw [List.flatMap_cons, words_lines t false [] (fun e => by cases e), List.nil_append, words_split cur [] t 10 (by decide)]
    · split
      · rename_i hc
        subst hc
        rw [List.flatMap_cons, words_lines t true [] (fun _ => rfl), List.nil_append, words_split cur [] t 13 (by decide)]
      · rw [words_lines t false (cur ++ [c]) (fun e => by cases e)]; simp
theorem words_shown (L : List UInt8) : wordsF [] (shownF L) = wordsF [] L := by
  rw [shownF, words_join, words_lineL, words_lines L false [] (fun e => by cases e)]; rfl

/-! A text without line ends. -/
theorem shown_plain (L : List UInt8) (h : ∀ c ∈ L, endB c = false) : shownF L = L := by
  rw [shownF, lines_all L h, lineL]
  have : oneL true true L = L := rfl
  rw [this]
  split
  · rename_i e; rw [e]; rfl
  · rfl
theorem lead_mem (l : List UInt8) : ∀ c ∈ leadL l, c ∈ l := fun _ hc => (List.dropWhile_sublist _).subset hc
theorem trail_mem (l : List UInt8) : ∀ c ∈ trailL l, c ∈ l := fun c hc => by
  unfold trailL at hc
  have := (List.dropWhile_sublist (l := l.reverse) trimB).subset (List.mem_reverse.1 hc)
  exact List.mem_reverse.1 this
theorem one_mem (f g : Bool) (l : List UInt8) : ∀ c ∈ oneL f g l, c ∈ l := by
  intro c hc
  unfold oneL at hc
  cases f <;> cases g
  · exact lead_mem l c (trail_mem _ c hc)
  · exact lead_mem l c hc
  · exact trail_mem l c hc
  · exact hc
theorem lines_mem : ∀ (L : List UInt8) (cr : Bool) (cur : List UInt8), (∀ c ∈ cur, endB c = false) → ∀ l ∈ linesF cr cur L, ∀ c ∈ l, endB c = false
  | [], cr, cur, hc, l, hl => by rw [linesF] at hl; rw [List.mem_singleton.1 hl]; exact hc
  | x :: t, cr, cur, hc, l, hl => by
    rw [linesF] at hl
    split at hl
    · split at hl
      · exact lines_mem t _ _ hc l hl
      · rcases List.mem_cons.1 hl with e | e
        · rw [e]; exact hc
        · exact lines_mem t _ _ (fun c h => by cases h) l e
    · split at hl
      · rcases List.mem_cons.1 hl with e | e
        · rw [e]; exact hc
        · exact lines_mem t _ _ (fun c h => by cases h) l e
      · rename_i h10 h13
        refine lines_mem t _ _ (fun c h => ?_) l hl
        rcases List.mem_append.1 h with e | e
        · exact hc c e
        · rw [List.mem_singleton.1 e]; simp [endB, h10, h13]
theorem lineL_mem : ∀ (m : List (List UInt8)) (f : Bool), ∀ l ∈ lineL f m, ∀ c ∈ l, ∃ k ∈ m, c ∈ k
  | [], _, l, hl, _, _ => by cases hl
  | [a], f, l, hl, c, hc => by
    rw [lineL] at hl
    split at hl
    · cases hl
    · rw [List.mem_singleton.1 hl] at hc; exact ⟨a, by simp, one_mem _ _ _ c hc⟩
  | a :: b :: r, f, l, hl, c, hc => by
    rw [lineL] at hl
    have ih := lineL_mem (b :: r) false
    split at hl
    · obtain ⟨k, h1, h2⟩ := ih l hl c hc
      exact ⟨k, by simp [List.mem_cons.1 h1], h2⟩
    · rcases List.mem_cons.1 hl with e | e
      · rw [e] at hc; exact ⟨a, by simp, one_mem _ _ _ c hc⟩
      · obtain ⟨k, h1, h2⟩ := ih l e c hc
        exact ⟨k, by simp [List.mem_cons.1 h1], h2⟩
theorem join_mem : ∀ (m : List (List UInt8)), ∀ c ∈ joinL m, c = 32 ∨ ∃ k ∈ m, c ∈ k
  | [], c, h => by cases h
  | [a], c, h => .inr ⟨a, by simp, h⟩
  | a :: b :: r, c, h => by
    rw [joinL] at h
    rcases List.mem_append.1 h with e | e
    · exact .inr ⟨a, by simp, e⟩
    · rcases List.mem_cons.1 e with e1 | e1
      · exact .inl e1
      · rcases join_mem (b :: r) c e1 with e2 | ⟨k, h1, h2⟩
        · exact .inl e2
        · exact .inr ⟨k, by simp [List.mem_cons.1 h1], h2⟩
theorem shown_free (L : List UInt8) : ∀ c ∈ shownF L, endB c = false := by
  intro c hc
  rcases join_mem _ c hc with e | ⟨k, h1, h2⟩
  · rw [e]; decide
  · obtain ⟨k', h3, h4⟩ := lineL_mem _ _ k h1 c h2
    exact lines_mem L false [] (fun c h => by cases h) k' h3 c h4
theorem shown_twice (L : List UInt8) : shownF (shownF L) = shownF L := shown_plain _ (shown_free L)

/-! How long it is. -/
def tot (m : List (List UInt8)) : Nat := (m.map (fun l => l.length + 1)).sum
theorem tot_lines : ∀ (L : List UInt8) (cr : Bool) (cur : List UInt8), tot (linesF cr cur L) ≤ cur.length + L.length + 1
  | [], cr, cur => by simp [linesF, tot]
  | x :: t, cr, cur => by
    rw [linesF]
    simp only [List.length_cons]
    split
    · split
      · have := tot_lines t false cur; omega
      · have := tot_lines t false []; simp only [tot, List.map_cons, List.sum_cons, List.length_nil] at this ⊢; omega
    · split
      · have := tot_lines t true []; simp only [tot, List.map_cons, List.sum_cons, List.length_nil] at this ⊢; omega
      · have := tot_lines t false (cur ++ [x]); rw [List.length_append, List.length_singleton] at this; omega
theorem tot_lineL : ∀ (m : List (List UInt8)) (f : Bool), tot (lineL f m) ≤ tot m
  | [], _ => Nat.le_refl _
  | [a], f => by
    rw [lineL]
    have := one_len f true a
    split <;> (simp [tot]; try omega)
  | a :: b :: r, f => by
    rw [lineL]
    have ih := tot_lineL (b :: r) false
    have := one_len f false a
    have e1 : tot (a :: b :: r) = a.length + 1 + tot (b :: r) := by simp [tot]
    split
    · omega
    · have e2 : tot (oneL f false a :: lineL false (b :: r)) = (oneL f false a).length + 1 + tot (lineL false (b :: r)) := by simp [tot]
      omega
theorem tot_join : ∀ m : List (List UInt8), (joinL m).length ≤ tot m - 1
  | [] => by simp [joinL]
  | [a] => by simp [joinL, tot]
  | a :: b :: r => by
    have ih := tot_join (b :: r)
    have e1 : tot (a :: b :: r) = a.length + 1 + tot (b :: r) := by simp [tot]
    have e2 : 1 ≤ tot (b :: r) := by simp [tot]; omega
    rw [joinL, List.length_append, List.length_cons]; omega
theorem shown_len (L : List UInt8) : (shownF L).length ≤ L.length := by
  have h1 := tot_join (lineL true (linesF false [] L))
  have h2 := tot_lineL (linesF false [] L) true
  have h3 := tot_lines L false []
  simp only [List.length_nil] at h3
  unfold shownF
  omega

def freeB (l : List UInt8) : Bool := l.all (fun c => !endB c)
theorem free_snoc (L : List UInt8) (k : Nat) (c : UInt8) (t : List UInt8) (hd : L.drop k = c :: t) : freeB (L.take (k + 1)) = (freeB (L.take k) && !endB c) := by
  have : L.take (k + 1) = L.take k ++ [c] := by rw [List.take_add, hd]; rfl
  rw [this]; unfold freeB; rw [List.all_append]; simp
theorem free_all (l : List UInt8) (h : freeB l = true) : ∀ c ∈ l, endB c = false := fun c hc => by
  have := List.all_eq_true.1 h c hc; simpa using this
theorem endB_ten : endB 10 = true := by decide
theorem endB_cr : endB 13 = true := by decide
theorem endB_not (c : UInt8) (h1 : c ≠ 10) (h2 : c ≠ 13) : endB c = false := by unfold endB; simp [h1, h2]

set_option maxHeartbeats 4000000 in
set_option maxRecDepth 20000 in
theorem law_stays (s : ByteArray) (W : World) (hs : s.size ≤ 1048576) (_hT : True) :
    Calls Tryd.prog 5 #[.string s] W fun e w' => e = .returned (.bool true) ∧ Below W.heap.size W w' := by
  have hw2 : s.size ≤ 2097152 := by omega
  have hw4 : s.size ≤ 4294967296 := by omega
  have hwn : ∀ L : List UInt8, L.length ≤ 1048576 → (wordsF [] L).length ≤ 4294967296 := fun L h => by have := words_count L []; omega
  obtain ⟨t, ht⟩ : ∃ t, ofL (shownF s.data.toList) = t := ⟨_, rfl⟩
  have htl : t.data.toList = shownF s.data.toList := by rw [← ht, ofL_list]
  have hts : t.size ≤ 1048576 := by rw [← ht, ofL_size]; have := shown_len s.data.toList; rw [list_size] at this; omega
  have ht2 : t.size ≤ 2097152 := by omega
  have ht4 : t.size ≤ 4294967296 := by omega
  have Htt : Hid (ofL (shownF t.data.toList) = t) := Lib.hid (by rw [htl, shown_twice, ht])
  have Htw : Hid (wordsF [] t.data.toList = wordsF [] s.data.toList) := Lib.hid (by rw [htl, words_shown])
  have Hwn : Hid ((wordsF [] s.data.toList).length ≤ 4294967296) := Lib.hid (hwn _ (by rw [list_size]; exact hs))
  have Hpl : Hid (freeB s.data.toList = true → t = s) := Lib.hid (fun h => by rw [← ht, shown_plain _ (free_all _ h), ofL_eq])
  have Ht := Lib.hid ht
  clear hwn htl ht hts
  go_enter Tryd.func5, Tryd.ntmps5
  go_wp2_with fail
  refine (awake_any _).mono ?_
  rintro e w1 ⟨rfl, hb1⟩
  go_wp2_with fail
  refine (shownT_any s hw2 _).mono ?_
  rintro e w2 ⟨rfl, hb2⟩
  rw [Ht.out]
  have hb12 := bel_trans' hb1 hb2
  clear hb1 hb2
  go_wp2_with fail
  go_loop [4, 5] (fun z i => ∃ (k : Nat) (b : Bool), z = .bool b ∧ i = .int .i64 k ∧ k ≤ s.size ∧ Hid (b = freeB (s.data.toList.take k))) (fun _ i => s.size - (intOf i).toNat)
  case atStart => exact ⟨0, true, rfl, rfl, by omega, Lib.hid rfl⟩
  case round =>
    obtain ⟨k, b, rfl, rfl, hk, Hb⟩ := hrel
    by_cases hlt : k < s.size
    · have hd := drop_at s k hlt
      have hsn := free_snoc _ _ _ _ hd
      by_cases h10 : s[k] = 10
      · have Hn : Hid (false = freeB (s.data.toList.take (k + 1))) := Lib.hid (by rw [hsn, h10, endB_ten]; simp)
        have f10 : ((((s[k]'hlt).toNat : Nat) : Int) != 10) = false := by rw [h10]; rfl
        clear h10 hd hsn
        cases b with
        | true =>
          go_wp2_with fail
          go_round
          case rel => exact ⟨k + 1, false, rfl, by go_num, by omega, Hn⟩
          case measure => simp [intOf]; omega
        | false =>
          go_wp2_with fail
          go_round
          case rel => exact ⟨k + 1, false, rfl, by go_num, by omega, Hn⟩
          case measure => simp [intOf]; omega
      by_cases h13 : s[k] = 13
      · have Hn : Hid (false = freeB (s.data.toList.take (k + 1))) := Lib.hid (by rw [hsn, h13, endB_cr]; simp)
        have f10 : ((((s[k]'hlt).toNat : Nat) : Int) != 10) = true := by rw [h13]; rfl
        have f13 : ((((s[k]'hlt).toNat : Nat) : Int) != 13) = false := by rw [h13]; rfl
        clear h10 h13 hd hsn
        cases b with
        | true =>
          go_wp2_with fail
          go_round
          case rel => exact ⟨k + 1, false, rfl, by go_num, by omega, Hn⟩
          case measure => simp [intOf]; omega
        | false =>
          go_wp2_with fail
          go_round
          case rel => exact ⟨k + 1, false, rfl, by go_num, by omega, Hn⟩
          case measure => simp [intOf]; omega
      have hn0 : freeB (s.data.toList.take (k + 1)) = b := by rw [hsn, endB_not _ h10 h13, ← Hb.out]; simp
      have Hn := Lib.hid hn0.symm
      have f10 : ((((s[k]'hlt).toNat : Nat) : Int) != 10) = true := bne_iff_ne.2 (fun h => h10 (UInt8.toNat_inj.1 (by show _ = 10; omega)))
      have f13 : ((((s[k]'hlt).toNat : Nat) : Int) != 13) = true := bne_iff_ne.2 (fun h => h13 (UInt8.toNat_inj.1 (by show _ = 13; omega)))
      clear h10 h13 hd hsn hn0
      cases b with
      | true =>
        go_wp2_with fail
        go_round
        case rel => exact ⟨k + 1, true, rfl, by go_num, by omega, Hn⟩
        case measure => simp [intOf]; omega
      | false =>
        go_wp2_with fail
        go_round
        case rel => exact ⟨k + 1, false, rfl, by go_num, by omega, Hn⟩
        case measure => simp [intOf]; omega
    · have Hall : Hid (b = freeB s.data.toList) := Lib.hid (by rw [Hb.out, List.take_of_length_le (by rw [list_size]; omega)])
      go_wp2_with fail
      refine (shownT_any t ht2 _).mono ?_
      rintro e w3 ⟨rfl, hb3⟩
      rw [Htt.out]
      have hb13 := bel_trans' hb12 hb3
      clear hb3
      go_wp2_with fail
      refine (words_any t _ ht4).mono ?_
      rintro e w4 ⟨A, rfl, hA, hta, hb4⟩
      rw [Htw.out] at hta ⊢
      have Hta := Lib.hid hta
      have hb14 := bel_trans' hb13 hb4
      clear hta hb4
      go_wp2_with fail
      refine (words_any s _ hw4).mono ?_
      rintro e w5 ⟨B, rfl, hB, htb, hb5⟩
      have Hta2 := Lib.hid (texts_later Hta.out hb5)
      have Htb := Lib.hid htb
      have hb15 := bel_trans' hb14 hb5
      clear htb hb5 Hta
      generalize hm : wordsF [] s.data.toList = ws at *
      clear hm
      go_wp2_with fail
      refine (same_any _ _ _ _ ws ws _ Hta2.out Htb.out Hwn.out Hwn.out).mono ?_
      rintro e w6 ⟨rfl, hb6⟩
      rw [decide_eq_true rfl]
      have hb16 := bel_trans' hb15 hb6
      clear hb6 Hta2 Htb
      cases b with
      | true =>
        have hts := Hpl.out Hall.out.symm
        have htq : (t.toList == s.toList) = true := by rw [hts]; simp
        clear hts
        go_wp2_with fail
        go_ret
        exact ⟨by simp, hb16⟩
      | false =>
        go_wp2_with fail
        go_ret
        exact ⟨by simp, hb16⟩

end Jsx
end Go.Proofs.YtcalgpkcefccmaaDoor
