/-
  Two tokens with a blank between: no program is called here.
-/
import Derived.Test.YtfnilkhccomemaaDoorLexOnly
import Derived.Test.YtfnilkhccomemaaDoorLexPun
namespace Go.Proofs.YtfnilkhccomemaaDoor
namespace Lex
open Go.RowKit
open Str (lenL runeL)

theorem out_bad {a c k : Int} {x m : List UInt8} (h : ((a, c, x) : Out) = (k, 0, m)) (hc : c ≠ 0) : False := hc (congrArg (fun x => x.2.1) h)
theorem digAt_app (m t : List UInt8) : digAt (m ++ 32 :: t) = digAt m := by cases m <;> rfl
theorem join_blank (x : List UInt8) (h : (32 : UInt8) ∈ x) : joinB x = false := by
  refine elem_no (fun y hy e => ?_)
  have : ∀ y ∈ joinL, (32 : UInt8) ∉ y := by decide
  exact this y hy (e ▸ h)
theorem sgn_app (l t : List UInt8) (hl : l ≠ []) : ∀ j, 1 ≤ j → sgn (l ++ 32 :: t) j = sgn l (min j l.length)
  | 0, h => by omega
  | 1, _ => by
    have := Str.pos_of_ne hl
    rw [show min 1 l.length = 1 by omega]; rfl
  | j + 2, _ => by
    have ih := sgn_app l t hl (j + 1) (by omega)
    by_cases h : j + 2 ≤ l.length
    · have hB : signB (l ++ 32 :: t) (j + 2) = signB l (j + 2) := by
        unfold signB
        rw [List.take_append_of_le_length h, List.drop_append_of_le_length h, digAt_app]
      rw [show min (j + 2) l.length = j + 2 by omega, sgn, sgn, hB, ih, show min (j + 1) l.length = j + 1 by omega]
    · have hm : (32 : UInt8) ∈ (l ++ 32 :: t).take (j + 2) := by
        rw [List.take_append, List.mem_append]
        right
        rw [show j + 2 - l.length = (j + 1 - l.length) + 1 by omega, List.take_succ_cons]
        exact List.mem_cons_self
      have hB : signB (l ++ 32 :: t) (j + 2) = false := by
        unfold signB
        rw [if_neg (fun e => by rw [e] at hm; revert hm; decide)]
        exact join_blank _ hm
      rw [sgn, if_neg (by rw [hB]; decide), ih, show min (j + 1) l.length = min (j + 2) l.length by omega]
theorem pun_app (l t : List UInt8) (hl : l ≠ []) (h : l.drop (signN l) = []) : (l ++ 32 :: t).drop (signN (l ++ 32 :: t)) = 32 :: t := by
  have hp := Str.pos_of_ne hl
  have h1 : l.length ≤ signN l := by rw [List.drop_eq_nil_iff] at h; exact h
  rw [sgn_min l hl] at h1
  have h2 := (sgn_le l (min 4 l.length) (by omega)).2
  have h3 : signN (l ++ 32 :: t) = l.length := by
    rw [sgn_min _ (by simp), sgn_app l t hl _ (by rw [List.length_append, List.length_cons]; omega), List.length_append, List.length_cons, show min (min 4 (l.length + (t.length + 1))) l.length = min 4 l.length by omega]
    omega
  rw [h3]; simp

theorem num_three {l : List UInt8} {k : Int} (h : numP l = (k, 0, [])) : numP l = (3, 0, []) ∧ k = 3 := by
  have hk : k = 3 := by
    have := num_kind l
    rw [h] at this
    rcases this with h3 | h0
    · exact h3
    · exfalso
      have h0 : k = 0 := h0
      subst h0
      unfold numP at h
      revert h
      repeat' split
      all_goals (intro h; simp at h)
  subst hk
  exact ⟨h, rfl⟩
theorem lit_code {l : List UInt8} {k : Int} (h : litP l = (k, 0, [])) : Str.codeL (Str.litL l) = 0 ∧ k = 4 := by
  unfold litP at h
  by_cases c1 : Str.codeL (Str.litL (upTo l (litR l).2)) = 0
  · rw [if_pos c1] at h
    have h1 := congrArg Prod.fst h
    have h2 : (litR l).2 = [] := congrArg (fun x => x.2.2) h
    rw [h2, upTo_all] at c1
    exact ⟨c1, h1.symm⟩
  · rw [if_neg c1] at h
    split at h
    · exact (out_bad h (by decide)).elim
    · exact (out_bad h (by decide)).elim
theorem start_no1 : Uni.startB (-1) = false := by decide
theorem start_no2 : Uni.startB (-2) = false := by decide
theorem name_app {l : List UInt8} {k : Int} (t : List UInt8) (h : nameP false l = (k, 0, [])) : nameP false (l ++ 32 :: t) = (k, 0, 32 :: t) := by
  unfold nameP at h ⊢
  by_cases c1 : Uni.startB (chL l) = true
  · have e1 : chL l ≠ -1 := fun e => by rw [e, start_no1] at c1; cases c1
    have e2 : chL l ≠ -2 := fun e => by rw [e, start_no2] at c1; cases c1
    rw [if_pos c1] at h
    rw [(ch_app l (32 :: t) e1 e2).1, if_pos c1]
    have h1 : (1 : Int) = k := congrArg Prod.fst h
    have h2 : parts false l = (0, []) := congrArg Prod.snd h
    have := parts_app false l t (by rw [h2])
    rw [this, h2, h1]; rfl
  · rw [if_neg c1] at h
    split at h
    · exact (out_bad h (by decide)).elim
    · exact (out_bad h (by decide)).elim
theorem priv_app {l : List UInt8} {k : Int} (t : List UInt8) (hl : l ≠ []) (h : privP l = (k, 0, [])) : privP (l ++ 32 :: t) = (k, 0, 32 :: t) := by
  unfold privP at h ⊢
  rw [tail_app hl]
  by_cases c1 : chL l.tail = -2
  · rw [if_pos c1] at h; exact (out_bad h (by decide)).elim
  rw [if_neg c1] at h
  by_cases c2 : Uni.startB (chL l.tail) = false
  · rw [if_pos c2] at h; exact (out_bad h (by decide)).elim
  rw [if_neg c2] at h
  have e1 : chL l.tail ≠ -1 := fun e => c2 (by rw [e, start_no1])
  rw [(ch_app l.tail (32 :: t) e1 c1).1, if_neg c1, if_neg c2]
  have h1 : (2 : Int) = k := congrArg Prod.fst h
  have h2 : parts false l.tail = (0, []) := congrArg Prod.snd h
  have := parts_app false l.tail t (by rw [h2])
  rw [this, h2, h1]; rfl
theorem back_zero {c : Int} {l : List UInt8} {r : Out} {k : Int} {m : List UInt8} (hc : c ≠ 0) (h : backTo c l r = (k, 0, m)) : r = (k, 0, m) := by
  unfold backTo at h
  split at h
  · exact absurd (congrArg (fun x => x.2.1) h) hc
  · exact h
theorem template_app {l : List UInt8} {a b k : Int} (t : List UInt8) (hl : l ≠ []) (h : templateP a b l = (k, 0, [])) : templateP a b (l ++ 32 :: t) = (k, 0, 32 :: t) := by
  have h1 := back_zero (by decide) (show backTo 505 l (tem a b l.tail) = (k, 0, []) from h)
  have h2 := (tem_app a b l.tail t (by rw [h1])).2.2
  unfold templateP
  rw [tail_app hl, h2, h1]
  rfl
theorem lit_app {l : List UInt8} {k : Int} (t : List UInt8) (h : litP l = (k, 0, [])) : litP (l ++ 32 :: t) = (k, 0, 32 :: t) := by
  obtain ⟨h1, rfl⟩ := lit_code h
  exact (litP_ok l (32 :: t) h1).1

theorem common_app {l : List UInt8} {k : Int} (t : List UInt8) (hl : l ≠ []) (h : commonP false l = (k, 0, [])) : commonP false (l ++ 32 :: t) = (k, 0, 32 :: t) := by
  have e1 := ch_pos hl
  by_cases e2 : chL l = -2
  · unfold commonP at h
    rw [e2, if_neg (by decide), if_neg (by decide), if_neg (by decide), if_neg (by decide), if_neg (by decide), if_neg (by decide), if_neg (by decide), if_neg (by decide)] at h
    unfold nameP at h
    rw [e2, start_no2, if_neg (by decide), if_neg (by decide)] at h
    exact (out_bad h (by decide)).elim
  have hch := (ch_app l (32 :: t) e1 e2).1
  have htl := tail_app hl (32 :: t)
  unfold commonP at h ⊢
  rw [hch, htl, digAt_app]
  rw [if_neg e1] at h ⊢
  by_cases c2 : chL l = 34 ∨ chL l = 39
  · rw [if_pos c2] at h ⊢; exact lit_app t h
  rw [if_neg c2] at h ⊢
  by_cases c3 : chL l = 96
  · rw [if_pos c3] at h ⊢; exact template_app t hl h
  rw [if_neg c3] at h ⊢
  by_cases c4 : chL l = 35
  · rw [if_pos c4] at h ⊢; exact priv_app t hl h
  rw [if_neg c4] at h ⊢
  have hnum : numP l = (k, 0, []) → numP (l ++ 32 :: t) = (k, 0, 32 :: t) := fun h => by
    obtain ⟨h3, rfl⟩ := num_three h
    exact num_app l t h3
  have hpun : punP l = (k, 0, []) → punP (l ++ 32 :: t) = (k, 0, 32 :: t) := fun h => by
    unfold punP at h ⊢
    rw [pun_app l t hl (congrArg (fun x => x.2.2) h), show (5 : Int) = k from congrArg Prod.fst h]
  by_cases c5 : chL l = 46
  · rw [if_pos c5] at h ⊢
    by_cases c6 : digAt l.tail = true
    · rw [if_pos c6] at h ⊢; exact hnum h
    · rw [if_neg c6] at h ⊢; exact hpun h
  rw [if_neg c5] at h ⊢
  by_cases c6 : digC (chL l) = true
  · rw [if_pos c6] at h ⊢; exact hnum h
  rw [if_neg c6] at h ⊢
  by_cases c7 : chL l = 47
  · rw [if_pos c7, if_neg (by decide)] at h ⊢; exact hpun h
  rw [if_neg c7] at h ⊢
  by_cases c9 : punC (chL l) = true
  · rw [if_pos c9] at h ⊢; exact hpun h
  · rw [if_neg c9] at h ⊢; exact name_app t h

theorem opens_app (z : Bool) (l t : List UInt8) : opensP z (l ++ 32 :: t) = opensP z l := by
  unfold opensP
  rw [pre_two 47 47 l (32 :: t) (by simp) (by simp), pre_two 47 42 l (32 :: t) (by simp) (by simp), pre_two 35 33 l (32 :: t) (by simp) (by simp)]
theorem opens_low {l : List UInt8} (h : opensP true l = 0) : opensP false l = 0 := by
  unfold opensP at h ⊢
  by_cases c1 : pre [47, 47] l = true
  · rw [if_pos c1] at h; cases h
  rw [if_neg c1] at h ⊢
  by_cases c2 : pre [47, 42] l = true
  · rw [if_pos c2] at h; cases h
  rw [if_neg c2, if_neg (by simp)]
/-- The first of the two. -/
theorem ends_first (l t : List UInt8) (k : Int) (hl : l ≠ []) (hs : (skip (true, false, []) l).rest = l) (h0 : (skip (true, false, []) l).code = 0) (hc : commonP false l = (k, 0, [])) :
    nextP 1 true (l ++ 32 :: t) = ⟨0, [], k, l ++ 32 :: t, 32 :: t, false, []⟩ := by
  obtain ⟨_, h2, h3, h4, h5⟩ := skip_same true l hs h0
  have hch := (ch_app l (32 :: t) (ch_pos hl) h2).1
  have hg : gapP 1 true (l ++ 32 :: t) = ⟨0, false, [], l ++ 32 :: t⟩ := by
    rw [gapP, if_neg (by decide)]
    exact skip_stay _ _ _ _ (by rw [hch]; exact h2) (by rw [hch]; exact h3) (by rw [hch]; exact h4) (by rw [opens_app]; exact h5)
  rw [nextP, hg]
  show ansP _ (commonP false (l ++ 32 :: t)) = _
  rw [common_app t hl hc]
  rfl
/-- The second of the two. -/
theorem ends_second (lt : List UInt8) (hs : (skip (true, false, []) lt).rest = lt) (h0 : (skip (true, false, []) lt).code = 0) : nextP 1 false (32 :: lt) = ansP ⟨0, false, [], lt⟩ (commonP false lt) := by
  obtain ⟨_, h2, h3, h4, h5⟩ := skip_same true lt hs h0
  have hg : gapP 1 false (32 :: lt) = ⟨0, false, [], lt⟩ := by
    rw [gapP, if_neg (by decide)]
    have : skip (false, false, []) (32 :: lt) = skip (false, false, []) lt := by
      refine loop_go falls_skip _ ?_
      unfold skipS
      rw [(ch32 lt).1, (ch32 lt).2, if_neg (by decide), if_neg (by decide), if_pos (by decide)]
    rw [this]
    exact skip_stay _ _ _ _ h2 h3 h4 (opens_low h5)
  rw [nextP, hg]
  rfl

end Lex
end Go.Proofs.YtfnilkhccomemaaDoor
