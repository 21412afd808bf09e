/-
  A text that is one token: numeric literals, string literals.
-/
import Derived.Test.YtggibhlmnfodaaaDoorLexLitT
namespace Go.Proofs.YtggibhlmnfodaaaDoor
namespace Lex
open Go.RowKit
open Str (lenL runeL)

/-- A gap in which nothing stands. -/
theorem skip_stay (z b : Bool) (cs : List Com) (l : List UInt8) (h2 : chL l ≠ -2) (he : Uni.endsB (chL l) = false) (hb : Uni.blankB (chL l) = false) (ho : opensP z l = 0) : skip (z, b, cs) l = ⟨0, b, cs, l⟩ := by
  refine loop_in _ ?_
  unfold skipS
  rw [if_neg h2, he, if_neg (by decide), hb, if_neg (by decide), if_pos ho]
theorem skipC_suf (k : Nat) (s : SkipSt) (l : List UInt8) (c : Int × Bool × List UInt8) (hc : c.2.2 <:+ l) : (∀ g, skipC k s l c = .inl g → g.rest <:+ l) ∧ (∀ p, skipC k s l c = .inr p → p.2 <:+ l) := by
  unfold skipC
  constructor
  · intro g
    split
    · split
      · intro h; cases h
      · intro h; cases h; exact List.nil_suffix
    · intro h; cases h; exact hc
  · intro p
    split
    · split
      · intro h; cases h; exact hc
      · intro h; cases h
    · intro h; cases h
theorem skip_suf (s : SkipSt) (l : List UInt8) : (skip s l).rest <:+ l := by
  refine loop_all falls_skip ⟨999, false, [], []⟩ (fun _ l g => g.rest <:+ l) ?_ ?_ s l
  · intro s l g h
    unfold skipS at h
    by_cases c1 : chL l = -2
    · rw [if_pos c1] at h; cases h; exact List.suffix_refl _
    rw [if_neg c1] at h
    by_cases c2 : Uni.endsB (chL l) = true
    · rw [if_pos c2] at h; cases h
    rw [if_neg c2] at h
    by_cases c3 : Uni.blankB (chL l) = true
    · rw [if_pos c3] at h; cases h
    rw [if_neg c3] at h
    by_cases c4 : opensP s.1 l = 0
    · rw [if_pos c4] at h; cases h; exact List.suffix_refl _
    rw [if_neg c4] at h
    exact (skipC_suf _ _ _ _ (comP_suf _ _ _)).1 g h
  · intro s l s' l' g h ih
    unfold skipS at h
    by_cases c1 : chL l = -2
    · rw [if_pos c1] at h; cases h
    rw [if_neg c1] at h
    by_cases c2 : Uni.endsB (chL l) = true
    · rw [if_pos c2] at h; cases h; exact ih.trans (tl_suf l)
    rw [if_neg c2] at h
    by_cases c3 : Uni.blankB (chL l) = true
    · rw [if_pos c3] at h; cases h; exact ih.trans (tl_suf l)
    rw [if_neg c3] at h
    by_cases c4 : opensP s.1 l = 0
    · rw [if_pos c4] at h; cases h
    rw [if_neg c4] at h
    exact ih.trans ((skipC_suf _ _ _ _ (comP_suf _ _ _)).2 _ h)
/-- Where nothing is passed nothing stands. -/
theorem skip_same (z : Bool) (l : List UInt8) (hr : (skip (z, false, []) l).rest = l) (hc : (skip (z, false, []) l).code = 0) : skip (z, false, []) l = ⟨0, false, [], l⟩ ∧ chL l ≠ -2 ∧ Uni.endsB (chL l) = false ∧ Uni.blankB (chL l) = false ∧ opensP z l = 0 := by
  cases hS : skipS (z, false, []) l with
  | inr p =>
    obtain ⟨s', l'⟩ := p
    have h1 : skip (z, false, []) l = skip s' l' := loop_go falls_skip _ hS
    have h2 := falls_skip _ _ _ hS
    have h3 := (skip_suf s' l').length_le
    rw [h1] at hr
    rw [hr] at h3
    exact absurd h3 (by simp only at h2; omega)
  | inl g =>
    have h1 : skip (z, false, []) l = g := loop_in _ hS
    rw [h1] at hc hr ⊢
    unfold skipS at hS
    by_cases c1 : chL l = -2
    · rw [if_pos c1] at hS; cases hS; exact absurd (show (502 : Int) = 0 from hc) (by decide)
    rw [if_neg c1] at hS
    by_cases c2 : Uni.endsB (chL l) = true
    · rw [if_pos c2] at hS; cases hS
    rw [if_neg c2] at hS
    by_cases c3 : Uni.blankB (chL l) = true
    · rw [if_pos c3] at hS; cases hS
    rw [if_neg c3] at hS
    by_cases c4 : opensP z l = 0
    · rw [if_pos c4] at hS
      cases hS
      exact ⟨rfl, c1, by simpa using c2, by simpa using c3, c4⟩
    · rw [if_neg c4] at hS
      unfold skipC at hS
      revert hS
      split
      · split
        · intro h; cases h
        · intro h; cases h; exact absurd (show (999 : Int) = 0 from hc) (by decide)
      · intro h; cases h; rename_i hne; exact absurd hc hne

theorem opens_no {z : Bool} {l : List UInt8} (h : chL l ≠ 47) (h2 : chL l ≠ 35) : opensP z l = 0 := by
  have hp : ∀ a b : UInt8, a.toNat < 128 → chL l ≠ a.toNat → pre [a, b] l = false := by
    intro a b ha hne
    cases hb : pre [a, b] l with
    | false => rfl
    | true =>
      obtain ⟨r, rfl⟩ := (pre_iff _ _).1 hb
      exact absurd (ch_asc a (b :: r) ha).1 hne
  unfold opensP
  rw [hp 47 47 (by decide) h, hp 47 42 (by decide) h, hp 35 33 (by decide) h2]
  simp

theorem tem_kind (a b : Int) (l : List UInt8) : (tem a b l).1 = a ∨ (tem a b l).1 = b ∨ (tem a b l).1 = 0 := by
  refine loop_all (falls_tem a b) (0, 999, []) (fun _ _ r => r.1 = a ∨ r.1 = b ∨ r.1 = 0) ?_ ?_ () l
  · intro _ l r h
    unfold temS at h
    revert h
    repeat' split
    all_goals (intro h; cases h; try simp)
  · intro _ _ _ _ _ _ ih; exact ih
theorem template_kind (a b : Int) (l : List UInt8) : (templateP a b l).1 = a ∨ (templateP a b l).1 = b ∨ (templateP a b l).1 = 0 := by
  unfold templateP backTo
  split
  · exact Or.inr (Or.inr rfl)
  · exact tem_kind a b _
theorem priv_kind (l : List UInt8) : (privP l).1 = 2 ∨ (privP l).1 = 0 := by
  unfold privP
  repeat' split
  all_goals simp
theorem num_kind (l : List UInt8) : (numP l).1 = 3 ∨ (numP l).1 = 0 := by
  unfold numP
  repeat' split
  all_goals simp
theorem litP_kind (l : List UInt8) : (litP l).1 = 4 ∨ (litP l).1 = 0 := by
  unfold litP
  repeat' split
  all_goals simp
theorem regex_kind (l : List UInt8) : (regexP l).1 = 6 ∨ (regexP l).1 = 0 := by
  unfold regexP regexQ
  repeat' split
  all_goals simp
theorem name_kind (d : Bool) (l : List UInt8) : (nameP d l).1 = 1 ∨ (nameP d l).1 = 0 := by
  unfold nameP
  repeat' split
  all_goals simp
theorem pun_kind (l : List UInt8) : (punP l).1 = 5 := rfl
theorem common_four (x : Bool) (l : List UInt8) (h : (commonP x l).1 = 4) : commonP x l = litP l := by
  unfold commonP at h ⊢
  by_cases c1 : chL l = -1
  · rw [if_pos c1] at h; simp at h
  rw [if_neg c1] at h ⊢
  by_cases c2 : chL l = 34 ∨ chL l = 39
  · rw [if_pos c2]
  rw [if_neg c2] at h
  have k1 := template_kind 7 8 l; have k2 := priv_kind l; have k3 := num_kind l; have k4 := pun_kind l; have k5 := regex_kind l; have k6 := name_kind false l
  by_cases c3 : chL l = 96
  · rw [if_pos c3] at h; omega
  rw [if_neg c3] at h
  by_cases c4 : chL l = 35
  · rw [if_pos c4] at h; omega
  rw [if_neg c4] at h
  by_cases c5 : chL l = 46
  · rw [if_pos c5] at h
    by_cases c6 : digAt l.tail = true
    · rw [if_pos c6] at h; omega
    · rw [if_neg c6] at h; omega
  rw [if_neg c5] at h
  by_cases c6 : digC (chL l) = true
  · rw [if_pos c6] at h; omega
  rw [if_neg c6] at h
  by_cases c7 : chL l = 47
  · rw [if_pos c7] at h
    by_cases c8 : x = true
    · rw [if_pos c8] at h; omega
    · rw [if_neg c8] at h; omega
  rw [if_neg c7] at h
  by_cases c9 : punC (chL l) = true
  · rw [if_pos c9] at h; omega
  · rw [if_neg c9] at h; omega
theorem common_three (x : Bool) (l : List UInt8) (h : (commonP x l).1 = 3) : commonP x l = numP l := by
  have k0 := litP_kind l
  have k1 := template_kind 7 8 l; have k2 := priv_kind l; have k4 := pun_kind l; have k5 := regex_kind l; have k6 := name_kind false l
  unfold commonP at h ⊢
  by_cases c1 : chL l = -1
  · rw [if_pos c1] at h; exact absurd (show (0 : Int) = 3 from h) (by decide)
  rw [if_neg c1] at h ⊢
  by_cases c2 : chL l = 34 ∨ chL l = 39
  · rw [if_pos c2] at h; omega
  rw [if_neg c2] at h ⊢
  by_cases c3 : chL l = 96
  · rw [if_pos c3] at h; omega
  rw [if_neg c3] at h ⊢
  by_cases c4 : chL l = 35
  · rw [if_pos c4] at h; omega
  rw [if_neg c4] at h ⊢
  by_cases c5 : chL l = 46
  · rw [if_pos c5] at h ⊢
    by_cases c6 : digAt l.tail = true
    · rw [if_pos c6]
    · rw [if_neg c6] at h; omega
  rw [if_neg c5] at h ⊢
  by_cases c6 : digC (chL l) = true
  · rw [if_pos c6]
  rw [if_neg c6] at h ⊢
  by_cases c7 : chL l = 47
  · rw [if_pos c7] at h
    by_cases c8 : x = true
    · rw [if_pos c8] at h; omega
    · rw [if_neg c8] at h; omega
  rw [if_neg c7] at h ⊢
  by_cases c9 : punC (chL l) = true
  · rw [if_pos c9] at h; omega
  · rw [if_neg c9] at h; omega

theorem num_ok (l : List UInt8) (x : Bool) (h : numB l = true) : commonP x l = (3, 0, []) ∧ skip (true, false, []) l = ⟨0, false, [], l⟩ := by
  obtain ⟨hr, c, t, rfl, hd⟩ := reach_all l h
  have hc : c.toNat < 128 ∧ (c.toNat : Int) ≠ 47 ∧ (c.toNat : Int) ≠ 35 ∧ Uni.endsB (c.toNat : Int) = false ∧ Uni.blankB (c.toNat : Int) = false := by
    rcases hd with hd | ⟨rfl, _⟩
    · exact all256 (fun c => digC c.toNat = true → c.toNat < 128 ∧ (c.toNat : Int) ≠ 47 ∧ (c.toNat : Int) ≠ 35 ∧ Uni.endsB (c.toNat : Int) = false ∧ Uni.blankB (c.toNat : Int) = false) (by decide +kernel) c hd
    · decide
  obtain ⟨a1, a2, _⟩ := ch_asc c t hc.1
  have hN : numP (c :: t) = (3, 0, []) := by
    unfold numP
    rw [hr, upTo_all, h, if_neg (by decide), ch_nil, if_neg (by decide), if_neg (by decide)]
  refine ⟨?_, skip_stay _ _ _ _ (by rw [a1]; omega) (by rw [a1]; exact hc.2.2.2.1) (by rw [a1]; exact hc.2.2.2.2) (opens_no (by rw [a1]; exact hc.2.1) (by rw [a1]; exact hc.2.2.1))⟩
  rw [← hN]
  unfold commonP
  rw [a1]
  rcases hd with hd | ⟨rfl, hd⟩
  · have hv := of_decide_eq_true hd
    rw [if_neg (by omega), if_neg (by omega), if_neg (by omega), if_neg (by omega), if_neg (by omega), if_pos hd]
  · rw [if_neg (by decide), if_neg (by decide), if_neg (by decide), if_neg (by decide), if_pos (by decide), if_pos (show digAt (List.tail (46 :: t)) = true from hd)]
theorem lit_only (l : List UInt8) (x : Bool) (h : Str.codeL (Str.litL l) = 0) : commonP x l = (4, 0, []) ∧ skip (true, false, []) l = ⟨0, false, [], l⟩ := by
  obtain ⟨h1, h2⟩ := litP_ok l [] h
  rw [List.append_nil] at h1 h2
  have hc : chL l ≠ -2 ∧ chL l ≠ 47 ∧ chL l ≠ 35 ∧ chL l ≠ -1 := by omega
  refine ⟨?_, skip_stay _ _ _ _ hc.1 (by rcases h2 with h | h <;> rw [h] <;> decide) (by rcases h2 with h | h <;> rw [h] <;> decide) (opens_no hc.2.1 hc.2.2.1)⟩
  rw [← h1]
  unfold commonP
  rw [if_neg hc.2.2.2, if_pos h2]

end Lex
end Go.Proofs.YtggibhlmnfodaaaDoor
