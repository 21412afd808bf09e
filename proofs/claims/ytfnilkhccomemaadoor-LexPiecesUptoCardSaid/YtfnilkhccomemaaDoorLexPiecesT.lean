/-
  A token is a piece of the text, read again it is the same; the comments lie in their row: no program is called here.
-/
import Derived.Test.YtfnilkhccomemaaDoorLexOnly
import Derived.Test.YtfnilkhccomemaaDoorLexSkip
namespace Go.Proofs.YtfnilkhccomemaaDoor
namespace Lex
open Go.RowKit
open Str (lenL runeL)

/-- Comments between l and m: each is a piece, none overlaps. -/
def ComsIn : List UInt8 → List Com → List UInt8 → Prop
  | l, [], m => m <:+ l
  | l, c :: cs, m => c.fr <:+ l ∧ c.to <:+ c.fr ∧ c.to.length < c.fr.length ∧ ComsIn c.to cs m
theorem ComsIn.suf : ∀ {l cs m}, ComsIn l cs m → m <:+ l
  | _, [], _, h => h
  | _, _ :: _, _, ⟨h1, h2, _, h4⟩ => (ComsIn.suf h4).trans (h2.trans h1)
theorem ComsIn.up : ∀ {l l' cs m}, ComsIn l cs m → l <:+ l' → ComsIn l' cs m
  | _, _, [], _, h, k => h.trans k
  | _, _, _ :: _, _, ⟨h1, h2, h3, h4⟩, k => ⟨h1.trans k, h2, h3, h4⟩
theorem ComsIn.down : ∀ {l cs m m'}, ComsIn l cs m → m' <:+ m → ComsIn l cs m'
  | _, [], _, _, h, k => k.trans h
  | _, _ :: _, _, _, ⟨h1, h2, h3, h4⟩, k => ⟨h1, h2, h3, ComsIn.down h4 k⟩
theorem ComsIn.snoc : ∀ {l cs m} (c : Com), ComsIn l cs m → c.fr <:+ m → c.to <:+ c.fr → c.to.length < c.fr.length → ComsIn l (cs ++ [c]) c.to
  | _, [], _, _, h, h1, h2, h3 => ⟨h1.trans h, h2, h3, List.suffix_refl _⟩
  | _, _ :: _, _, c, ⟨a1, a2, a3, a4⟩, h1, h2, h3 => ⟨a1, a2, a3, ComsIn.snoc c a4 h1 h2 h3⟩
/-- The gap's comments. -/
theorem skip_coms (l0 : List UInt8) : ∀ (s : SkipSt) (l : List UInt8), ComsIn l0 s.2.2 l → (skip s l).code = 0 → ComsIn l0 (skip s l).coms (skip s l).rest := by
  intro s l h0
  refine loop_all falls_skip ⟨999, false, [], []⟩ (fun s l g => ComsIn l0 s.2.2 l → g.code = 0 → ComsIn l0 g.coms g.rest) ?_ ?_ s l h0
  · intro s l g h h1 hc
    unfold skipS at h
    by_cases c1 : chL l = -2
    · rw [if_pos c1] at h; cases h; exact absurd (show (502 : Int) = 0 from hc) (by decide)
    rw [if_neg c1] at h
    by_cases c2 : Uni.endsB (chL l) = true
    · rw [if_pos c2] at h; cases h
    rw [if_neg c2] at h
    by_cases c3 : Uni.blankB (chL l) = true
    · rw [if_pos c3] at h; cases h
    rw [if_neg c3] at h
    by_cases c4 : opensP s.1 l = 0
    · rw [if_pos c4] at h; cases h; exact h1
    rw [if_neg c4] at h
    unfold skipC at h
    by_cases c5 : (comP (opensP s.1 l) s.2.1 l).1 = 0
    · rw [if_pos c5] at h
      by_cases c6 : (comP (opensP s.1 l) s.2.1 l).2.2.length < l.length
      · rw [if_pos c6] at h; cases h
      · rw [if_neg c6] at h; cases h; exact absurd (show (999 : Int) = 0 from hc) (by decide)
    · rw [if_neg c5] at h; cases h; exact absurd hc c5
  · intro s l s' l' g h ih h1
    unfold skipS at h
    by_cases c1 : chL l = -2
    · rw [if_pos c1] at h; cases h
    rw [if_neg c1] at h
    have hup : ∀ {cs}, ComsIn l0 cs l → ComsIn l0 cs (tl l) := fun h => h.down (tl_suf l)
    by_cases c2 : Uni.endsB (chL l) = true
    · rw [if_pos c2] at h; cases h; exact ih (hup h1)
    rw [if_neg c2] at h
    by_cases c3 : Uni.blankB (chL l) = true
    · rw [if_pos c3] at h; cases h; exact ih (hup h1)
    rw [if_neg c3] at h
    by_cases c4 : opensP s.1 l = 0
    · rw [if_pos c4] at h; cases h
    rw [if_neg c4] at h
    unfold skipC at h
    by_cases c5 : (comP (opensP s.1 l) s.2.1 l).1 = 0
    · rw [if_pos c5] at h
      by_cases c6 : (comP (opensP s.1 l) s.2.1 l).2.2.length < l.length
      · rw [if_pos c6] at h; cases h
        exact ih (ComsIn.snoc ⟨_, l, _⟩ h1 (List.suffix_refl _) (comP_suf _ _ _) c6)
      · rw [if_neg c6] at h; cases h
    · rw [if_neg c5] at h; cases h
/-- Where a gap ends, none begins. -/
theorem skip_end : ∀ (s : SkipSt) (l : List UInt8), (skip s l).code = 0 → chL (skip s l).rest ≠ -2 ∧ Uni.endsB (chL (skip s l).rest) = false ∧ Uni.blankB (chL (skip s l).rest) = false ∧
    ((skip s l).rest = l ∧ opensP s.1 l = 0 ∨ (skip s l).rest.length < l.length ∧ opensP false (skip s l).rest = 0) := by
  intro s l
  refine loop_all falls_skip ⟨999, false, [], []⟩ (fun s l g => g.code = 0 → chL g.rest ≠ -2 ∧ Uni.endsB (chL g.rest) = false ∧ Uni.blankB (chL g.rest) = false ∧
    (g.rest = l ∧ opensP s.1 l = 0 ∨ g.rest.length < l.length ∧ opensP false g.rest = 0)) ?_ ?_ s l
  · intro s l g h hc
    unfold skipS at h
    by_cases c1 : chL l = -2
    · rw [if_pos c1] at h; cases h; exact absurd (show (502 : Int) = 0 from hc) (by decide)
    rw [if_neg c1] at h
    by_cases c2 : Uni.endsB (chL l) = true
    · rw [if_pos c2] at h; cases h
    rw [if_neg c2] at h
    by_cases c3 : Uni.blankB (chL l) = true
    · rw [if_pos c3] at h; cases h
    rw [if_neg c3] at h
    by_cases c4 : opensP s.1 l = 0
    · rw [if_pos c4] at h; cases h
      exact ⟨c1, by simpa using c2, by simpa using c3, Or.inl ⟨rfl, c4⟩⟩
    rw [if_neg c4] at h
    unfold skipC at h
    by_cases c5 : (comP (opensP s.1 l) s.2.1 l).1 = 0
    · rw [if_pos c5] at h
      by_cases c6 : (comP (opensP s.1 l) s.2.1 l).2.2.length < l.length
      · rw [if_pos c6] at h; cases h
      · rw [if_neg c6] at h; cases h; exact absurd (show (999 : Int) = 0 from hc) (by decide)
    · rw [if_neg c5] at h; cases h; exact absurd hc c5
  · intro s l s' l' g h ih hc
    have hlt := falls_skip s l (s', l') h
    have hz : s'.1 = false := by
      unfold skipS at h
      by_cases c1 : chL l = -2
      · rw [if_pos c1] at h; cases h
      rw [if_neg c1] at h
      by_cases c2 : Uni.endsB (chL l) = true
      · rw [if_pos c2] at h; cases h; rfl
      rw [if_neg c2] at h
      by_cases c3 : Uni.blankB (chL l) = true
      · rw [if_pos c3] at h; cases h; rfl
      rw [if_neg c3] at h
      by_cases c4 : opensP s.1 l = 0
      · rw [if_pos c4] at h; cases h
      rw [if_neg c4] at h
      unfold skipC at h
      by_cases c5 : (comP (opensP s.1 l) s.2.1 l).1 = 0
      · rw [if_pos c5] at h
        by_cases c6 : (comP (opensP s.1 l) s.2.1 l).2.2.length < l.length
        · rw [if_pos c6] at h; cases h; rfl
        · rw [if_neg c6] at h; cases h
      · rw [if_neg c5] at h; cases h
    obtain ⟨i1, i2, i3, i4⟩ := ih hc
    simp only at hlt
    refine ⟨i1, i2, i3, Or.inr ?_⟩
    rw [hz] at i4
    rcases i4 with ⟨e, o⟩ | ⟨e, o⟩
    · rw [e]; exact ⟨hlt, o⟩
    · exact ⟨by omega, o⟩

theorem tem_no0 (a b : Int) (ha : a ≠ 0) (hb : b ≠ 0) (l m : List UInt8) (h : templateP a b l = (0, 0, m)) : False := by
  have : (tem a b l.tail).1 = a ∨ (tem a b l.tail).1 = b ∨ (tem a b l.tail).2.1 ≠ 0 := by
    refine loop_all (falls_tem a b) (0, 999, []) (fun _ _ r => r.1 = a ∨ r.1 = b ∨ r.2.1 ≠ 0) ?_ ?_ () l.tail
    · intro _ l r h
      unfold temS at h
      revert h
      repeat' split
      all_goals (intro h; cases h; try simp)
    · intro _ _ _ _ _ _ ih; exact ih
  unfold templateP backTo at h
  split at h
  · exact absurd (show (505 : Int) = 0 from congrArg (fun x => x.2.1) h) (by decide)
  · rw [h] at this
    rcases this with h | h | h
    · exact ha h.symm
    · exact hb h.symm
    · exact h rfl
/-- The end is told at the end only. -/
theorem end_only (g : Int) (l m : List UInt8) (h : tokenP g l = (0, 0, m)) : l = [] := by
  unfold tokenP at h
  by_cases g3 : g = 3
  · rw [if_pos g3] at h; exact (tem_no0 9 10 (by decide) (by decide) l m h).elim
  rw [if_neg g3] at h
  by_cases g4 : g = 4
  · rw [if_pos g4] at h
    unfold childP at h
    by_cases c1 : chL l = -1
    · exact ch_end c1
    rw [if_neg c1] at h
    by_cases c2 : chL l = 123 ∨ chL l = 60
    · rw [if_pos c2] at h; exact absurd (show (5 : Int) = 0 from congrArg (fun x => x.1) h) (by decide)
    rw [if_neg c2] at h
    by_cases c3 : chL l = 125 ∨ chL l = 62
    · rw [if_pos c3] at h; exact absurd (show (502 : Int) = 0 from congrArg (fun x => x.2.1) h) (by decide)
    rw [if_neg c3] at h
    exfalso
    have : (chi l).1 = 11 ∨ (chi l).2.1 ≠ 0 := by
      refine loop_all falls_chi (0, 999, []) (fun _ _ r => r.1 = 11 ∨ r.2.1 ≠ 0) ?_ ?_ () l
      · intro _ l r h
        unfold chiS at h
        revert h
        repeat' split
        all_goals (intro h; cases h; try simp)
      · intro _ _ _ _ _ _ ih; exact ih
    rw [h] at this
    rcases this with h | h
    · exact absurd (show (0 : Int) = 11 from h) (by decide)
    · exact h rfl
  rw [if_neg g4] at h
  have hname : ∀ d, nameP d l = (0, 0, m) → False := fun d h => by
    unfold nameP at h
    by_cases c1 : Uni.startB (chL l) = true
    · rw [if_pos c1] at h; exact absurd (show (1 : Int) = 0 from congrArg (fun x => x.1) h) (by decide)
    rw [if_neg c1] at h
    split at h
    · exact absurd (show (508 : Int) = 0 from congrArg (fun x => x.2.1) h) (by decide)
    · exact absurd (show (502 : Int) = 0 from congrArg (fun x => x.2.1) h) (by decide)
  by_cases g5 : g = 5
  · rw [if_pos g5] at h
    unfold tagP at h
    by_cases c1 : chL l = -1
    · exact ch_end c1
    rw [if_neg c1] at h
    by_cases c2 : tagB (chL l) = true
    · rw [if_pos c2] at h; exact absurd (show (5 : Int) = 0 from congrArg (fun x => x.1) h) (by decide)
    rw [if_neg c2] at h
    by_cases c3 : chL l = 34 ∨ chL l = 39
    · rw [if_pos c3] at h
      exfalso
      have : (att (chL l) (tl l)).1 = 12 ∨ (att (chL l) (tl l)).2.1 ≠ 0 := by
        refine loop_all (falls_att _) (0, 999, []) (fun _ _ r => r.1 = 12 ∨ r.2.1 ≠ 0) ?_ ?_ () (tl l)
        · intro _ l r h
          unfold attS at h
          revert h
          repeat' split
          all_goals (intro h; cases h; try simp)
        · intro _ _ _ _ _ _ ih; exact ih
      unfold attrP backTo at h
      split at h
      · exact absurd (show (504 : Int) = 0 from congrArg (fun x => x.2.1) h) (by decide)
      · rw [h] at this
        rcases this with h | h
        · exact absurd (show (0 : Int) = 12 from h) (by decide)
        · exact h rfl
    rw [if_neg c3] at h
    exact (hname true h).elim
  rw [if_neg g5] at h
  unfold commonP at h
  by_cases c1 : chL l = -1
  · exact ch_end c1
  rw [if_neg c1] at h
  exfalso
  have htem := fun a b ha hb => tem_no0 a b ha hb l m
  have hnum : numP l = (0, 0, m) → False := fun h => by
    unfold numP at h
    by_cases c1 : numB (upTo l (reachP l)) = false
    · rw [if_pos c1] at h; exact absurd (show (503 : Int) = 0 from congrArg (fun x => x.2.1) h) (by decide)
    rw [if_neg c1] at h
    by_cases c2 : chL (reachP l) = -2
    · rw [if_pos c2] at h; exact absurd (show (502 : Int) = 0 from congrArg (fun x => x.2.1) h) (by decide)
    rw [if_neg c2] at h
    by_cases c3 : Uni.startB (chL (reachP l)) = true ∨ digC (chL (reachP l)) = true
    · rw [if_pos c3] at h; exact absurd (show (503 : Int) = 0 from congrArg (fun x => x.2.1) h) (by decide)
    rw [if_neg c3] at h; exact absurd (show (3 : Int) = 0 from congrArg (fun x => x.1) h) (by decide)
  have hpun : punP l = (0, 0, m) → False := fun h => absurd (show (5 : Int) = 0 from congrArg (fun x => x.1) h) (by decide)
  by_cases c2 : chL l = 34 ∨ chL l = 39
  · rw [if_pos c2] at h
    unfold litP at h
    split at h
    · exact absurd (show (4 : Int) = 0 from congrArg (fun x => x.1) h) (by decide)
    split at h
    · exact absurd (show (502 : Int) = 0 from congrArg (fun x => x.2.1) h) (by decide)
    · exact absurd (show (504 : Int) = 0 from congrArg (fun x => x.2.1) h) (by decide)
  rw [if_neg c2] at h
  by_cases c3 : chL l = 96
  · rw [if_pos c3] at h; exact htem 7 8 (by decide) (by decide) h
  rw [if_neg c3] at h
  by_cases c4 : chL l = 35
  · rw [if_pos c4] at h
    unfold privP at h
    split at h
    · exact absurd (show (502 : Int) = 0 from congrArg (fun x => x.2.1) h) (by decide)
    split at h
    · exact absurd (show (509 : Int) = 0 from congrArg (fun x => x.2.1) h) (by decide)
    · exact absurd (show (2 : Int) = 0 from congrArg (fun x => x.1) h) (by decide)
  rw [if_neg c4] at h
  by_cases c5 : chL l = 46
  · rw [if_pos c5] at h
    split at h
    · exact hnum h
    · exact hpun h
  rw [if_neg c5] at h
  by_cases c6 : digC (chL l) = true
  · rw [if_pos c6] at h; exact hnum h
  rw [if_neg c6] at h
  by_cases c7 : chL l = 47
  · rw [if_pos c7] at h
    split at h
    · unfold regexP regexQ at h
      split at h
      · exact absurd (show (506 : Int) = 0 from congrArg (fun x => x.2.1) h) (by decide)
      split at h
      · exact absurd (show (6 : Int) = 0 from congrArg (fun x => x.1) h) (by decide)
      · rename_i hne
        exact hne (congrArg (fun x => x.2.1) h)
    · exact hpun h
  rw [if_neg c7] at h
  by_cases c8 : punC (chL l) = true
  · rw [if_pos c8] at h; exact hpun h
  · rw [if_neg c8] at h; exact hname false h

end Lex
end Go.Proofs.YtfnilkhccomemaaDoor
