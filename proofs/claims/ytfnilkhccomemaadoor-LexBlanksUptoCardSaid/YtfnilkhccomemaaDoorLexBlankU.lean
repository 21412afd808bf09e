/-
  What stands ahead of a token turns nothing but its place; what comments there are: no program is called here.
-/
import Derived.Test.YtfnilkhccomemaaDoorLexLawA
import Derived.Test.YtfnilkhccomemaaDoorLexSkip
namespace Go.Proofs.YtfnilkhccomemaaDoor
namespace Lex
open Go.RowKit
open Str (lenL runeL)

/-- Comments between l and m: each is a piece, none overlaps. -/
def ComsIn : List UInt8 → List Com → List UInt8 → Prop
  | l, [], m => m <:+ l
  | l, c :: cs, m => c.fr <:+ l ∧ c.to <:+ c.fr ∧ c.to.length < c.fr.length ∧ ComsIn c.to cs m
theorem ComsIn.suf : ∀ {l cs m}, ComsIn l cs m → m <:+ l
  | _, [], _, h => h
  | _, _ :: _, _, ⟨h1, h2, _, h4⟩ => (ComsIn.suf h4).trans (h2.trans h1)
theorem ComsIn.up : ∀ {l l' cs m}, ComsIn l cs m → l <:+ l' → ComsIn l' cs m
  | _, _, [], _, h, k => h.trans k
  | _, _, _ :: _, _, ⟨h1, h2, h3, h4⟩, k => ⟨h1.trans k, h2, h3, h4⟩
theorem ComsIn.down : ∀ {l cs m m'}, ComsIn l cs m → m' <:+ m → ComsIn l cs m'
  | _, [], _, _, h, k => k.trans h
  | _, _ :: _, _, _, ⟨h1, h2, h3, h4⟩, k => ⟨h1, h2, h3, ComsIn.down h4 k⟩
theorem ComsIn.snoc : ∀ {l cs m} (c : Com), ComsIn l cs m → c.fr <:+ m → c.to <:+ c.fr → c.to.length < c.fr.length → ComsIn l (cs ++ [c]) c.to
  | _, [], _, _, h, h1, h2, h3 => ⟨h1.trans h, h2, h3, List.suffix_refl _⟩
  | _, _ :: _, _, c, ⟨a1, a2, a3, a4⟩, h1, h2, h3 => ⟨a1, a2, a3, ComsIn.snoc c a4 h1 h2 h3⟩
/-- The gap's comments. -/
theorem skip_coms (l0 : List UInt8) : ∀ (s : SkipSt) (l : List UInt8), ComsIn l0 s.2.2 l → (skip s l).code = 0 → ComsIn l0 (skip s l).coms (skip s l).rest := by
  intro s l h0
  refine loop_all falls_skip ⟨999, false, [], []⟩ (fun s l g => ComsIn l0 s.2.2 l → g.code = 0 → ComsIn l0 g.coms g.rest) ?_ ?_ s l h0
  · intro s l g h h1 hc
    unfold skipS at h
    by_cases c1 : chL l = -2
    · rw [if_pos c1] at h; cases h; exact absurd (show (502 : Int) = 0 from hc) (by decide)
    rw [if_neg c1] at h
    by_cases c2 : Uni.endsB (chL l) = true
    · rw [if_pos c2] at h; cases h
    rw [if_neg c2] at h
    by_cases c3 : Uni.blankB (chL l) = true
    · rw [if_pos c3] at h; cases h
    rw [if_neg c3] at h
    by_cases c4 : opensP s.1 l = 0
    · rw [if_pos c4] at h; cases h; exact h1
    rw [if_neg c4] at h
    unfold skipC at h
    by_cases c5 : (comP (opensP s.1 l) s.2.1 l).1 = 0
    · rw [if_pos c5] at h
      by_cases c6 : (comP (opensP s.1 l) s.2.1 l).2.2.length < l.length
      · rw [if_pos c6] at h; cases h
      · rw [if_neg c6] at h; cases h; exact absurd (show (999 : Int) = 0 from hc) (by decide)
    · rw [if_neg c5] at h; cases h; exact absurd hc c5
  · intro s l s' l' g h ih h1
    unfold skipS at h
    by_cases c1 : chL l = -2
    · rw [if_pos c1] at h; cases h
    rw [if_neg c1] at h
    have hup : ∀ {cs}, ComsIn l0 cs l → ComsIn l0 cs (tl l) := fun h => h.down (tl_suf l)
    by_cases c2 : Uni.endsB (chL l) = true
    · rw [if_pos c2] at h; cases h; exact ih (hup h1)
    rw [if_neg c2] at h
    by_cases c3 : Uni.blankB (chL l) = true
    · rw [if_pos c3] at h; cases h; exact ih (hup h1)
    rw [if_neg c3] at h
    by_cases c4 : opensP s.1 l = 0
    · rw [if_pos c4] at h; cases h
    rw [if_neg c4] at h
    unfold skipC at h
    by_cases c5 : (comP (opensP s.1 l) s.2.1 l).1 = 0
    · rw [if_pos c5] at h
      by_cases c6 : (comP (opensP s.1 l) s.2.1 l).2.2.length < l.length
      · rw [if_pos c6] at h; cases h
        exact ih (ComsIn.snoc ⟨_, l, _⟩ h1 (List.suffix_refl _) (comP_suf _ _ _) c6)
      · rw [if_neg c6] at h; cases h
    · rw [if_neg c5] at h; cases h
/-- Where a gap ends, none begins. -/
theorem skip_end : ∀ (s : SkipSt) (l : List UInt8), (skip s l).code = 0 → chL (skip s l).rest ≠ -2 ∧ Uni.endsB (chL (skip s l).rest) = false ∧ Uni.blankB (chL (skip s l).rest) = false ∧
    ((skip s l).rest = l ∧ opensP s.1 l = 0 ∨ (skip s l).rest.length < l.length ∧ opensP false (skip s l).rest = 0) := by
  intro s l
  refine loop_all falls_skip ⟨999, false, [], []⟩ (fun s l g => g.code = 0 → chL g.rest ≠ -2 ∧ Uni.endsB (chL g.rest) = false ∧ Uni.blankB (chL g.rest) = false ∧
    (g.rest = l ∧ opensP s.1 l = 0 ∨ g.rest.length < l.length ∧ opensP false g.rest = 0)) ?_ ?_ s l
  · intro s l g h hc
    unfold skipS at h
    by_cases c1 : chL l = -2
    · rw [if_pos c1] at h; cases h; exact absurd (show (502 : Int) = 0 from hc) (by decide)
    rw [if_neg c1] at h
    by_cases c2 : Uni.endsB (chL l) = true
    · rw [if_pos c2] at h; cases h
    rw [if_neg c2] at h
    by_cases c3 : Uni.blankB (chL l) = true
    · rw [if_pos c3] at h; cases h
    rw [if_neg c3] at h
    by_cases c4 : opensP s.1 l = 0
    · rw [if_pos c4] at h; cases h
      exact ⟨c1, by simpa using c2, by simpa using c3, Or.inl ⟨rfl, c4⟩⟩
    rw [if_neg c4] at h
    unfold skipC at h
    by_cases c5 : (comP (opensP s.1 l) s.2.1 l).1 = 0
    · rw [if_pos c5] at h
      by_cases c6 : (comP (opensP s.1 l) s.2.1 l).2.2.length < l.length
      · rw [if_pos c6] at h; cases h
      · rw [if_neg c6] at h; cases h; exact absurd (show (999 : Int) = 0 from hc) (by decide)
    · rw [if_neg c5] at h; cases h; exact absurd hc c5
  · intro s l s' l' g h ih hc
    have hlt := falls_skip s l (s', l') h
    have hz : s'.1 = false := by
      unfold skipS at h
      by_cases c1 : chL l = -2
      · rw [if_pos c1] at h; cases h
      rw [if_neg c1] at h
      by_cases c2 : Uni.endsB (chL l) = true
      · rw [if_pos c2] at h; cases h; rfl
      rw [if_neg c2] at h
      by_cases c3 : Uni.blankB (chL l) = true
      · rw [if_pos c3] at h; cases h; rfl
      rw [if_neg c3] at h
      by_cases c4 : opensP s.1 l = 0
      · rw [if_pos c4] at h; cases h
      rw [if_neg c4] at h
      unfold skipC at h
      by_cases c5 : (comP (opensP s.1 l) s.2.1 l).1 = 0
      · rw [if_pos c5] at h
        by_cases c6 : (comP (opensP s.1 l) s.2.1 l).2.2.length < l.length
        · rw [if_pos c6] at h; cases h; rfl
        · rw [if_neg c6] at h; cases h
      · rw [if_neg c5] at h; cases h
    obtain ⟨i1, i2, i3, i4⟩ := ih hc
    simp only at hlt
    refine ⟨i1, i2, i3, Or.inr ?_⟩
    rw [hz] at i4
    rcases i4 with ⟨e, o⟩ | ⟨e, o⟩
    · rw [e]; exact ⟨hlt, o⟩
    · exact ⟨by omega, o⟩

theorem tem_no0 (a b : Int) (ha : a ≠ 0) (hb : b ≠ 0) (l m : List UInt8) (h : templateP a b l = (0, 0, m)) : False := by
  have : (tem a b l.tail).1 = a ∨ (tem a b l.tail).1 = b ∨ (tem a b l.tail).2.1 ≠ 0 := by
    refine loop_all (falls_tem a b) (0, 999, []) (fun _ _ r => r.1 = a ∨ r.1 = b ∨ r.2.1 ≠ 0) ?_ ?_ () l.tail
    · intro _ l r h
      unfold temS at h
      revert h
      repeat' split
      all_goals (intro h; cases h; try simp)
    · intro _ _ _ _ _ _ ih; exact ih
  unfold templateP backTo at h
  split at h
  · exact absurd (show (505 : Int) = 0 from congrArg (fun x => x.2.1) h) (by decide)
  · rw [h] at this
    rcases this with h | h | h
    · exact ha h.symm
    · exact hb h.symm
    · exact h rfl
/-- The end is told at the end only. -/
theorem end_only (g : Int) (l m : List UInt8) (h : tokenP g l = (0, 0, m)) : l = [] := by
  unfold tokenP at h
  by_cases g3 : g = 3
  · rw [if_pos g3] at h; exact (tem_no0 9 10 (by decide) (by decide) l m h).elim
  rw [if_neg g3] at h
  by_cases g4 : g = 4
  · rw [if_pos g4] at h
    unfold childP at h
    by_cases c1 : chL l = -1
    · exact ch_end c1
    rw [if_neg c1] at h
    by_cases c2 : chL l = 123 ∨ chL l = 60
    · rw [if_pos c2] at h; exact absurd (show (5 : Int) = 0 from congrArg (fun x => x.1) h) (by decide)
    rw [if_neg c2] at h
    by_cases c3 : chL l = 125 ∨ chL l = 62
    · rw [if_pos c3] at h; exact absurd (show (502 : Int) = 0 from congrArg (fun x => x.2.1) h) (by decide)
    rw [if_neg c3] at h
    exfalso
    have : (chi l).1 = 11 ∨ (chi l).2.1 ≠ 0 := by
      refine loop_all falls_chi (0, 999, []) (fun _ _ r => r.1 = 11 ∨ r.2.1 ≠ 0) ?_ ?_ () l
      · intro _ l r h
        unfold chiS at h
        revert h
        repeat' split
        all_goals (intro h; cases h; try simp)
      · intro _ _ _ _ _ _ ih; exact ih
    rw [h] at this
    rcases this with h | h
    · exact absurd (show (0 : Int) = 11 from h) (by decide)
    · exact h rfl
  rw [if_neg g4] at h
  have hname : ∀ d, nameP d l = (0, 0, m) → False := fun d h => by
    unfold nameP at h
    by_cases c1 : Uni.startB (chL l) = true
    · rw [if_pos c1] at h; exact absurd (show (1 : Int) = 0 from congrArg (fun x => x.1) h) (by decide)
    rw [if_neg c1] at h
    split at h
    · exact absurd (show (508 : Int) = 0 from congrArg (fun x => x.2.1) h) (by decide)
    · exact absurd (show (502 : Int) = 0 from congrArg (fun x => x.2.1) h) (by decide)
  by_cases g5 : g = 5
  · rw [if_pos g5] at h
    unfold tagP at h
    by_cases c1 : chL l = -1
    · exact ch_end c1
    rw [if_neg c1] at h
    by_cases c2 : tagB (chL l) = true
    · rw [if_pos c2] at h; exact absurd (show (5 : Int) = 0 from congrArg (fun x => x.1) h) (by decide)
    rw [if_neg c2] at h
    by_cases c3 : chL l = 34 ∨ chL l = 39
    · rw [if_pos c3] at h
      exfalso
      have : (att (chL l) (tl l)).1 = 12 ∨ (att (chL l) (tl l)).2.1 ≠ 0 := by
        refine loop_all (falls_att _) (0, 999, []) (fun _ _ r => r.1 = 12 ∨ r.2.1 ≠ 0) ?_ ?_ () (tl l)
        · intro _ l r h
          unfold attS at h
          revert h
          repeat' split
          all_goals (intro h; cases h; try simp)
        · intro _ _ _ _ _ _ ih; exact ih
      unfold attrP backTo at h
      split at h
      · exact absurd (show (504 : Int) = 0 from congrArg (fun x => x.2.1) h) (by decide)
      · rw [h] at this
        rcases this with h | h
        · exact absurd (show (0 : Int) = 12 from h) (by decide)
        · exact h rfl
    rw [if_neg c3] at h
    exact (hname true h).elim
  rw [if_neg g5] at h
  unfold commonP at h
  by_cases c1 : chL l = -1
  · exact ch_end c1
  rw [if_neg c1] at h
  exfalso
  have htem := fun a b ha hb => tem_no0 a b ha hb l m
  have hnum : numP l = (0, 0, m) → False := fun h => by
    unfold numP at h
    by_cases c1 : numB (upTo l (reachP l)) = false
    · rw [if_pos c1] at h; exact absurd (show (503 : Int) = 0 from congrArg (fun x => x.2.1) h) (by decide)
    rw [if_neg c1] at h
    by_cases c2 : chL (reachP l) = -2
    · rw [if_pos c2] at h; exact absurd (show (502 : Int) = 0 from congrArg (fun x => x.2.1) h) (by decide)
    rw [if_neg c2] at h
    by_cases c3 : Uni.startB (chL (reachP l)) = true ∨ digC (chL (reachP l)) = true
    · rw [if_pos c3] at h; exact absurd (show (503 : Int) = 0 from congrArg (fun x => x.2.1) h) (by decide)
    rw [if_neg c3] at h; exact absurd (show (3 : Int) = 0 from congrArg (fun x => x.1) h) (by decide)
  have hpun : punP l = (0, 0, m) → False := fun h => absurd (show (5 : Int) = 0 from congrArg (fun x => x.1) h) (by decide)
  by_cases c2 : chL l = 34 ∨ chL l = 39
  · rw [if_pos c2] at h
    unfold litP at h
    split at h
    · exact absurd (show (4 : Int) = 0 from congrArg (fun x => x.1) h) (by decide)
    split at h
    · exact absurd (show (502 : Int) = 0 from congrArg (fun x => x.2.1) h) (by decide)
    · exact absurd (show (504 : Int) = 0 from congrArg (fun x => x.2.1) h) (by decide)
  rw [if_neg c2] at h
  by_cases c3 : chL l = 96
  · rw [if_pos c3] at h; exact htem 7 8 (by decide) (by decide) h
  rw [if_neg c3] at h
  by_cases c4 : chL l = 35
  · rw [if_pos c4] at h
    unfold privP at h
    split at h
    · exact absurd (show (502 : Int) = 0 from congrArg (fun x => x.2.1) h) (by decide)
    split at h
    · exact absurd (show (509 : Int) = 0 from congrArg (fun x => x.2.1) h) (by decide)
    · exact absurd (show (2 : Int) = 0 from congrArg (fun x => x.1) h) (by decide)
  rw [if_neg c4] at h
  by_cases c5 : chL l = 46
  · rw [if_pos c5] at h
    split at h
    · exact hnum h
    · exact hpun h
  rw [if_neg c5] at h
  by_cases c6 : digC (chL l) = true
  · rw [if_pos c6] at h; exact hnum h
  rw [if_neg c6] at h
  by_cases c7 : chL l = 47
  · rw [if_pos c7] at h
    split at h
    · unfold regexP regexQ at h
      split at h
      · exact absurd (show (506 : Int) = 0 from congrArg (fun x => x.2.1) h) (by decide)
      split at h
      · exact absurd (show (6 : Int) = 0 from congrArg (fun x => x.1) h) (by decide)
      · rename_i hne
        exact hne (congrArg (fun x => x.2.1) h)
    · exact hpun h
  rw [if_neg c7] at h
  by_cases c8 : punC (chL l) = true
  · rw [if_pos c8] at h; exact hpun h
  · rw [if_neg c8] at h; exact hname false h

theorem coms_len : ∀ {l cs m}, ComsIn l cs m → cs.length ≤ l.length
  | _, [], _, _ => Nat.zero_le _
  | _, c :: cs, _, ⟨h1, _, h3, h4⟩ => by
    have := coms_len h4
    have := h1.length_le
    rw [List.length_cons]; omega
theorem ans_in {s : ByteArray} {i g : Int} (h : (answer s i g).code = 0) : ∃ n : Nat, i = n ∧ n ≤ s.size ∧ goalB g (Str.sufL s n) = true ∧ answer s i g = nextP g (decide (n = 0)) (Str.sufL s n) := by
  unfold answer at h
  by_cases h1 : i < 0 ∨ (s.size : Int) < i
  · rw [if_pos h1] at h; exact absurd (show (500 : Int) = 0 from h) (by decide)
  rw [if_neg h1] at h
  by_cases h2 : goalB g (Str.sufL s i.toNat) = false
  · rw [if_pos h2] at h; exact absurd (show (501 : Int) = 0 from h) (by decide)
  refine ⟨i.toNat, by omega, by omega, by simpa using h2, ?_⟩
  unfold answer
  rw [if_neg h1, if_neg h2]
  have : decide (i = 0) = decide (i.toNat = 0) := by
    by_cases e : i = 0
    · rw [decide_eq_true e, decide_eq_true (by omega)]
    · rw [decide_eq_false e, decide_eq_false (by omega)]
  rw [this]
theorem suf_of (s : ByteArray) (m : List UInt8) (h : m <:+ s.data.toList) : Str.sufL s (atS s m) = m := suf_at h
theorem pieces_ok (s : ByteArray) (i g : Int) (h : (answer s i g).code = 0) : ∃ (n : Nat) (tk : Int) (gr tm : List UInt8) (gl : Bool) (gcs : List Com), i = n ∧ n ≤ s.size ∧ answer s i g = ⟨0, [], tk, gr, tm, gl, gcs⟩ ∧ gr <:+ Str.sufL s n ∧ tm <:+ gr ∧ (tk = 0 → gr = []) ∧
    ComsIn (Str.sufL s n) gcs gr ∧ answer s (atS s gr : Nat) g = ⟨0, [], tk, gr, tm, false, []⟩ := by
  obtain ⟨n, rfl, hn, hg, ha⟩ := ans_in h
  have hsl : Str.sufL s n <:+ s.data.toList := List.drop_suffix _ _
  rw [ha] at h ⊢
  obtain ⟨G, hG⟩ : ∃ G, gapP g (decide (n = 0)) (Str.sufL s n) = G := ⟨_, rfl⟩
  have hgc : ComsIn (Str.sufL s n) G.coms G.rest ∧ (G.code = 0 → gapP g (decide (atS s G.rest = 0)) G.rest = ⟨0, false, [], G.rest⟩ ∧ goalB g G.rest = true) ∨ G.code ≠ 0 := by
    by_cases e : G.code = 0
    · left
      by_cases e34 : g = 3 ∨ g = 4
      · have : G = ⟨0, false, [], Str.sufL s n⟩ := by rw [← hG, gapP, if_pos e34]
        subst this
        exact ⟨List.suffix_refl _, fun _ => ⟨by rw [gapP, if_pos e34], hg⟩⟩
      · have hS : skip (decide (n = 0), false, []) (Str.sufL s n) = G := by rw [← hG, gapP, if_neg e34]
        have h1 := skip_coms (Str.sufL s n) (decide (n = 0), false, []) (Str.sufL s n) (List.suffix_refl _) (by rw [hS]; exact e)
        have h2 := skip_end (decide (n = 0), false, []) (Str.sufL s n) (by rw [hS]; exact e)
        rw [hS] at h1 h2
        refine ⟨h1, fun _ => ⟨?_, ?_⟩⟩
        · rw [gapP, if_neg e34]
          refine skip_stay _ _ _ _ h2.1 h2.2.1 h2.2.2.1 ?_
          rcases h2.2.2.2 with ⟨e1, o⟩ | ⟨e1, o⟩
          · rw [e1]
            have : atS s (Str.sufL s n) = n := by unfold atS; rw [Str.suf_len]; omega
            rw [this]; exact o
          · have : atS s G.rest ≠ 0 := by unfold atS; rw [Str.suf_len] at e1; omega
            rw [decide_eq_false this]; exact o
        · unfold goalB at hg ⊢
          rw [Bool.and_eq_true] at hg ⊢
          refine ⟨hg.1, ?_⟩
          rw [decide_eq_true (show g ≠ 3 from fun e => e34 (Or.inl e))]; rfl
    · exact Or.inr e
  obtain ⟨gc, gl, gcs, gr⟩ := G
  obtain ⟨T, hT⟩ : ∃ T, tokenP g gr = T := ⟨_, rfl⟩
  have hN : nextP g (decide (n = 0)) (Str.sufL s n) = ansP ⟨gc, gl, gcs, gr⟩ T := by rw [nextP, hG, ← hT]
  rw [hN] at h ⊢
  obtain ⟨tk, tc, tm⟩ := T
  by_cases e1 : gc = 0
  · subst e1
    by_cases e2 : tc = 0
    · subst e2
      rcases hgc with ⟨h1, h2⟩ | h1
      · obtain ⟨h3, h4⟩ := h2 rfl
        have hgr := h1.suf
        have hts := token_sf g gr
        rw [hT] at hts
        refine ⟨n, tk, gr, tm, gl, gcs, rfl, hn, by rw [ansP, if_pos rfl, if_pos rfl], hgr, hts, fun e => end_only g gr tm (by rw [hT, e]), h1, ?_⟩
        have hgs : gr <:+ s.data.toList := hgr.trans hsl
        rw [answer, if_neg (by have : atS s gr ≤ s.size := Nat.sub_le _ _; omega), show ((atS s gr : Nat) : Int).toNat = atS s gr from rfl, suf_of s gr hgs, h4, if_neg (by decide)]
        have : decide (((atS s gr : Nat) : Int) = 0) = decide (atS s gr = 0) := by
          by_cases e : atS s gr = 0
          · rw [decide_eq_true e, decide_eq_true (by omega)]
          · rw [decide_eq_false e, decide_eq_false (by omega)]
        rw [this, nextP, h3, hT, ansP, if_pos rfl, if_pos rfl]
      · exact absurd rfl h1
    · exfalso
      have hA : ansP ⟨0, gl, gcs, gr⟩ (tk, tc, tm) = failA tc tm := by rw [ansP, if_pos rfl, if_neg e2]
      rw [hA] at h
      exact e2 h
  · exfalso
    have hA : ansP ⟨gc, gl, gcs, gr⟩ (tk, tc, tm) = failA gc gr := by rw [ansP, if_neg (show (⟨gc, gl, gcs, gr⟩ : Gap).code ≠ 0 from e1)]
    rw [hA] at h
    exact e1 h
theorem tok_form (s : ByteArray) (a : Ans) : ∃ (K : Int) (X : ByteArray) (F T : Int) (L : Bool), tokV s a = .agg #[.int .i64 K, .string X, .int .i64 F, .int .i64 T, .bool L] ∧ (a.code = 0 → K = a.kind ∧ X = Str.ofL (upTo a.fr a.to) ∧ F = (atS s a.fr : Nat) ∧ T = (atS s a.to : Nat) ∧ L = a.line) := by
  by_cases h : a.code = 0
  · exact ⟨_, _, _, _, _, tok_ok h rfl rfl rfl, fun _ => ⟨rfl, rfl, rfl, rfl, rfl⟩⟩
  · exact ⟨_, _, _, _, _, tok_no h, fun e => absurd e h⟩

theorem cat2_size (a b : ByteArray) : (a ++ b).size = a.size + b.size := by
  have h := congrArg List.length (show (a ++ b : ByteArray).data.toList = a.data.toList ++ b.data.toList by simp)
  simp only [List.length_append, Array.length_toList] at h
  exact h
theorem cat3_size (a b c : ByteArray) : (a ++ b ++ c).size = a.size + b.size + c.size := by rw [cat2_size, cat2_size]
theorem u64_nonneg (z : Int) : 0 ≤ IntKind.u64.wrap z := by
  rw [IntKind.wrap_u64]; omega



/-- A gap behind more. -/
def Gap.more (g : Gap) (b : Bool) (cs : List Com) : Gap := ⟨g.code, b || g.line, cs ++ g.coms, g.rest⟩
theorem loop_first {σ β : Type} {f : σ → List UInt8 → β ⊕ (σ × List UInt8)} (hf : Falls f) (d : β) {s s' : σ} {l : List UInt8} (h : f s l = f s' l) : loop f d s l = loop f d s' l := by
  cases hc : f s l with
  | inl b => rw [loop_in d hc, loop_in d (h.symm.trans hc)]
  | inr p => obtain ⟨q, m⟩ := p; rw [loop_go hf d hc]; exact (loop_go hf d (h.symm.trans hc)).symm
theorem skip_z (b : Bool) (cs : List Com) (l : List UInt8) (h : pre [35, 33] l = false) : skip (true, b, cs) l = skip (false, b, cs) l := by
  refine loop_first falls_skip _ ?_
  have ho : opensP true l = opensP false l := by unfold opensP; rw [h]; simp
  unfold skipS
  simp only [ho]
  rfl
theorem blk_acc (l : List UInt8) : ∀ b b', blk (b' || b) l = ((blk b l).1, b' || (blk b l).2.1, (blk b l).2.2) := by
  intro b
  refine loop_all falls_blk (999, false, []) (fun b l r => ∀ b', blk (b' || b) l = (r.1, b' || r.2.1, r.2.2)) ?_ ?_ b l
  · intro b l r h b'
    refine loop_in _ ?_
    unfold blkS at h ⊢
    by_cases c1 : pre [42, 47] l = true
    · rw [if_pos c1] at h ⊢; cases h; rfl
    rw [if_neg c1] at h ⊢
    by_cases c2 : chL l = -2
    · rw [if_pos c2] at h ⊢; cases h; rfl
    rw [if_neg c2] at h ⊢
    by_cases c3 : chL l = -1
    · rw [if_pos c3] at h ⊢; cases h; rfl
    · rw [if_neg c3] at h; cases h
  · intro b l s' l' r h ih b'
    rw [← ih b']
    refine loop_go falls_blk _ ?_
    unfold blkS at h ⊢
    by_cases c1 : pre [42, 47] l = true
    · rw [if_pos c1] at h; cases h
    rw [if_neg c1] at h ⊢
    by_cases c2 : chL l = -2
    · rw [if_pos c2] at h; cases h
    rw [if_neg c2] at h ⊢
    by_cases c3 : chL l = -1
    · rw [if_pos c3] at h; cases h
    rw [if_neg c3] at h ⊢
    cases h
    rw [Bool.or_assoc]
theorem comP_acc (k : Nat) (b b' : Bool) (l : List UInt8) : comP k (b' || b) l = ((comP k b l).1, b' || (comP k b l).2.1, (comP k b l).2.2) := by
  unfold comP
  by_cases e : k = 2
  · rw [if_pos e, if_pos e, blk_acc]
    unfold blockQ
    simp only
    split <;> rfl
  · rw [if_neg e, if_neg e]
theorem skip_acc (s : SkipSt) (l : List UInt8) : ∀ b' cs', skip (s.1, b' || s.2.1, cs' ++ s.2.2) l = (skip s l).more b' cs' := by
  refine loop_all falls_skip ⟨999, false, [], []⟩ (fun s l g => ∀ b' cs', skip (s.1, b' || s.2.1, cs' ++ s.2.2) l = g.more b' cs') ?_ ?_ s l
  · intro s l g h b' cs'
    refine loop_in _ ?_
    unfold skipS at h ⊢
    by_cases c1 : chL l = -2
    · rw [if_pos c1] at h ⊢; cases h; rfl
    rw [if_neg c1] at h ⊢
    by_cases c2 : Uni.endsB (chL l) = true
    · rw [if_pos c2] at h; cases h
    rw [if_neg c2] at h ⊢
    by_cases c3 : Uni.blankB (chL l) = true
    · rw [if_pos c3] at h; cases h
    rw [if_neg c3] at h ⊢
    by_cases c4 : opensP s.1 l = 0
    · rw [if_pos c4] at h ⊢; cases h; rfl
    rw [if_neg c4] at h ⊢
    unfold skipC at h ⊢
    simp only [comP_acc]
    by_cases c5 : (comP (opensP s.1 l) s.2.1 l).1 = 0
    · rw [if_pos c5] at h ⊢
      by_cases c6 : (comP (opensP s.1 l) s.2.1 l).2.2.length < l.length
      · rw [if_pos c6] at h; cases h
      · exact absurd (com_lt c4 c5) c6
    · rw [if_neg c5] at h ⊢; cases h; rfl
  · intro s l s' l' g h ih b' cs'
    rw [← ih b' cs']
    refine loop_go falls_skip _ ?_
    unfold skipS at h ⊢
    by_cases c1 : chL l = -2
    · rw [if_pos c1] at h; cases h
    rw [if_neg c1] at h ⊢
    by_cases c2 : Uni.endsB (chL l) = true
    · rw [if_pos c2] at h ⊢; cases h; simp
    rw [if_neg c2] at h ⊢
    by_cases c3 : Uni.blankB (chL l) = true
    · rw [if_pos c3] at h ⊢; cases h; rfl
    rw [if_neg c3] at h ⊢
    by_cases c4 : opensP s.1 l = 0
    · rw [if_pos c4] at h; cases h
    rw [if_neg c4] at h ⊢
    unfold skipC at h ⊢
    simp only [comP_acc]
    by_cases c5 : (comP (opensP s.1 l) s.2.1 l).1 = 0
    · rw [if_pos c5] at h ⊢
      by_cases c6 : (comP (opensP s.1 l) s.2.1 l).2.2.length < l.length
      · rw [if_pos c6] at h ⊢; cases h; simp
      · rw [if_neg c6] at h; cases h
    · rw [if_neg c5] at h; cases h

/-- The gaps that are put ahead: the bytes, whether a line ends, the comment's kind and where it begins and ends. -/
def gaps : List (List UInt8) := [[32], [9, 10], [47, 42, 120, 42, 47], [47, 47, 121, 10], [13, 10, 32, 47, 42, 10, 42, 47, 32]]
def gapLine : Nat → Bool
  | 0 => false
  | 2 => false
  | _ => true
def gapOwn (l : List UInt8) : Nat → List Com
  | 0 => []
  | 1 => []
  | 2 => [⟨2, [47, 42, 120, 42, 47] ++ l, l⟩]
  | 3 => [⟨1, [47, 47, 121, 10] ++ l, 10 :: l⟩]
  | _ => [⟨2, [47, 42, 10, 42, 47, 32] ++ l, 32 :: l⟩]
theorem skip_blank (b : Bool) (cs : List Com) (x : UInt8) (l : List UInt8) (hx : x.toNat < 128) (he : Uni.endsB (x.toNat : Int) = false) (hb : Uni.blankB (x.toNat : Int) = true) : skip (false, b, cs) (x :: l) = skip (false, b, cs) l := by
  obtain ⟨a1, a2, _⟩ := ch_asc x l hx
  refine loop_go falls_skip _ ?_
  unfold skipS
  rw [a1, a2, if_neg (by omega), he, if_neg (by decide), if_pos hb]
theorem skip_line (b : Bool) (cs : List Com) (x : UInt8) (l : List UInt8) (hx : x.toNat < 128) (he : Uni.endsB (x.toNat : Int) = true) : skip (false, b, cs) (x :: l) = skip (false, true, cs) l := by
  obtain ⟨a1, a2, _⟩ := ch_asc x l hx
  refine loop_go falls_skip _ ?_
  unfold skipS
  rw [a1, a2, if_neg (by omega), if_pos he]
theorem blk_byte (b : Bool) (x : UInt8) (l : List UInt8) (hx : x.toNat < 128) (h : pre [42, 47] (x :: l) = false) : blk b (x :: l) = blk (b || Uni.endsB (x.toNat : Int)) l := by
  obtain ⟨a1, a2, _⟩ := ch_asc x l hx
  refine loop_go falls_blk _ ?_
  unfold blkS
  rw [h, if_neg (by decide), a1, a2, if_neg (by omega), if_neg (by omega)]
theorem blk_end (b : Bool) (l : List UInt8) : blk b (42 :: 47 :: l) = (0, b, l) := by
  refine loop_in _ ?_
  unfold blkS
  rw [if_pos (by simp [pre])]
  rfl
theorem pre_hd {x a b : UInt8} {T : List UInt8} (h : x ≠ a) : pre [a, b] (x :: T) = false := by
  unfold pre
  rw [decide_eq_false_iff_not]
  intro e
  rw [List.length_cons, List.take_succ_cons] at e
  exact h (List.cons.inj e).1
theorem pre_sd {x y a b : UInt8} {T : List UInt8} (h : y ≠ b) : pre [a, b] (x :: y :: T) = false := by
  unfold pre
  rw [decide_eq_false_iff_not]
  intro e
  simp only [List.length_cons, List.length_nil, List.take_succ_cons, List.take_zero] at e
  exact h (List.cons.inj (List.cons.inj e).2).1
theorem pre_sm (a b : UInt8) (T : List UInt8) : pre [a, b] (a :: b :: T) = true := by simp [pre]
/-- A block comment. -/
theorem skip_block (b b' : Bool) (cs : List Com) (t l : List UInt8) (hb : blk b t = (0, b', l)) (hl : l.length ≤ t.length) : skip (false, b, cs) (47 :: 42 :: t) = skip (false, b', cs ++ [⟨2, 47 :: 42 :: t, l⟩]) l := by
  obtain ⟨a1, _, _⟩ := ch_asc 47 (42 :: t) (by decide)
  refine loop_go falls_skip _ ?_
  have ho : opensP false (47 :: 42 :: t) = 2 := by unfold opensP; rw [pre_sd (by decide), pre_sm]; rfl
  have hc : comP 2 b (47 :: 42 :: t) = (0, b', l) := by
    unfold comP
    rw [if_pos rfl, show List.drop 2 (47 :: 42 :: t) = t from rfl, hb]; rfl
  unfold skipS
  rw [a1, if_neg (by decide), if_neg (by decide), if_neg (by decide), ho, if_neg (by decide), hc]
  unfold skipC
  rw [if_pos rfl, if_pos (by simp only [List.length_cons]; omega)]
/-- A comment up to the end of its line. -/
theorem skip_lin (b : Bool) (cs : List Com) (t l : List UInt8) (ht : lin t = (0, l)) (hl : l.length ≤ t.length) : skip (false, b, cs) (47 :: 47 :: t) = skip (false, b, cs ++ [⟨1, 47 :: 47 :: t, l⟩]) l := by
  obtain ⟨a1, _, _⟩ := ch_asc 47 (47 :: t) (by decide)
  refine loop_go falls_skip _ ?_
  have ho : opensP false (47 :: 47 :: t) = 1 := by unfold opensP; rw [pre_sm]; rfl
  have hn : lin (47 :: 47 :: t) = (0, l) := by rw [lin_go 47 _ (by decide) (by decide), lin_go 47 _ (by decide) (by decide), ht]
  have hc : comP 1 b (47 :: 47 :: t) = (0, b, l) := by
    unfold comP
    rw [if_neg (by decide), hn]
  unfold skipS
  rw [a1, if_neg (by decide), if_neg (by decide), if_neg (by decide), ho, if_neg (by decide), hc]
  unfold skipC
  rw [if_pos rfl, if_pos (by simp only [List.length_cons]; omega)]
theorem gap_ahead (r : Nat) (hr : r < 5) (l : List UInt8) : skip (false, false, []) (gaps.getD r [] ++ l) = (skip (false, false, []) l).more (gapLine r) (gapOwn l r) := by
  have hacc : ∀ b cs, skip (false, b, cs) l = (skip (false, false, []) l).more b cs := fun b cs => by
    have := skip_acc (false, false, []) l b cs
    simpa using this
  obtain rfl | rfl | rfl | rfl | rfl : r = 0 ∨ r = 1 ∨ r = 2 ∨ r = 3 ∨ r = 4 := by omega
  · show skip (false, false, []) (32 :: l) = _
    rw [skip_blank _ _ 32 l (by decide) (by decide) (by decide), hacc]; rfl
  · show skip (false, false, []) (9 :: 10 :: l) = _
    rw [skip_blank _ _ 9 _ (by decide) (by decide) (by decide), skip_line _ _ 10 l (by decide) (by decide), hacc]; rfl
  · show skip (false, false, []) (47 :: 42 :: 120 :: 42 :: 47 :: l) = _
    rw [skip_block false false [] (120 :: 42 :: 47 :: l) l (by rw [blk_byte _ 120 _ (by decide) (pre_hd (by decide)), blk_end]; rfl) (by simp only [List.length_cons]; omega), hacc]; rfl
  · show skip (false, false, []) (47 :: 47 :: 121 :: 10 :: l) = _
    have hn : lin (121 :: 10 :: l) = (0, 10 :: l) := by
      rw [lin_go 121 _ (by decide) (by decide)]
      refine loop_in _ ?_
      obtain ⟨a1, _, _⟩ := ch_asc 10 l (by decide)
      unfold linS
      rw [a1, if_neg (by decide), if_pos (by decide)]
    rw [skip_lin false [] (121 :: 10 :: l) (10 :: l) hn (by simp only [List.length_cons]; omega), skip_line _ _ 10 l (by decide) (by decide), hacc]; rfl
  · show skip (false, false, []) (13 :: 10 :: 32 :: 47 :: 42 :: 10 :: 42 :: 47 :: 32 :: l) = _
    rw [skip_line _ _ 13 _ (by decide) (by decide), skip_line _ _ 10 _ (by decide) (by decide), skip_blank _ _ 32 _ (by decide) (by decide) (by decide),
      skip_block true true [] (10 :: 42 :: 47 :: 32 :: l) (32 :: l) (by rw [blk_byte _ 10 _ (by decide) (pre_hd (by decide)), blk_end]; rfl) (by simp only [List.length_cons]; omega),
      skip_blank _ _ 32 l (by decide) (by decide) (by decide), hacc]; rfl

/-- Both answers. -/
theorem blanks_all (s u : ByteArray) (g : Int) (r : Nat) (hr : r < 5) (hg : g = 1 ∨ g = 2 ∨ g = 5) (hu : u.data.toList = 97 :: (gaps.getD r [] ++ s.data.toList)) (hp : pre [35, 33] s.data.toList = false) :
    (∃ c m, m <:+ s.data.toList ∧ c ≠ 0 ∧ answer s 0 g = failA c m ∧ answer u 1 g = failA c m) ∨
    (∃ k fr tt ln cs, fr <:+ s.data.toList ∧ tt <:+ fr ∧ answer s 0 g = ⟨0, [], k, fr, tt, ln, cs⟩ ∧ answer u 1 g = ⟨0, [], k, fr, tt, gapLine r || ln, gapOwn s.data.toList r ++ cs⟩) := by
  have hgb : ∀ l, goalB g l = true := fun l => by rcases hg with rfl | rfl | rfl <;> rfl
  have h34 : ¬ (g = 3 ∨ g = 4) := by omega
  have hus : 1 ≤ u.size := by
    have := congrArg List.length hu
    simp only [List.length_cons, Array.length_toList] at this
    have e : u.data.size = u.size := rfl
    omega
  have hsu : Str.sufL u 1 = gaps.getD r [] ++ s.data.toList := by unfold Str.sufL; rw [hu]; rfl
  have h1 : answer s 0 g = nextP g true s.data.toList := answer_zero s g (hgb _)
  have h2 : answer u 1 g = nextP g false (gaps.getD r [] ++ s.data.toList) := by
    rw [answer, if_neg (by omega), show (1 : Int).toNat = 1 from rfl, hsu, hgb, if_neg (by decide)]
    rfl
  have g1 : gapP g true s.data.toList = skip (false, false, []) s.data.toList := by rw [gapP, if_neg h34, skip_z _ _ _ hp]
  have g2 : gapP g false (gaps.getD r [] ++ s.data.toList) = (skip (false, false, []) s.data.toList).more (gapLine r) (gapOwn s.data.toList r) := by rw [gapP, if_neg h34, gap_ahead r hr]
  have hsf := skip_suf (false, false, []) s.data.toList
  obtain ⟨G, hG⟩ : ∃ G, skip (false, false, []) s.data.toList = G := ⟨_, rfl⟩
  rw [hG] at g1 g2 hsf
  rw [h1, h2, nextP, nextP, g1, g2]
  obtain ⟨gc, gl, gcs, gr⟩ := G
  show (∃ c m, m <:+ s.data.toList ∧ c ≠ 0 ∧ ansP ⟨gc, gl, gcs, gr⟩ (tokenP g gr) = failA c m ∧ ansP ⟨gc, gapLine r || gl, gapOwn s.data.toList r ++ gcs, gr⟩ (tokenP g gr) = failA c m) ∨
    (∃ k fr tt ln cs, fr <:+ s.data.toList ∧ tt <:+ fr ∧ ansP ⟨gc, gl, gcs, gr⟩ (tokenP g gr) = ⟨0, [], k, fr, tt, ln, cs⟩ ∧ ansP ⟨gc, gapLine r || gl, gapOwn s.data.toList r ++ gcs, gr⟩ (tokenP g gr) = ⟨0, [], k, fr, tt, gapLine r || ln, gapOwn s.data.toList r ++ cs⟩)
  have hts := token_sf g gr
  obtain ⟨T, hT⟩ : ∃ T, tokenP g gr = T := ⟨_, rfl⟩
  rw [hT] at hts ⊢
  obtain ⟨tk, tc, tm⟩ := T
  unfold ansP
  by_cases e1 : gc = 0
  · subst e1
    by_cases e2 : tc = 0
    · subst e2
      right
      exact ⟨tk, gr, tm, gl, gcs, hsf, hts, by rw [if_pos rfl, if_pos rfl], by rw [if_pos rfl, if_pos rfl]⟩
    · left
      exact ⟨tc, tm, (show tm <:+ gr from hts).trans hsf, e2, by rw [if_pos rfl, if_neg e2], by rw [if_pos rfl, if_neg e2]⟩
  · left
    exact ⟨gc, gr, hsf, e1, by rw [if_neg (show (⟨gc, gl, gcs, gr⟩ : Gap).code ≠ 0 from e1)], by rw [if_neg (show (⟨gc, gapLine r || gl, gapOwn s.data.toList r ++ gcs, gr⟩ : Gap).code ≠ 0 from e1)]⟩

theorem take_two (s : ByteArray) : (s.extract 0 2).data.toList = s.data.toList.take 2 := by
  simp [List.extract_eq_take_drop]

end Lex
end Go.Proofs.YtfnilkhccomemaaDoor
