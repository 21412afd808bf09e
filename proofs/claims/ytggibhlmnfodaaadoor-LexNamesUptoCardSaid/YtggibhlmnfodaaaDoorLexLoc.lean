/-
  Where a list is read, its first characters tell: what stands behind turns nothing.
-/
import Derived.Test.YtggibhlmnfodaaaDoorLexPlain
namespace Go.Proofs.YtggibhlmnfodaaaDoor
namespace Lex
open Go.RowKit
open Str (lenL runeL)

theorem ch_asc (x : UInt8) (l : List UInt8) (h : x.toNat < 128) : chL (x :: l) = (x.toNat : Int) ∧ tl (x :: l) = l ∧ lenL (x :: l) = 1 := by
  rcases Str.lenL_cons x l with ⟨_, h2⟩ | ⟨h1, h2, h3⟩ | ⟨_, h2, _⟩
  · omega
  · refine ⟨?_, by rw [tl, h1]; rfl, h1⟩
    rw [chL, if_neg (List.cons_ne_nil _ _), if_neg (by omega), h3]
  · omega
theorem ch_head {l : List UInt8} {c : Int} (h : chL l = c) (h0 : 0 ≤ c) (h1 : c < 128) : ∃ x : UInt8, l = x :: tl l ∧ (x.toNat : Int) = c ∧ lenL l = 1 := by
  obtain ⟨e1, e2, e3⟩ := ch_yes (l := l) (by omega) (by omega)
  cases l with
  | nil => exact absurd rfl e1
  | cons x t =>
    rcases Str.lenL_cons x t with ⟨h2, _⟩ | ⟨h2, h3, h4⟩ | ⟨_, _, h4, _⟩
    · exact absurd h2 e2
    · exact ⟨x, by rw [tl, h2]; rfl, by omega, h2⟩
    · omega
theorem ch_nil : chL [] = -1 := rfl
theorem ch_end {l : List UInt8} (h : chL l = -1) : l = [] := by
  by_cases e : l = []
  · exact e
  · rw [chL, if_neg e] at h
    split at h <;> omega
theorem ch_app (l T : List UInt8) (h1 : chL l ≠ -1) (h2 : chL l ≠ -2) : chL (l ++ T) = chL l ∧ tl (l ++ T) = tl l ++ T := by
  obtain ⟨e1, e2, e3⟩ := ch_yes h1 h2
  have hle := Str.lenL_le l
  have hp : l.take (lenL l) ≠ [] := by
    intro e
    have := congrArg List.length e
    rw [List.length_take, Nat.min_eq_left hle] at this
    exact e2 this
  have hl : (l.take (lenL l)).length = lenL l := by rw [List.length_take, Nat.min_eq_left hle]
  have hk := Str.lenL_keep (l.take (lenL l)) (l.drop (lenL l)) (l.drop (lenL l) ++ T) (by rw [List.take_append_drop, hl]) hp
  rw [← List.append_assoc, List.take_append_drop, hl] at hk
  refine ⟨?_, ?_⟩
  · rw [e3, chL, if_neg (by simp [e1]), if_neg (by rw [hk.1]; exact e2), hk.2]
  · rw [tl, hk.1, List.drop_append_of_le_length hle]; rfl
theorem ch_pos {l : List UInt8} (h : l ≠ []) : chL l ≠ -1 := fun e => h (ch_end e)
theorem tl_nil : tl [] = [] := rfl
theorem tl_bad {l : List UInt8} (h : chL l = -2) : tl l = l := by
  have : lenL l = 0 := by
    unfold chL at h
    by_cases e : l = []
    · rw [e]; rfl
    rw [if_neg e] at h
    by_cases e2 : lenL l = 0
    · exact e2
    · rw [if_neg e2] at h; omega
  rw [tl, this]; rfl

theorem pre_iff (t l : List UInt8) : pre t l = true ↔ ∃ r, l = t ++ r := by
  unfold pre
  rw [decide_eq_true_eq]
  constructor
  · intro h; exact ⟨l.drop t.length, by conv => { rhs; lhs; rw [← h] }; rw [List.take_append_drop]⟩
  · rintro ⟨r, rfl⟩; exact List.take_left
theorem pre_one (c : UInt8) (l : List UInt8) (hc : c.toNat < 128) : pre [c] l = decide (chL l = c.toNat) := by
  rw [Bool.eq_iff_iff, pre_iff, decide_eq_true_eq]
  constructor
  · rintro ⟨r, rfl⟩; exact (ch_asc c r hc).1
  · intro h
    obtain ⟨x, h1, h2, _⟩ := ch_head h (by omega) (by omega)
    have : x = c := UInt8.toNat_inj.1 (by omega)
    exact ⟨tl l, by rw [← this]; exact h1⟩
/-- A beginning of two bytes, of which T begins with neither second one. -/
theorem pre_two (a b : UInt8) (l T : List UInt8) (ha : T.head? ≠ some a) (hb : T.head? ≠ some b) : pre [a, b] (l ++ T) = pre [a, b] l := by
  match l with
  | [] => cases T with
    | nil => rfl
    | cons x t =>
      have : x ≠ a := fun e => ha (by rw [e]; rfl)
      simp [pre, this]
  | [x] => cases T with
    | nil => rfl
    | cons y t =>
      have : y ≠ b := fun e => hb (by rw [e]; rfl)
      simp [pre, this]
  | x :: y :: t => simp [pre]

theorem upTo_all (l : List UInt8) : upTo l [] = l := by unfold upTo; simp
theorem upTo_app (a m : List UInt8) : upTo (a ++ m) m = a := by unfold upTo; simp
theorem upTo_long (l m T : List UInt8) : upTo (l ++ T) (m ++ T) = upTo l m := by
  unfold upTo
  rw [List.length_append, List.length_append, show l.length + T.length - (m.length + T.length) = l.length - m.length by omega, List.take_append_of_le_length (by omega)]

/-! A blank behind. -/
theorem ch32 (t : List UInt8) : chL (32 :: t) = 32 ∧ tl (32 :: t) = t := ⟨(ch_asc 32 t (by decide)).1, (ch_asc 32 t (by decide)).2.1⟩
theorem part32 : Uni.partB 32 = false := by decide
theorem start32 : Uni.startB 32 = false := by decide

theorem parts_app (d : Bool) (l t : List UInt8) : (parts d l).1 = 0 → parts d (l ++ 32 :: t) = (0, (parts d l).2 ++ 32 :: t) := by
  refine loop_all (falls_parts d) (999, []) (fun _ l b => b.1 = 0 → parts d (l ++ 32 :: t) = (0, b.2 ++ 32 :: t)) ?_ ?_ () l
  · intro _ l b h hb
    unfold partsS at h
    by_cases c1 : chL l = -2
    · rw [if_pos c1] at h; cases h; cases hb
    rw [if_neg c1] at h
    by_cases c2 : Uni.partB (chL l) = false ∧ (chL l ≠ 45 ∨ d = false)
    · rw [if_pos c2] at h
      cases h
      refine loop_in _ ?_
      unfold partsS
      by_cases e : l = []
      · subst e
        rw [List.nil_append, (ch32 t).1, if_neg (by decide), if_pos ⟨part32, Or.inl (by decide)⟩]
      · rw [(ch_app l (32 :: t) (ch_pos e) c1).1, if_neg c1, if_pos c2]
    · rw [if_neg c2] at h; cases h
  · intro _ l _ l' b h ih hb
    unfold partsS at h
    by_cases c1 : chL l = -2
    · rw [if_pos c1] at h; cases h
    rw [if_neg c1] at h
    by_cases c2 : Uni.partB (chL l) = false ∧ (chL l ≠ 45 ∨ d = false)
    · rw [if_pos c2] at h; cases h
    rw [if_neg c2] at h
    cases h
    have e : chL l ≠ -1 := fun e => c2 (by rw [e]; exact ⟨part_no1, Or.inl (by decide)⟩)
    obtain ⟨h1, h2⟩ := ch_app l (32 :: t) e c1
    rw [← ih hb, ← h2]
    refine loop_go (falls_parts d) _ ?_
    unfold partsS
    rw [h1, if_neg c1, if_neg c2]

theorem tem_app (a b : Int) (l t : List UInt8) : (tem a b l).2.1 = 0 → l ≠ [] ∧ chL l ≠ -2 ∧ tem a b (l ++ 32 :: t) = ((tem a b l).1, 0, (tem a b l).2.2 ++ 32 :: t) := by
  refine loop_all (falls_tem a b) (0, 999, []) (fun _ l r => r.2.1 = 0 → l ≠ [] ∧ chL l ≠ -2 ∧ tem a b (l ++ 32 :: t) = (r.1, 0, r.2.2 ++ 32 :: t)) ?_ ?_ () l
  · intro _ l r h hb
    unfold temS at h
    by_cases c1 : chL l = -2
    · rw [if_pos c1] at h; cases h; cases hb
    rw [if_neg c1] at h
    by_cases c2 : chL l = -1
    · rw [if_pos c2] at h; cases h; cases hb
    rw [if_neg c2] at h
    obtain ⟨h1, h2⟩ := ch_app l (32 :: t) c2 c1
    refine ⟨fun e => c2 (by rw [e]; rfl), c1, ?_⟩
    refine loop_in _ ?_
    unfold temS
    rw [h1, h2, if_neg c1, if_neg c2, pre_two 36 123 l (32 :: t) (by simp) (by simp)]
    by_cases c3 : chL l = 92
    · rw [if_pos c3] at h; cases h
    rw [if_neg c3] at h ⊢
    by_cases c4 : chL l = 96
    · rw [if_pos c4] at h ⊢; cases h; rfl
    rw [if_neg c4] at h ⊢
    by_cases c5 : pre [36, 123] l = true
    · rw [if_pos c5] at h ⊢
      obtain ⟨r', rfl⟩ := (pre_iff _ _).1 c5
      cases h; rfl
    · rw [if_neg c5] at h; cases h
  · intro _ l _ l' r h ih hb
    obtain ⟨i1, i2, i3⟩ := ih hb
    unfold temS at h
    by_cases c1 : chL l = -2
    · rw [if_pos c1] at h; cases h
    rw [if_neg c1] at h
    by_cases c2 : chL l = -1
    · rw [if_pos c2] at h; cases h
    rw [if_neg c2] at h
    obtain ⟨h1, h2⟩ := ch_app l (32 :: t) c2 c1
    refine ⟨fun e => c2 (by rw [e]; rfl), c1, ?_⟩
    by_cases c3 : chL l = 92
    · rw [if_pos c3] at h
      cases h
      have n1 : chL (tl l) ≠ -1 := fun e => i1 (by rw [ch_end e]; rfl)
      have n2 : chL (tl l) ≠ -2 := fun e => i2 (by rw [tl_bad e]; exact e)
      obtain ⟨h3, h4⟩ := ch_app (tl l) (32 :: t) n1 n2
      rw [← i3, ← h4, ← h2]
      refine loop_go (falls_tem a b) _ ?_
      unfold temS
      rw [h1, if_neg c1, if_neg c2, if_pos c3]
    rw [if_neg c3] at h
    by_cases c4 : chL l = 96
    · rw [if_pos c4] at h; cases h
    rw [if_neg c4] at h
    by_cases c5 : pre [36, 123] l = true
    · rw [if_pos c5] at h; cases h
    rw [if_neg c5] at h
    cases h
    rw [← i3, ← h2]
    refine loop_go (falls_tem a b) _ ?_
    unfold temS
    rw [h1, if_neg c1, if_neg c2, if_neg c3, if_neg c4, pre_two 36 123 l (32 :: t) (by simp) (by simp), if_neg c5]

theorem digs_app (l t : List UInt8) : digsP (l ++ 32 :: t) = ((digsP l).1, (digsP l).2 ++ 32 :: t) := by
  induction l with
  | nil => rfl
  | cons x l ih =>
    rw [List.cons_append, digsP, digsP]
    by_cases c1 : digC x.toNat = true ∨ x = 95
    · rw [if_pos c1, if_pos c1, ih]
    rw [if_neg c1, if_neg c1]
    by_cases c2 : (x ||| 32) < 97 ∨ 122 < (x ||| 32)
    · rw [if_pos c2, if_pos c2]; rfl
    · rw [if_neg c2, if_neg c2, ih]
theorem pre_blank (c : UInt8) (hc : c ≠ 32) (l t : List UInt8) : pre [c] (l ++ 32 :: t) = pre [c] l := by
  cases l with
  | nil => simp [pre, Ne.symm hc]
  | cons x l => simp [pre]
theorem pre_ne {c : UInt8} {l : List UInt8} (h : pre [c] l = true) : l = c :: l.tail := by
  obtain ⟨r, rfl⟩ := (pre_iff _ _).1 h; rfl
theorem tail_app {l : List UInt8} (h : l ≠ []) (T : List UInt8) : (l ++ T).tail = l.tail ++ T := by cases l with | nil => exact absurd rfl h | cons x t => rfl
theorem reachW_app (l t : List UInt8) : reachW (l ++ 32 :: t) = reachW l ++ 32 :: t := by
  unfold reachW
  rw [digs_app]
  simp only
  rw [pre_blank 46 (by decide)]
  by_cases c : (digsP l).1 = true ∧ pre [46] (digsP l).2 = true
  · rw [if_pos c, if_pos c]
    have hn : (digsP l).2 ≠ [] := by rw [pre_ne c.2]; exact List.cons_ne_nil _ _
    rw [tail_app hn, digs_app]
  · rw [if_neg c, if_neg c]
theorem reach_app (l t : List UInt8) : reachP (l ++ 32 :: t) = reachP l ++ 32 :: t := by
  unfold reachP
  rw [reachW_app, upTo_long]
  unfold reachQ
  rw [pre_blank 43 (by decide), pre_blank 45 (by decide)]
  split
  · rfl
  split
  · rename_i h
    have hn : reachW l ≠ [] := by rcases h with h | h <;> (rw [pre_ne h]; exact List.cons_ne_nil _ _)
    rw [tail_app hn, digs_app]
  · rfl
theorem num_app (l t : List UInt8) (h : numP l = (3, 0, [])) : numP (l ++ 32 :: t) = (3, 0, 32 :: t) := by
  unfold numP at h ⊢
  rw [reach_app, upTo_long]
  by_cases c1 : numB (upTo l (reachP l)) = false
  · rw [if_pos c1] at h; simp at h
  rw [if_neg c1] at h ⊢
  by_cases c2 : chL (reachP l) = -2
  · rw [if_pos c2] at h; simp at h
  rw [if_neg c2] at h
  by_cases c3 : Uni.startB (chL (reachP l)) = true ∨ digC (chL (reachP l)) = true
  · rw [if_pos c3] at h; simp at h
  rw [if_neg c3] at h
  have hr : reachP l = [] := by simpa using h
  rw [hr, List.nil_append, (ch32 t).1, if_neg (by decide), if_neg (by rw [start32]; decide)]

end Lex
end Go.Proofs.YtggibhlmnfodaaaDoor
