/-
  A literal as a list of bytes: its parts; where it goes wrong: no program is named here.
-/
import Derived.Test.YtggibhlmnfodaaaDoorStrPlain
namespace Go.Proofs.YtggibhlmnfodaaaDoor
namespace Str
open Go.RowKit

/-- A part: its bytes, and what it stands for. -/
abbrev Piece := List UInt8 × Int

/-- The parts up to the quote q: how many bytes went. -/
def scan (q : UInt8) : Nat → List UInt8 → Nat × Option (List Piece)
  | 0, _ => (0, none)
  | f + 1, l => if l.head? = some q then (0, some []) else
    match (partL l).2 with
    | none => ((partL l).1, none)
    | some v => ((partL l).1 + (scan q f (l.drop (partL l).1)).1, (scan q f (l.drop (partL l).1)).2.map ((l.take (partL l).1, v) :: ·))

theorem part_pos (l : List UInt8) (v : Int) (h : (partL l).2 = some v) : 1 ≤ (partL l).1 ∧ (partL l).1 ≤ l.length :=
  ⟨(part_le l).2 (by rw [h]; rfl), (part_le l).1⟩

theorem scan_fuel (q : UInt8) : ∀ f g l, l.length < f → l.length < g → scan q f l = scan q g l := by
  intro f
  induction f with
  | zero => intro g l h; omega
  | succ f ih =>
    intro g l hf hg
    match g with
    | 0 => omega
    | g + 1 =>
      rw [scan, scan]
      by_cases h : l.head? = some q
      · rw [if_pos h, if_pos h]
      rw [if_neg h, if_neg h]
      cases hp : (partL l).2 with
      | none => rfl
      | some v =>
        have := part_pos l v hp
        have e := ih g (l.drop (partL l).1) (by rw [List.length_drop]; omega) (by rw [List.length_drop]; omega)
        simp only [e]

def scanL (q : UInt8) (l : List UInt8) : Nat × Option (List Piece) := scan q (l.length + 1) l

theorem scan_close (q : UInt8) (l : List UInt8) (h : l.head? = some q) : scanL q l = (0, some []) := by
  rw [scanL, scan, if_pos h]
theorem scan_bad (q : UInt8) (l : List UInt8) (h : ¬ l.head? = some q) (hp : (partL l).2 = none) : scanL q l = ((partL l).1, none) := by
  rw [scanL, scan, if_neg h, hp]
theorem scan_step (q : UInt8) (l : List UInt8) (v : Int) (h : ¬ l.head? = some q) (hp : (partL l).2 = some v) :
    scanL q l = ((partL l).1 + (scanL q (l.drop (partL l).1)).1, (scanL q (l.drop (partL l).1)).2.map ((l.take (partL l).1, v) :: ·)) := by
  have := part_pos l v hp
  have e := scan_fuel q l.length ((l.drop (partL l).1).length + 1) (l.drop (partL l).1) (by rw [List.length_drop]; omega) (by omega)
  rw [scanL, scan, if_neg h, hp, scanL]
  simp only [e]
theorem scan_le (q : UInt8) : ∀ n l, l.length ≤ n → (scanL q l).1 ≤ l.length ∧ ((scanL q l).2.isSome = true → (scanL q l).1 < l.length) := by
  intro n
  induction n with
  | zero =>
    intro l hl
    obtain rfl := List.eq_nil_of_length_eq_zero (by omega : l.length = 0)
    rw [scan_bad q [] (by simp) rfl]
    exact ⟨by simp [partL], by simp⟩
  | succ n ih =>
    intro l hl
    by_cases h : l.head? = some q
    · rw [scan_close q l h]
      cases l with
      | nil => cases h
      | cons x l => simp
    cases hp : (partL l).2 with
    | none => rw [scan_bad q l h hp]; exact ⟨(part_le l).1, by simp⟩
    | some v =>
      have hpp := part_pos l v hp
      have := ih (l.drop (partL l).1) (by rw [List.length_drop]; omega)
      rw [List.length_drop] at this
      rw [scan_step q l v h hp]
      refine ⟨by show _ + _ ≤ _; omega, fun hs => ?_⟩
      have := this.2 (by simpa using hs)
      show _ + _ < _; omega

/-- A literal: the place of its fault and nothing, or 0 and its parts. -/
def litL : List UInt8 → Nat × Option (List Piece)
  | [] => (0, none)
  | q :: l => if q = 39 ∨ q = 34 then
      (match (scanL q l).2 with
      | none => ((scanL q l).1 + 1, none)
      | some ps => if (scanL q l).1 + 1 < l.length then ((scanL q l).1 + 2, none) else (0, some ps))
    else (0, none)
/-- What a check of it says. -/
def codeL (r : Nat × Option (List Piece)) : Nat := if r.2.isSome = true then 0 else 300

/-- What stands next lets a part be. -/
def follows (p m : List UInt8) : Prop := (p = [92, 48] → digHead m = false) ∧ (p = [92, 13] → ¬ m.head? = some 10)

theorem run_keep : ∀ n a (p m m' : List UInt8), (runL n a (p ++ m)).1 = p.length → (runL n a (p ++ m)).2.isSome = true → runL n a (p ++ m') = runL n a (p ++ m)
  | 0, a, p, m, m', _, _ => rfl
  | n + 1, a, [], m, m', h, h2 => by
    cases m with
    | nil => simp [runL] at h2
    | cons x m =>
      rw [List.nil_append, runL] at h h2
      split at h
      · rename_i e; rw [if_pos e] at h2; simp at h2
      · simp at h
  | n + 1, a, x :: p, m, m', h, h2 => by
    rw [List.cons_append, runL] at h h2 ⊢
    rw [List.cons_append, runL]
    by_cases e : hexV x.toNat < 0
    · rw [if_pos e] at h2; simp at h2
    · rw [if_neg e] at h h2
      rw [if_neg e, if_neg e, run_keep n _ p m m' (by simpa using h) h2]
theorem bra_keep : ∀ f a (p m m' : List UInt8), (braL f a (p ++ m)).1 = p.length → (braL f a (p ++ m)).2.isSome = true → braL f a (p ++ m') = braL f a (p ++ m)
  | f, a, [], m, m', h, h2 => by
    have := (bra_le f a m).2 h2
    rw [List.nil_append] at h
    simp at h; omega
  | f, a, x :: p, m, m', h, h2 => by
    rw [List.cons_append, braL] at h h2 ⊢
    rw [List.cons_append, braL]
    by_cases e : 0 ≤ hexV x.toNat
    · rw [if_pos e] at h h2
      rw [if_pos e, if_pos e, bra_keep false _ p m m' (by simpa using h) h2]
    · rw [if_neg e, if_neg e]

theorem esc_keep (p m m' : List UInt8) (h : (escL (p ++ m)).1 = p.length) (h2 : (escL (p ++ m)).2.isSome = true) (hf : p = [48] → digHead m' = false) (hr : p = [13] → ¬ m'.head? = some 10) :
    escL (p ++ m') = escL (p ++ m) := by
  have hpos := (esc_le (p ++ m)).2 h2
  match p with
  | [] => rw [List.nil_append] at h hpos; simp at h; omega
  | x :: p =>
    rw [List.cons_append, escL] at h h2 ⊢
    rw [List.cons_append, escL]
    by_cases c1 : x = 120
    · rw [if_pos c1] at h h2
      rw [if_pos c1, if_pos c1]
      simp only [ahead, List.length_cons, Option.isSome_map] at h h2
      rw [run_keep 2 0 p m m' (by omega) h2]
    rw [if_neg c1] at h h2
    rw [if_neg c1, if_neg c1]
    by_cases c2 : x = 117
    · rw [if_pos c2] at h h2
      rw [if_pos c2, if_pos c2]
      match p with
      | [] =>
        exfalso
        rw [List.nil_append] at h h2
        by_cases e : m.head? = some 123
        · rw [if_pos e] at h
          simp [ahead] at h
          omega
        · rw [if_neg e] at h h2
          simp only [ahead, List.length_cons, List.length_nil, Option.isSome_map] at h h2
          have := (run_le 4 0 m).2 h2
          omega
      | y :: p =>
        by_cases e : y = 123
        · subst e
          rw [if_pos (by rfl)] at h h2
          rw [if_pos (by rfl), if_pos (by rfl)]
          simp only [ahead, List.length_cons, Option.isSome_map, List.cons_append, List.tail_cons] at h h2 ⊢
          rw [bra_keep true 0 p m m' (by omega) h2]
        · have e1 : ∀ z : List UInt8, ¬ (y :: p ++ z).head? = some 123 := by intro z; simp [e]
          rw [if_neg (e1 m)] at h h2
          rw [if_neg (e1 m), if_neg (e1 m')]
          simp only [ahead, List.length_cons, Option.isSome_map] at h h2
          rw [run_keep 4 0 (y :: p) m m' (by simp only [List.length_cons]; omega) h2]
    rw [if_neg c2] at h h2
    rw [if_neg c2, if_neg c2]
    by_cases c3 : x = 48
    · rw [if_pos c3] at h h2
      rw [if_pos c3, if_pos c3]
      obtain rfl : p = [] := List.eq_nil_of_length_eq_zero (by have h' : 1 = p.length + 1 := h
                                                               omega)
      rw [List.nil_append] at h2 ⊢
      rw [List.nil_append]
      have h0 : digHead m = false := by
        cases e : digHead m with
        | true => rw [e] at h2; simp at h2
        | false => rfl
      rw [h0, hf (by rw [c3])]
    rw [if_neg c3] at h h2
    rw [if_neg c3, if_neg c3]
    by_cases c4 : 49 ≤ x.toNat ∧ x.toNat ≤ 57
    · rw [if_pos c4] at h2; simp at h2
    rw [if_neg c4] at h h2
    rw [if_neg c4, if_neg c4]
    by_cases c5 : x = 13
    · rw [if_pos c5] at h h2
      rw [if_pos c5, if_pos c5]
      match p with
      | [] =>
        rw [List.nil_append] at h ⊢
        rw [List.nil_append]
        by_cases e : m.head? = some 10
        · rw [if_pos e] at h; simp at h
        · rw [if_neg e, if_neg (hr (by rw [c5]))]
      | y :: p => rfl
    rw [if_neg c5] at h h2
    rw [if_neg c5, if_neg c5]
    have := lenL_keep (x :: p) m m' h (List.cons_ne_nil _ _)
    rw [List.cons_append, List.cons_append] at this
    have h' : lenL (x :: (p ++ m)) = (x :: p).length := h
    rw [this.1, this.2, ← h']

/-- A PART IS TOLD BY ITS OWN BYTES. -/
theorem part_keep (p m m' : List UInt8) (v : Int) (h : partL (p ++ m) = (p.length, some v)) (hf : follows p m') : partL (p ++ m') = (p.length, some v) := by
  match p with
  | [] =>
    have := part_pos _ v (by rw [h])
    rw [h] at this
    simp at this
  | x :: p =>
    rw [List.cons_append, partL] at h ⊢
    by_cases c1 : x = 92
    · rw [if_pos c1] at h ⊢
      injection h with h1 h2
      have := esc_keep p m m' (by simpa using h1) (by rw [h2]; rfl) (fun e => hf.1 (by rw [c1, e])) (fun e => hf.2 (by rw [c1, e]))
      rw [this, h1, h2]
    rw [if_neg c1] at h ⊢
    by_cases c2 : x = 10 ∨ x = 13
    · rw [if_pos c2] at h; injection h with h1 h2; cases h2
    rw [if_neg c2] at h ⊢
    injection h with h1 h2
    have := lenL_keep (x :: p) m m' h1 (List.cons_ne_nil _ _)
    rw [List.cons_append, List.cons_append] at this
    rw [this.1, this.2, ← h1, h2, h1]

end Str
end Go.Proofs.YtggibhlmnfodaaaDoor
