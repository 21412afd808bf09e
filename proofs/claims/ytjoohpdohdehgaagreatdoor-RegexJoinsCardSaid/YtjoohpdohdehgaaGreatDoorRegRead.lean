/-
  Patterns and alternatives, whatever the bound: no program is named here.
-/
import Derived.Test.YtjoohpdohdehgaaGreatDoorRegLen
namespace Go.Proofs.YtjoohpdohdehgaaGreatDoor
namespace Reg
open Go.RowKit
open Str (lenL runeL hexV)

theorem decl_len {st s : St} (h : declP st = .ok s) : s.rest.length < st.rest.length := by
  unfold declP at h
  cases hc : nameP st.rest with
  | error x => rw [hc] at h; cases h
  | ok r =>
    rw [hc] at h
    simp only at h
    have := name_len hc
    split at h
    · cases h
    · cases h; exact this
theorem mark_len {st : St} {r : Bool × St} (h : markP st = .ok r) : r.2.rest.length < st.rest.length := by
  unfold markP at h
  by_cases e0 : hd st.rest = -1
  · rw [if_pos e0] at h; cases h
  rw [if_neg e0] at h
  by_cases e1 : hd st.rest = 58
  · rw [if_pos e1] at h; cases h; exact tail_lt e1 (by decide)
  rw [if_neg e1] at h
  by_cases e2 : hd st.rest = 61 ∨ hd st.rest = 33
  · rw [if_pos e2] at h; cases h
    rcases e2 with e | e
    · exact tail_lt e (by decide)
    · exact tail_lt e (by decide)
  rw [if_neg e2] at h
  by_cases e3 : hd st.rest = 60
  · rw [if_pos e3] at h
    have h1 := tail_lt e3 (by decide)
    by_cases e4 : hd st.rest.tail = 61 ∨ hd st.rest.tail = 33
    · rw [if_pos e4] at h; cases h
      have := tail_len st.rest.tail
      show st.rest.tail.tail.length < _
      omega
    · rw [if_neg e4] at h
      cases hd2 : declP (st.at st.rest.tail) with
      | error x => rw [hd2] at h; cases h
      | ok s =>
        rw [hd2] at h; cases h
        have h2 := decl_len hd2
        have h3 : (st.at st.rest.tail).rest = st.rest.tail := rfl
        rw [h3] at h2
        show s.rest.length < _
        omega
  · rw [if_neg e3] at h; cases h
theorem escd_len {u : Bool} {st : St} {r : Bool × St} (hq : hd st.rest = 92) (h : escdP u st = .ok r) : r.2.rest.length < st.rest.length := by
  have h0 := tail_lt hq (by decide)
  have ht := tail_len st.rest.tail
  unfold escdP at h
  by_cases e1 : hd st.rest.tail = 98 ∨ hd st.rest.tail = 66
  · rw [if_pos e1] at h; cases h
    show st.rest.tail.tail.length < _
    omega
  rw [if_neg e1] at h
  by_cases e2 : hd st.rest.tail = 107
  · rw [if_pos e2] at h
    cases hx : expP 60 st.rest.tail.tail with
    | error x => rw [hx] at h; cases h
    | ok m =>
      rw [hx] at h
      simp only at h
      have h1 := exp_len (by decide) hx
      cases hn : nameP m with
      | error x => rw [hn] at h; cases h
      | ok q =>
        rw [hn] at h; cases h
        have h2 := name_len hn
        show q.2.length < _
        omega
  rw [if_neg e2] at h
  by_cases e3 : hd st.rest.tail ≠ 48 ∧ digB (hd st.rest.tail) = true
  · rw [if_pos e3] at h
    cases hn : numP st.rest.tail with
    | error x => rw [hn] at h; cases h
    | ok q =>
      rw [hn] at h; cases h
      have h2 := num_len hn
      show q.2.length < _
      omega
  · rw [if_neg e3] at h
    cases hn : escP u st.rest.tail with
    | error x => rw [hn] at h; cases h
    | ok q =>
      rw [hn] at h; cases h
      have h2 := esc_len hn
      show q.2.length < _
      omega

/-- A reader of patterns that never goes back. -/
def Down (pat : St → Except (Nat × Nat) St) : Prop := ∀ st s, pat st = .ok s → s.rest.length ≤ st.rest.length

theorem group_head {st : St} {r : Bool × St} (h : (if hd st.rest = 63 then markP (st.at st.rest.tail) else .ok (true, { st with groups := st.groups + 1 })) = Except.ok (ε := Nat × Nat) r) : r.2.rest.length ≤ st.rest.length := by
  by_cases e : hd st.rest = 63
  · rw [if_pos e] at h
    have h1 := mark_len h
    have h2 := tail_len st.rest
    have h3 : (st.at st.rest.tail).rest = st.rest.tail := rfl
    rw [h3] at h1; omega
  · rw [if_neg e] at h; cases h; exact Nat.le_refl _
theorem group_len {pat : St → Except (Nat × Nat) St} (hp : Down pat) {st : St} {r : Bool × St} (h : groupP pat st = .ok r) : r.2.rest.length < st.rest.length := by
  unfold groupP at h
  cases hm : (if hd st.rest = 63 then markP (st.at st.rest.tail) else .ok (true, { st with groups := st.groups + 1 })) with
  | error x => rw [hm] at h; cases h
  | ok q =>
    rw [hm] at h
    simp only at h
    have h1 := group_head hm
    cases hq : pat q.2 with
    | error x => rw [hq] at h; cases h
    | ok s =>
      rw [hq] at h
      simp only at h
      have h2 := hp _ _ hq
      cases he : expP 41 s.rest with
      | error x => rw [he] at h; cases h
      | ok m =>
        rw [he] at h; cases h
        have h3 := exp_len (by decide) he
        show m.length < _
        omega
theorem group_congr {pat pat' : St → Except (Nat × Nat) St} {st : St} (h : ∀ s : St, s.rest.length ≤ st.rest.length → pat s = pat' s) : groupP pat st = groupP pat' st := by
  unfold groupP
  cases hm : (if hd st.rest = 63 then markP (st.at st.rest.tail) else .ok (true, { st with groups := st.groups + 1 })) with
  | error x => rfl
  | ok q =>
    simp only
    rw [h q.2 (group_head hm)]
theorem piece_len {u : Bool} {pat : St → Except (Nat × Nat) St} (hp : Down pat) {st : St} {r : Bool × St} (h : pieceP u pat st = .ok r) : r.2.rest.length < st.rest.length := by
  unfold pieceP at h
  by_cases e1 : hd st.rest = 94 ∨ hd st.rest = 36
  · rw [if_pos e1] at h; cases h
    rcases e1 with e | e
    · exact tail_lt e (by decide)
    · exact tail_lt e (by decide)
  rw [if_neg e1] at h
  by_cases e2 : hd st.rest = 40
  · rw [if_pos e2] at h
    have h1 := group_len hp h
    have h2 := tail_lt e2 (by decide)
    have h3 : (st.at st.rest.tail).rest = st.rest.tail := rfl
    rw [h3] at h1; omega
  rw [if_neg e2] at h
  by_cases e3 : hd st.rest = 91
  · rw [if_pos e3] at h
    cases hc : classP u st.rest.tail with
    | error x => rw [hc] at h; cases h
    | ok m =>
      rw [hc] at h; cases h
      have h1 := class_len hc
      have h2 := tail_lt e3 (by decide)
      show m.length < _
      omega
  rw [if_neg e3] at h
  by_cases e4 : hd st.rest = 92
  · rw [if_pos e4] at h; exact escd_len e4 h
  rw [if_neg e4] at h
  by_cases e5 : hd st.rest = 42 ∨ hd st.rest = 43 ∨ hd st.rest = 63 ∨ hd st.rest = 93 ∨ hd st.rest = 123 ∨ hd st.rest = 125
  · rw [if_pos e5] at h; cases h
  · rw [if_neg e5] at h
    cases hc : chrP anyP st.rest with
    | error x => rw [hc] at h; cases h
    | ok q => rw [hc] at h; cases h; exact chr_len hc
theorem piece_congr {u : Bool} {pat pat' : St → Except (Nat × Nat) St} {st : St} (h : ∀ s : St, s.rest.length < st.rest.length → pat s = pat' s) : pieceP u pat st = pieceP u pat' st := by
  unfold pieceP
  by_cases e1 : hd st.rest = 94 ∨ hd st.rest = 36
  · rw [if_pos e1, if_pos e1]
  rw [if_neg e1, if_neg e1]
  by_cases e2 : hd st.rest = 40
  · rw [if_pos e2, if_pos e2]
    have h2 := tail_lt e2 (by decide)
    exact group_congr (fun s hs => h s (by have h3 : (st.at st.rest.tail).rest = st.rest.tail := rfl; rw [h3] at hs; omega))
  rw [if_neg e2, if_neg e2]
theorem term_len {u : Bool} {pat : St → Except (Nat × Nat) St} (hp : Down pat) {st s : St} (h : termP u pat st = .ok s) : s.rest.length < st.rest.length := by
  unfold termP at h
  cases hc : pieceP u pat st with
  | error x => rw [hc] at h; cases h
  | ok r =>
    rw [hc] at h
    simp only at h
    have h1 := piece_len hp hc
    by_cases e : r.1 = true
    · rw [if_pos e] at h
      cases hq : quanP r.2.rest with
      | error x => rw [hq] at h; cases h
      | ok m =>
        rw [hq] at h; cases h
        have h2 := quan_len hq
        show m.length < _
        omega
    · rw [if_neg e] at h; cases h; exact h1
theorem term_congr {u : Bool} {pat pat' : St → Except (Nat × Nat) St} {st : St} (h : ∀ s : St, s.rest.length < st.rest.length → pat s = pat' s) : termP u pat st = termP u pat' st := by
  unfold termP
  rw [piece_congr h]

theorem read_len {u : Bool} : ∀ (n : Nat) (b : Bool) (st s : St), readP u n b st = .ok s → s.rest.length ≤ st.rest.length
  | 0, _, _, _, h => by cases h
  | n + 1, true, st, s, h => by
    rw [readP] at h
    cases ha : readP u n false st with
    | error x => rw [ha] at h; cases h
    | ok s1 =>
      rw [ha] at h
      simp only at h
      have h1 := read_len n false st s1 ha
      by_cases e : hd s1.rest = 124
      · rw [if_pos e] at h
        have h2 := read_len n true _ s h
        have h3 := tail_lt e (by decide)
        have h4 : (s1.at s1.rest.tail).rest = s1.rest.tail := rfl
        rw [h4] at h2; omega
      · rw [if_neg e] at h; cases h; exact h1
  | n + 1, false, st, s, h => by
    rw [readP] at h
    by_cases e : hd st.rest = -1 ∨ hd st.rest = 124 ∨ hd st.rest = 41
    · rw [if_pos e] at h; cases h; exact Nat.le_refl _
    · rw [if_neg e] at h
      cases ht : termP u (readP u n true) st with
      | error x => rw [ht] at h; cases h
      | ok s1 =>
        rw [ht] at h
        have h1 := term_len (fun a b hab => read_len n true a b hab) ht
        have h2 := read_len n false s1 s h
        omega
theorem read_down (u : Bool) (n : Nat) (b : Bool) : Down (readP u n b) := fun st s h => read_len n b st s h

/-- Is the bound enough? -/
def needs (b : Bool) (l : Nat) : Nat := if b = true then 2 * l + 2 else 2 * l + 1
theorem read_fuel {u : Bool} : ∀ (n m : Nat) (b : Bool) (st : St), needs b st.rest.length ≤ n → needs b st.rest.length ≤ m → readP u n b st = readP u m b st
  | 0, _, b, st, h, _ => by cases b <;> simp [needs] at h
  | _ + 1, 0, b, st, _, h => by cases b <;> simp [needs] at h
  | n + 1, m + 1, true, st, h1, h2 => by
    simp only [needs, if_true] at h1 h2
    have e1 : readP u n false st = readP u m false st := read_fuel n m false st (by simp [needs]; omega) (by simp [needs]; omega)
    rw [readP, readP, e1]
    cases ha : readP u m false st with
    | error x => rfl
    | ok s1 =>
      simp only
      have hl := read_len m false st s1 ha
      by_cases e : hd s1.rest = 124
      · rw [if_pos e, if_pos e]
        have h3 := tail_lt e (by decide)
        have h4 : (s1.at s1.rest.tail).rest = s1.rest.tail := rfl
        exact read_fuel n m true _ (by rw [h4]; simp only [needs, if_true]; omega) (by rw [h4]; simp only [needs, if_true]; omega)
      · rw [if_neg e, if_neg e]
  | n + 1, m + 1, false, st, h1, h2 => by
    simp only [needs] at h1 h2
    rw [readP, readP]
    by_cases e : hd st.rest = -1 ∨ hd st.rest = 124 ∨ hd st.rest = 41
    · rw [if_pos e, if_pos e]
    · rw [if_neg e, if_neg e]
      have hc : termP u (readP u n true) st = termP u (readP u m true) st := term_congr (fun s hs => read_fuel n m true s (by simp only [needs, if_true]; simp at h1; omega) (by simp only [needs, if_true]; simp at h2; omega))
      rw [hc]
      cases ht : termP u (readP u m true) st with
      | error x => rfl
      | ok s1 =>
        have hl := term_len (read_down u m true) ht
        exact read_fuel n m false s1 (by simp [needs] at *; omega) (by simp [needs] at *; omega)

/-- A pattern, an alternative. -/
def patV (u : Bool) (st : St) : Except (Nat × Nat) St := readP u (2 * st.rest.length + 2) true st
def altV (u : Bool) (st : St) : Except (Nat × Nat) St := readP u (2 * st.rest.length + 1) false st
theorem pat_down (u : Bool) : Down (patV u) := fun st s h => read_len _ _ st s h
theorem alt_down (u : Bool) : Down (altV u) := fun st s h => read_len _ _ st s h
theorem pat_eq (u : Bool) (st : St) : patV u st = match altV u st with
    | .error e => .error e
    | .ok s => if hd s.rest = 124 then patV u (s.at s.rest.tail) else .ok s := by
  unfold patV
  rw [show 2 * st.rest.length + 2 = (2 * st.rest.length + 1) + 1 from rfl, readP]
  show (match altV u st with
    | .error e => Except.error e
    | .ok s => if hd s.rest = 124 then readP u (2 * st.rest.length + 1) true (s.at s.rest.tail) else .ok s : Except (Nat × Nat) St) = _
  cases ha : altV u st with
  | error x => rfl
  | ok s =>
    simp only
    have hl := alt_down u st s ha
    by_cases e : hd s.rest = 124
    · rw [if_pos e, if_pos e]
      have h3 := tail_lt e (by decide)
      have h4 : (s.at s.rest.tail).rest = s.rest.tail := rfl
      exact read_fuel _ _ true _ (by rw [h4]; simp only [needs, if_true]; omega) (by simp only [needs, if_true]; omega)
    · rw [if_neg e, if_neg e]
theorem alt_eq (u : Bool) (st : St) : altV u st = (if hd st.rest = -1 ∨ hd st.rest = 124 ∨ hd st.rest = 41 then Except.ok st else match termP u (patV u) st with
    | .error e => Except.error e
    | .ok s => altV u s : Except (Nat × Nat) St) := by
  unfold altV
  rw [readP]
  by_cases e : hd st.rest = -1 ∨ hd st.rest = 124 ∨ hd st.rest = 41
  · rw [if_pos e, if_pos e]
  · rw [if_neg e, if_neg e]
    have hc : termP u (readP u (2 * st.rest.length) true) st = termP u (patV u) st := term_congr (fun s hs => read_fuel _ _ true s (by simp only [needs, if_true]; omega) (by simp only [needs, if_true]; omega))
    rw [hc]
    cases ht : termP u (patV u) st with
    | error x => rfl
    | ok s1 =>
      have hl := term_len (pat_down u) ht
      exact read_fuel _ _ false s1 (by simp [needs]; omega) (by simp [needs])

end Reg
end Go.Proofs.YtjoohpdohdehgaaGreatDoor
