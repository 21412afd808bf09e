/-
  Patterns without numbers and names: read in a longer text as they are read alone.
-/
import Derived.Test.YtjoohpdohdehgaaGreatDoorRegLoc
namespace Go.Proofs.YtjoohpdohdehgaaGreatDoor
namespace Reg
open Str (lenL runeL hexV)

/-- Has a text no numbers and no names? -/
def oddB (x y : UInt8) : Bool := (x == 92 && (decide (49 ≤ y.toNat ∧ y.toNat ≤ 57) || y == 107)) || (x == 63 && y == 60)
def plainL : List UInt8 → Bool
  | x :: y :: l => !oddB x y && plainL (y :: l)
  | _ => true
theorem plain_tail : ∀ l : List UInt8, plainL l = true → plainL l.tail = true
  | [], _ => rfl
  | [_], _ => rfl
  | x :: y :: l, h => by
    rw [plainL, Bool.and_eq_true] at h
    exact h.2
theorem plain_drop : ∀ (k : Nat) (l : List UInt8), plainL l = true → plainL (l.drop k) = true
  | 0, l, h => by simpa using h
  | k + 1, l, h => by
    rw [← List.drop_tail]
    exact plain_drop k _ (plain_tail l h)
theorem plain_suf {l m : List UInt8} (h : plainL l = true) (hm : m <:+ l) : plainL m = true := by
  rw [List.suffix_iff_eq_drop] at hm
  rw [hm]; exact plain_drop _ _ h
theorem plain_two {l : List UInt8} (h : plainL l = true) : ∀ x y t, l = x :: y :: t → oddB x y = false := by
  rintro x y t rfl
  rw [plainL, Bool.and_eq_true] at h
  simpa using h.1
theorem plain_esc {l : List UInt8} (h : plainL l = true) (hq : hd l = 92) : hd l.tail ≠ 107 ∧ ¬ (hd l.tail ≠ 48 ∧ digB (hd l.tail) = true) := by
  match l, hq with
  | [_], _ => exact ⟨show (-1 : Int) ≠ 107 by decide, fun h => absurd (show digB (-1) = true from h.2) (by decide)⟩
  | x :: y :: t, hq =>
    have h1 := plain_two h x y t rfl
    have hx : x = 92 := by
      have : (x.toNat : Int) = 92 := hq
      exact UInt8.toNat_inj.1 (by show x.toNat = 92; omega)
    subst hx
    constructor
    · intro e
      have hy : y = 107 := by
        have : (y.toNat : Int) = 107 := e
        exact UInt8.toNat_inj.1 (by show y.toNat = 107; omega)
      subst hy
      exact absurd h1 (by decide)
    · rintro ⟨e1, e2⟩
      have hy : 49 ≤ y.toNat ∧ y.toNat ≤ 57 := by
        have e1' : ¬ (y.toNat : Int) = 48 := e1
        have e2' : 48 ≤ (y.toNat : Int) ∧ (y.toNat : Int) ≤ 57 := of_decide_eq_true e2
        omega
      unfold oddB at h1
      rw [decide_eq_true hy] at h1
      simp at h1
theorem plain_mark {l : List UInt8} (h : plainL l = true) (hq : hd l = 63) : hd l.tail ≠ 60 := by
  match l, hq with
  | [_], _ => exact (show (-1 : Int) ≠ 60 by decide)
  | x :: y :: t, hq =>
    have h1 := plain_two h x y t rfl
    have hx : x = 63 := by
      have : (x.toNat : Int) = 63 := hq
      exact UInt8.toNat_inj.1 (by show x.toNat = 63; omega)
    subst hx
    intro e
    have hy : y = 60 := by
      have : (y.toNat : Int) = 60 := e
      exact UInt8.toNat_inj.1 (by show y.toNat = 60; omega)
    subst hy
    exact absurd h1 (by decide)

/-- Likewise for what is read with a state. -/
def LocS (T : List UInt8) (st st' : St) (x y : Res Bool) : Prop := match x with
  | .error e => e.2 ≠ 0
  | .ok r => r.2.rest <:+ st.rest ∧ r.2.refs = st.refs ∧ ∃ s' : St, y = .ok (r.1, s') ∧ s'.rest = r.2.rest ++ T ∧ s'.names = st'.names ∧ s'.refs = st'.refs
def LocT (T : List UInt8) (c : List UInt8 → Prop) (st st' : St) (x y : Except (Nat × Nat) St) : Prop := match x with
  | .error e => e.2 ≠ 0
  | .ok s => s.rest <:+ st.rest ∧ s.refs = st.refs ∧ (c s.rest → ∃ s' : St, y = .ok s' ∧ s'.rest = s.rest ++ T ∧ s'.names = st'.names ∧ s'.refs = st'.refs)

theorem LocS.mk {T : List UInt8} {st st' : St} (b : Bool) {m : List UInt8} (hm : m <:+ st.rest) {s' : St} (hr : s'.rest = m ++ T) (hn : s'.names = st'.names) (hf : s'.refs = st'.refs) : LocS T st st' (.ok (b, st.at m)) (.ok (b, s')) :=
  ⟨hm, rfl, s', rfl, hr, hn, hf⟩
theorem escd_loc {T : List UInt8} (hT : Stop T) (u : Bool) {st st' : St} (hp : plainL st.rest = true) (hq : hd st.rest = 92) (hr : st'.rest = st.rest ++ T) : LocS T st st' (escdP u st) (escdP u st') := by
  have hne := ne_of_hd hq (by decide)
  have ht : st'.rest.tail = st.rest.tail ++ T := by rw [hr, tail_ne hne]
  have hpl := plain_esc hp hq
  unfold escdP
  rw [ht]
  by_cases c1 : hd st.rest.tail = 98 ∨ hd st.rest.tail = 66
  · have hn2 : st.rest.tail ≠ [] := by rcases c1 with h | h <;> exact ne_of_hd h (by decide)
    rw [if_pos c1, hd_ne hn2, if_pos c1]
    exact LocS.mk _ ((tail_suf _).trans (tail_suf _)) (by show (st.rest.tail ++ T).tail = _; rw [tail_ne hn2]) rfl rfl
  rw [if_neg c1, if_neg (fun h => c1 ((hd_q hT st.rest.tail (fun x => x = 98 ∨ x = 66) (by decide) (by decide) (by decide)).1 h))]
  rw [if_neg hpl.1, if_neg (fun h => hpl.1 ((hd_is hT 107 (by decide) _).1 h)), if_neg hpl.2,
    if_neg (fun h => hpl.2 ((hd_q hT st.rest.tail (fun x => x ≠ 48 ∧ digB x = true) (by decide) (by decide) (by decide)).1 h))]
  have h1 := esc_loc hT u st.rest.tail
  cases hx : escP u st.rest.tail with
  | error x => rw [hx] at h1; exact h1
  | ok r =>
    rw [hx] at h1
    rw [h1.2]
    exact LocS.mk _ (h1.1.trans (tail_suf _)) rfl rfl rfl

theorem mark_loc {T : List UInt8} {st st' : St} (hn : hd st.rest ≠ 60) (hr : st'.rest = st.rest ++ T) : LocS T st st' (markP st) (markP st') := by
  by_cases e : st.rest = []
  · have : markP st = wrong st.rest := by unfold markP; rw [if_pos (by rw [e]; rfl)]
    rw [this]; exact (by decide : (400 : Nat) ≠ 0)
  unfold markP
  rw [hr, hd_ne e, tail_ne e]
  by_cases c0 : hd st.rest = -1
  · rw [if_pos c0]; exact (by decide : (400 : Nat) ≠ 0)
  rw [if_neg c0, if_neg c0]
  by_cases c1 : hd st.rest = 58
  · rw [if_pos c1, if_pos c1]; exact LocS.mk _ (tail_suf _) rfl rfl rfl
  rw [if_neg c1, if_neg c1]
  by_cases c2 : hd st.rest = 61 ∨ hd st.rest = 33
  · rw [if_pos c2, if_pos c2]; exact LocS.mk _ (tail_suf _) rfl rfl rfl
  rw [if_neg c2, if_neg c2, if_neg hn]; exact (by decide : (400 : Nat) ≠ 0)

/-- A reader of patterns that reads alike, whether T stands behind or not. -/
def Alike (T : List UInt8) (pat pat' : St → Except (Nat × Nat) St) : Prop := ∀ s s' : St, plainL s.rest = true → s'.rest = s.rest ++ T → LocT T (fun r => r ≠ [] ∨ hd T ≠ 124) s s' (pat s) (pat' s')
theorem group_loc {T : List UInt8} (hT : Stop T) {pat pat' : St → Except (Nat × Nat) St} (hpat : Alike T pat pat') {st st' : St} (hp : plainL st.rest = true) (hr : st'.rest = st.rest ++ T) : LocS T st st' (groupP pat st) (groupP pat' st') := by
  have hh : LocS T st st' (if hd st.rest = 63 then markP (st.at st.rest.tail) else .ok (true, { st with groups := st.groups + 1 })) (if hd st'.rest = 63 then markP (st'.at st'.rest.tail) else .ok (true, { st' with groups := st'.groups + 1 })) := by
    rw [hr]
    by_cases c : hd st.rest = 63
    · have hne := ne_of_hd c (by decide)
      rw [if_pos c, hd_ne hne, if_pos c, tail_ne hne]
      have h1 := mark_loc (T := T) (st := st.at st.rest.tail) (st' := st'.at (st.rest.tail ++ T)) (plain_mark hp c) rfl
      cases hx : markP (st.at st.rest.tail) with
      | error x => rw [hx] at h1; exact h1
      | ok r =>
        rw [hx] at h1
        obtain ⟨h2, h3, s', h4, h5, h6, h7⟩ := h1
        exact ⟨h2.trans (tail_suf _), h3, s', h4, h5, h6, h7⟩
    · rw [if_neg c, if_neg (fun h => c ((hd_is hT 63 (by decide) _).1 h))]
      exact ⟨List.suffix_refl _, rfl, _, rfl, by first | exact hr | rfl, rfl, rfl⟩
  unfold groupP
  cases hx : (if hd st.rest = 63 then markP (st.at st.rest.tail) else .ok (true, { st with groups := st.groups + 1 })) with
  | error x => rw [hx] at hh; exact hh
  | ok r =>
    rw [hx] at hh
    obtain ⟨h2, h3, s', h4, h5, h6, h7⟩ := hh
    rw [h4]
    simp only
    have h8 := hpat r.2 s' (plain_suf hp h2) h5
    cases hy : pat r.2 with
    | error x => rw [hy] at h8; exact h8
    | ok s =>
      rw [hy] at h8
      obtain ⟨k1, k2, k3⟩ := h8
      simp only
      have h9 := exp_loc T (c := 41) (by decide) s.rest
      cases hz : expP 41 s.rest with
      | error x => rw [hz] at h9; exact h9
      | ok m =>
        rw [hz] at h9
        obtain ⟨s2, j1, j2, j3, j4⟩ := k3 (.inl (exp_ne (by decide) hz))
        rw [j1]
        simp only
        rw [j2, h9.2]
        exact ⟨h9.1.trans (k1.trans h2), k2.trans h3, _, rfl, rfl, j3.trans h6, j4.trans h7⟩
theorem piece_loc {T : List UInt8} (hT : Stop T) (u : Bool) {pat pat' : St → Except (Nat × Nat) St} (hpat : Alike T pat pat') {st st' : St} (hp : plainL st.rest = true) (hr : st'.rest = st.rest ++ T) : LocS T st st' (pieceP u pat st) (pieceP u pat' st') := by
  have e4 : (400 : Nat) ≠ 0 := by decide
  unfold pieceP
  rw [hr]
  by_cases c1 : hd st.rest = 94 ∨ hd st.rest = 36
  · have hne : st.rest ≠ [] := by rcases c1 with h | h <;> exact ne_of_hd h (by decide)
    rw [if_pos c1, hd_ne hne, if_pos c1, tail_ne hne]
    exact LocS.mk _ (tail_suf _) rfl rfl rfl
  rw [if_neg c1, if_neg (fun h => c1 ((hd_q hT st.rest (fun x => x = 94 ∨ x = 36) (by decide) (by decide) (by decide)).1 h))]
  by_cases c2 : hd st.rest = 40
  · have hne := ne_of_hd c2 (by decide)
    rw [if_pos c2, hd_ne hne, if_pos c2, tail_ne hne]
    have h1 := group_loc hT hpat (st := st.at st.rest.tail) (st' := st'.at (st.rest.tail ++ T)) (plain_suf hp (tail_suf _)) rfl
    cases hx : groupP pat (st.at st.rest.tail) with
    | error x => rw [hx] at h1; exact h1
    | ok r =>
      rw [hx] at h1
      obtain ⟨h2, h3, s', h4, h5, h6, h7⟩ := h1
      exact ⟨h2.trans (tail_suf _), h3, s', h4, h5, h6, h7⟩
  rw [if_neg c2, if_neg (fun h => c2 ((hd_is hT 40 (by decide) _).1 h))]
  by_cases c3 : hd st.rest = 91
  · have hne := ne_of_hd c3 (by decide)
    rw [if_pos c3, hd_ne hne, if_pos c3, tail_ne hne]
    have h1 := class_loc hT u st.rest.tail
    cases hx : classP u st.rest.tail with
    | error x => rw [hx] at h1; exact h1
    | ok m =>
      rw [hx] at h1
      rw [h1.2]
      exact LocS.mk _ (h1.1.trans (tail_suf _)) rfl rfl rfl
  rw [if_neg c3, if_neg (fun h => c3 ((hd_is hT 91 (by decide) _).1 h))]
  by_cases c4 : hd st.rest = 92
  · have hne := ne_of_hd c4 (by decide)
    rw [if_pos c4, hd_ne hne, if_pos c4]
    exact escd_loc hT u hp c4 hr
  rw [if_neg c4, if_neg (fun h => c4 ((hd_is hT 92 (by decide) _).1 h))]
  by_cases c5 : hd st.rest = 42 ∨ hd st.rest = 43 ∨ hd st.rest = 63 ∨ hd st.rest = 93 ∨ hd st.rest = 123 ∨ hd st.rest = 125
  · rw [if_pos c5]; exact e4
  rw [if_neg c5, if_neg (fun h => c5 ((hd_q hT st.rest (fun x => x = 42 ∨ x = 43 ∨ x = 63 ∨ x = 93 ∨ x = 123 ∨ x = 125) (by decide) (by decide) (by decide)).1 h))]
  have h1 := chr_loc T anyP st.rest
  cases hx : chrP anyP st.rest with
  | error x => rw [hx] at h1; exact h1
  | ok r =>
    rw [hx] at h1
    rw [h1.2]
    exact LocS.mk _ h1.1 rfl rfl rfl
theorem term_loc {T : List UInt8} (hT : Stop T) (u : Bool) {pat pat' : St → Except (Nat × Nat) St} (hpat : Alike T pat pat') {st st' : St} (hp : plainL st.rest = true) (hr : st'.rest = st.rest ++ T) : LocT T (fun _ => True) st st' (termP u pat st) (termP u pat' st') := by
  unfold termP
  have h1 := piece_loc hT u hpat hp hr
  cases hx : pieceP u pat st with
  | error x => rw [hx] at h1; exact h1
  | ok r =>
    rw [hx] at h1
    obtain ⟨h2, h3, s', h4, h5, h6, h7⟩ := h1
    rw [h4]
    simp only
    by_cases c : r.1 = true
    · rw [if_pos c, if_pos c]
      have h8 := quan_loc hT r.2.rest
      cases hy : quanP r.2.rest with
      | error x => rw [hy] at h8; exact h8
      | ok m =>
        rw [hy] at h8
        rw [h5, h8.2]
        exact ⟨h8.1.trans h2, h3, fun _ => ⟨_, rfl, rfl, h6, h7⟩⟩
    · rw [if_neg c, if_neg c]
      exact ⟨h2, h3, fun _ => ⟨s', rfl, h5, h6, h7⟩⟩

/-- What an alternative or a pattern asks of what is left. -/
def Asks (T : List UInt8) (b : Bool) (r : List UInt8) : Prop := b = false ∨ r ≠ [] ∨ hd T ≠ 124
theorem read_loc {T : List UInt8} (hT : Stop T) (u : Bool) : ∀ (n n' : Nat) (b : Bool) (st st' : St), n ≤ n' → plainL st.rest = true → st'.rest = st.rest ++ T → LocT T (Asks T b) st st' (readP u n b st) (readP u n' b st')
  | 0, _, _, _, _, _, _, _ => (by decide : (999 : Nat) ≠ 0)
  | n + 1, n', true, st, st', hn, hp, hr => by
    obtain ⟨k, rfl⟩ : ∃ k, n' = k + 1 := ⟨n' - 1, by omega⟩
    rw [readP, readP]
    have h1 := read_loc hT u n k false st st' (by omega) hp hr
    cases hx : readP u n false st with
    | error x => rw [hx] at h1; exact h1
    | ok s =>
      rw [hx] at h1
      obtain ⟨h2, h3, h4⟩ := h1
      obtain ⟨s', h5, h6, h7, h8⟩ := h4 (.inl rfl)
      rw [h5]
      simp only
      rw [h6]
      by_cases c : hd s.rest = 124
      · have hne := ne_of_hd c (by decide)
        rw [if_pos c, hd_ne hne, if_pos c, tail_ne hne]
        have h9 := read_loc hT u n k true (s.at s.rest.tail) (s'.at (s.rest.tail ++ T)) (by omega) (plain_suf hp ((tail_suf _).trans h2)) rfl
        cases hy : readP u n true (s.at s.rest.tail) with
        | error x => rw [hy] at h9; exact h9
        | ok s2 =>
          rw [hy] at h9
          obtain ⟨j1, j2, j3⟩ := h9
          refine ⟨j1.trans ((tail_suf _).trans h2), j2.trans h3, fun ha => ?_⟩
          obtain ⟨s3, i1, i2, i3, i4⟩ := j3 ha
          exact ⟨s3, i1, i2, i3.trans h7, i4.trans h8⟩
      · rw [if_neg c]
        refine ⟨h2, h3, fun ha => ?_⟩
        have c' : ¬ hd (s.rest ++ T) = 124 := by
          rcases ha with h | h | h
          · cases h
          · rw [hd_ne h]; exact c
          · by_cases e : s.rest = []
            · rw [e]; exact h
            · rw [hd_ne e]; exact c
        rw [if_neg c']
        exact ⟨s', rfl, h6, h7, h8⟩
  | n + 1, n', false, st, st', hn, hp, hr => by
    obtain ⟨k, rfl⟩ : ∃ k, n' = k + 1 := ⟨n' - 1, by omega⟩
    rw [readP, readP]
    by_cases c : hd st.rest = -1 ∨ hd st.rest = 124 ∨ hd st.rest = 41
    · have c' : hd st'.rest = -1 ∨ hd st'.rest = 124 ∨ hd st'.rest = 41 := by
        rw [hr]
        by_cases e : st.rest = []
        · rw [e, List.nil_append]
          rcases hT with h | h | h
          · exact .inl h
          · exact .inr (.inr h)
          · exact .inr (.inl h)
        · rw [hd_ne e]; exact c
      rw [if_pos c, if_pos c']
      exact ⟨List.suffix_refl _, rfl, fun _ => ⟨st', rfl, hr, rfl, rfl⟩⟩
    · have hne : st.rest ≠ [] := by intro e; rw [e] at c; exact c (.inl rfl)
      have c' : ¬ (hd st'.rest = -1 ∨ hd st'.rest = 124 ∨ hd st'.rest = 41) := by rw [hr, hd_ne hne]; exact c
      rw [if_neg c, if_neg c']
      have hpat : Alike T (readP u n true) (readP u k true) := by
        intro s s' h1 h2
        have h3 := read_loc hT u n k true s s' (by omega) h1 h2
        cases hx : readP u n true s with
        | error x => rw [hx] at h3; exact h3
        | ok s1 =>
          rw [hx] at h3
          exact ⟨h3.1, h3.2.1, fun ha => h3.2.2 (.inr ha)⟩
      have h1 := term_loc hT u hpat hp hr
      cases hx : termP u (readP u n true) st with
      | error x => rw [hx] at h1; exact h1
      | ok s =>
        rw [hx] at h1
        obtain ⟨h2, h3, h4⟩ := h1
        obtain ⟨s', h5, h6, h7, h8⟩ := h4 trivial
        rw [h5]
        simp only
        have h9 := read_loc hT u n k false s s' (by omega) (plain_suf hp h2) h6
        cases hy : readP u n false s with
        | error x => rw [hy] at h9; exact h9
        | ok s2 =>
          rw [hy] at h9
          obtain ⟨j1, j2, j3⟩ := h9
          refine ⟨j1.trans h2, j2.trans h3, fun ha => ?_⟩
          obtain ⟨s3, i1, i2, i3, i4⟩ := j3 ha
          exact ⟨s3, i1, i2, i3.trans h7, i4.trans h8⟩

end Reg
end Go.Proofs.YtjoohpdohdehgaaGreatDoor
