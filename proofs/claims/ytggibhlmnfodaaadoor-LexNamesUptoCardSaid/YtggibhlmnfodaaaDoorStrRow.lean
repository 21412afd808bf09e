/-
  Parts in a row: what a literal's bytes are, there and back; what each part's bytes look like: no program is named here.
-/
import Derived.Test.YtggibhlmnfodaaaDoorStrScan
namespace Go.Proofs.YtggibhlmnfodaaaDoor
namespace Str
open Go.RowKit

def bytesP (ps : List Piece) : List UInt8 := ps.flatMap (·.1)
theorem bytesP_cons (p : Piece) (ps : List Piece) : bytesP (p :: ps) = p.1 ++ bytesP ps := rfl
theorem bytesP_app (ps qs : List Piece) : bytesP (ps ++ qs) = bytesP ps ++ bytesP qs := by simp [bytesP]

/-- Parts that stand in a row, with m behind them. -/
def Row : List Piece → List UInt8 → Prop
  | [], _ => True
  | p :: ps, m => partL p.1 = (p.1.length, some p.2) ∧ follows p.1 (bytesP ps ++ m) ∧ Row ps m
/-- None of them begins with q. -/
def Free (q : UInt8) (ps : List Piece) : Prop := ∀ p ∈ ps, ¬ p.1.head? = some q

theorem part_follows (p m : List UInt8) (v : Int) (h : partL (p ++ m) = (p.length, some v)) : follows p m := by
  refine ⟨fun e => ?_, fun e => ?_⟩
  · subst e
    cases hd : digHead m with
    | false => rfl
    | true =>
      have : partL ([92, 48] ++ m) = (2, none) := by
        show (((escL (48 :: m)).1 + 1, (escL (48 :: m)).2) : Nat × Option Int) = _
        have : escL (48 :: m) = (1, if digHead m = true then none else some 0) := rfl
        rw [this, hd]; rfl
      rw [this] at h; cases h
  · subst e
    intro hd
    have : partL ([92, 13] ++ m) = (3, some (-1)) := by
      show (((escL (13 :: m)).1 + 1, (escL (13 :: m)).2) : Nat × Option Int) = _
      have : escL (13 :: m) = (if m.head? = some 10 then 2 else 1, some (-1)) := rfl
      rw [this, if_pos hd]
    rw [this] at h; cases h
theorem part_self (p m : List UInt8) (v : Int) (h : partL (p ++ m) = (p.length, some v)) : partL p = (p.length, some v) := by
  have := part_keep p m [] v h ⟨fun _ => rfl, fun _ => by simp⟩
  rwa [List.append_nil] at this

/-- WHAT IS READ STANDS THERE. -/
theorem scan_row (q : UInt8) : ∀ n l, l.length ≤ n → ∀ ps, (scanL q l).2 = some ps →
    ∃ rest, l = bytesP ps ++ q :: rest ∧ (scanL q l).1 = (bytesP ps).length ∧ Row ps (q :: rest) ∧ Free q ps := by
  intro n
  induction n with
  | zero =>
    intro l hl ps h
    obtain rfl := List.eq_nil_of_length_eq_zero (by omega : l.length = 0)
    rw [scan_bad q [] (by simp) rfl] at h; cases h
  | succ n ih =>
    intro l hl ps h
    by_cases hq : l.head? = some q
    · rw [scan_close q l hq] at h ⊢
      injection h with h
      subst h
      cases l with
      | nil => cases hq
      | cons x l =>
        simp only [List.head?_cons, Option.some.injEq] at hq
        subst hq
        exact ⟨l, rfl, rfl, trivial, fun p hp => by cases hp⟩
    cases hp : (partL l).2 with
    | none => rw [scan_bad q l hq hp] at h; cases h
    | some v =>
      have hpp := part_pos l v hp
      rw [scan_step q l v hq hp] at h ⊢
      cases hs : (scanL q (l.drop (partL l).1)).2 with
      | none => rw [hs] at h; cases h
      | some ps' =>
        rw [hs] at h
        injection h with h
        subst h
        obtain ⟨rest, h1, h2, h3, h4⟩ := ih (l.drop (partL l).1) (by rw [List.length_drop]; omega) ps' hs
        have hlen : (l.take (partL l).1).length = (partL l).1 := by rw [List.length_take]; omega
        have hl2 : l = l.take (partL l).1 ++ l.drop (partL l).1 := (List.take_append_drop _ _).symm
        have hpart : partL (l.take (partL l).1 ++ l.drop (partL l).1) = ((l.take (partL l).1).length, some v) := by
          rw [List.take_append_drop, hlen, ← hp]
        refine ⟨rest, ?_, ?_, ⟨part_self _ _ v hpart, ?_, h3⟩, ?_⟩
        · rw [bytesP_cons, List.append_assoc, ← h1]; exact hl2
        · show _ + _ = _
          rw [h2, bytesP_cons, List.length_append, hlen]
        · rw [← h1]; exact part_follows _ _ v hpart
        · intro p hp'
          rcases List.mem_cons.1 hp' with e | e
          · subst e
            show ¬ (l.take (partL l).1).head? = some q
            rw [List.head?_take, if_neg (by omega)]
            exact hq
          · exact h4 p e

/-- WHAT STANDS THERE IS READ. -/
theorem row_scan (q : UInt8) (rest : List UInt8) : ∀ ps, Row ps (q :: rest) → Free q ps → scanL q (bytesP ps ++ q :: rest) = ((bytesP ps).length, some ps)
  | [], _, _ => by rw [scan_close q _ (by simp [bytesP])]; rfl
  | p :: ps, h, hf => by
    obtain ⟨h1, h2, h3⟩ := h
    have hpos := part_pos p.1 p.2 (by rw [h1])
    rw [h1] at hpos
    have hpart : partL (p.1 ++ (bytesP ps ++ q :: rest)) = (p.1.length, some p.2) := part_keep p.1 [] _ p.2 (by rw [List.append_nil]; exact h1) h2
    have hhead : ¬ (p.1 ++ (bytesP ps ++ q :: rest)).head? = some q := by
      have := hf p (List.mem_cons_self ..)
      cases hp : p.1 with
      | nil => rw [hp] at hpos; simp at hpos
      | cons x t => rw [hp] at this; simpa using this
    have ih := row_scan q rest ps h3 (fun p' hp' => hf p' (List.mem_cons_of_mem _ hp'))
    rw [bytesP_cons, List.append_assoc, scan_step q _ p.2 hhead (by rw [hpart]), hpart]
    simp only [List.drop_left, List.take_left, ih, List.length_append, Option.map_some]

theorem lit_of (q : UInt8) (hq : q = 39 ∨ q = 34) (ps : List Piece) (h : Row ps [q]) (hf : Free q ps) : litL (q :: (bytesP ps ++ [q])) = (0, some ps) := by
  have := row_scan q [] ps h hf
  rw [litL, if_pos hq, this]
  simp
theorem lit_inv (s : List UInt8) (ps : List Piece) (h : (litL s).2 = some ps) : litL s = (0, some ps) ∧ ∃ q : UInt8, (q = 39 ∨ q = 34) ∧ s = q :: (bytesP ps ++ [q]) ∧ Row ps [q] ∧ Free q ps := by
  match s with
  | [] => cases h
  | q :: l =>
    rw [litL] at h ⊢
    by_cases hq : q = 39 ∨ q = 34
    · rw [if_pos hq] at h ⊢
      cases hs : (scanL q l).2 with
      | none => rw [hs] at h; cases h
      | some ps' =>
        rw [hs] at h
        obtain ⟨rest, h1, h2, h3, h4⟩ := scan_row q l.length l (Nat.le_refl _) ps' hs
        by_cases hlt : (scanL q l).1 + 1 < l.length
        · simp only [if_pos hlt] at h; cases h
        · simp only [if_neg hlt] at h ⊢
          injection h with h
          subst h
          have hr : rest = [] := by
            have : l.length = (bytesP ps').length + (rest.length + 1) := by
              conv => lhs; rw [h1]
              simp
            exact List.eq_nil_of_length_eq_zero (by omega)
          subst hr
          exact ⟨rfl, q, hq, by rw [← h1], h3, h4⟩
    · rw [if_neg hq] at h; cases h

theorem follows_nil (p : List UInt8) : follows p [] := ⟨fun _ => rfl, fun _ => by simp⟩
theorem follows_cut (p a m : List UInt8) (h : follows p (a ++ m)) : follows p (a ++ []) := by
  cases a with
  | nil => exact follows_nil p
  | cons x a => exact h
theorem row_nil : ∀ ps m, Row ps m → Row ps []
  | [], _, _ => trivial
  | _ :: ps, m, ⟨h1, h2, h3⟩ => ⟨h1, follows_cut _ _ m h2, row_nil ps m h3⟩
/-- The part that stands first is read first. -/
theorem row_part (p : Piece) (ps : List Piece) (h : Row (p :: ps) []) : partL (bytesP (p :: ps)) = (p.1.length, some p.2) ∧ (bytesP (p :: ps)).drop p.1.length = bytesP ps := by
  obtain ⟨h1, h2, h3⟩ := h
  have := part_keep p.1 [] (bytesP ps) p.2 (by rw [List.append_nil]; exact h1) (by rw [← List.append_nil (bytesP ps)]; exact h2)
  exact ⟨this, by rw [bytesP_cons]; simp⟩

/-- No quote and no backslash. -/
def Plain (t : List UInt8) : Prop := ∀ x ∈ t, x ≠ 34 ∧ x ≠ 39 ∧ x ≠ 92
/-- What a part's bytes look like. -/
inductive Shape : List UInt8 → Int → Prop
  | one (x : UInt8) (h : x ≠ 92) (h2 : x.toNat < 128) : Shape [x] x.toNat
  | wide (x : UInt8) (t : List UInt8) (v : Int) (h : 128 ≤ x.toNat) (ht : ∀ y ∈ t, 128 ≤ y.toNat) : Shape (x :: t) v
  | esc (y : UInt8) (t : List UInt8) (v : Int) (ht : Plain t) (hy : t ≠ [] → y ≠ 34 ∧ y ≠ 39 ∧ y ≠ 92) (hv : (y = 34 → v = 34) ∧ (y = 39 → v = 39)) : Shape (92 :: y :: t) v

theorem plain_of_hex (x : UInt8) (h : 0 ≤ hexV x.toNat) : x ≠ 34 ∧ x ≠ 39 ∧ x ≠ 92 := by
  refine ⟨?_, ?_, ?_⟩ <;> (rintro rfl; exact absurd h (by decide))
theorem plain_of_wide (x : UInt8) (h : 128 ≤ x.toNat) : x ≠ 34 ∧ x ≠ 39 ∧ x ≠ 92 := by
  refine ⟨?_, ?_, ?_⟩ <;> (rintro rfl; exact absurd h (by decide))
theorem run_plain : ∀ n v (p : List UInt8), (runL n v p).1 = p.length → (runL n v p).2.isSome = true → Plain p
  | 0, v, p, h, _ => by
    obtain rfl : p = [] := List.eq_nil_of_length_eq_zero h.symm
    intro x hx; cases hx
  | n + 1, v, [], _, h2 => by simp [runL] at h2
  | n + 1, v, x :: p, h, h2 => by
    rw [runL] at h h2
    by_cases e : hexV x.toNat < 0
    · rw [if_pos e] at h2; simp at h2
    · rw [if_neg e] at h h2
      have := run_plain n _ p (by simpa using h) h2
      intro y hy
      rcases List.mem_cons.1 hy with e' | e'
      · subst e'; exact plain_of_hex _ (by omega)
      · exact this y e'
theorem bra_plain : ∀ f v (p : List UInt8), (braL f v p).1 = p.length → (braL f v p).2.isSome = true → Plain p
  | f, v, [], _, h2 => by simp [braL] at h2
  | f, v, x :: p, h, h2 => by
    rw [braL] at h h2
    by_cases e : 0 ≤ hexV x.toNat
    · rw [if_pos e] at h h2
      have := bra_plain false _ p (by simpa using h) h2
      intro y hy
      rcases List.mem_cons.1 hy with e' | e'
      · subst e'; exact plain_of_hex _ e
      · exact this y e'
    · rw [if_neg e] at h h2
      by_cases e2 : x = 125 ∧ f = false ∧ v ≤ 1114111
      · rw [if_pos e2] at h
        obtain rfl : p = [] := List.eq_nil_of_length_eq_zero (by have h' : 1 = p.length + 1 := h
                                                                 omega)
        intro y hy
        rcases List.mem_cons.1 hy with e' | e'
        · subst e'; rw [e2.1]; decide
        · cases e'
      · rw [if_neg e2] at h2; simp at h2
theorem plain_nil : Plain [] := fun x hx => by cases hx
theorem plain_cons {x : UInt8} {t : List UInt8} (h : x ≠ 34 ∧ x ≠ 39 ∧ x ≠ 92) (ht : Plain t) : Plain (x :: t) := by
  intro y hy
  rcases List.mem_cons.1 hy with e | e
  · subst e; exact h
  · exact ht y e

theorem chr_shape (x : UInt8) (t : List UInt8) (h : lenL (x :: t) = t.length + 1) : (t = [] ∧ x.toNat < 128 ∧ runeL (x :: t) = x.toNat) ∨ (128 ≤ x.toNat ∧ 128 ≤ runeL (x :: t) ∧ ∀ y ∈ t, 128 ≤ y.toNat) := by
  rcases lenL_cons x t with ⟨h1, _⟩ | ⟨h1, h2, h3⟩ | ⟨h1, h2, h3, h4⟩
  · omega
  · exact Or.inl ⟨List.eq_nil_of_length_eq_zero (by omega), h2, h3⟩
  · refine Or.inr ⟨h2, h3, fun y hy => h4 y ?_⟩
    rw [h, Nat.add_sub_cancel, List.take_length]; exact hy

theorem shape_of (p : List UInt8) (v : Int) (h : partL p = (p.length, some v)) : Shape p v := by
  match p with
  | [] => cases h
  | x :: l =>
    rw [partL] at h
    by_cases c1 : x = 92
    · rw [if_pos c1] at h
      injection h with h1 h2
      have h1' : (escL l).1 = l.length := by simpa using h1
      subst c1
      match l with
      | [] => cases h2
      | y :: t =>
        rw [escL] at h1' h2
        by_cases d1 : y = 120
        · rw [if_pos d1] at h1' h2
          have ht := run_plain 2 0 t (by simp only [ahead, List.length_cons] at h1'; omega) (by
            simp only [ahead] at h2
            cases hr : (runL 2 0 t).2 with
            | none => rw [hr] at h2; cases h2
            | some _ => rfl)
          exact Shape.esc y t v ht (fun _ => by rw [d1]; decide) ⟨fun e => absurd (d1.symm.trans e) (by decide), fun e => absurd (d1.symm.trans e) (by decide)⟩
        rw [if_neg d1] at h1' h2
        by_cases d2 : y = 117
        · rw [if_pos d2] at h1' h2
          refine Shape.esc y t v ?_ (fun _ => by rw [d2]; decide) ⟨fun e => absurd (d2.symm.trans e) (by decide), fun e => absurd (d2.symm.trans e) (by decide)⟩
          by_cases e : t.head? = some 123
          · rw [if_pos e] at h1' h2
            match t, e with
            | z :: t, e =>
              simp only [List.head?_cons, Option.some.injEq] at e
              subst e
              refine plain_cons (by decide) (bra_plain true 0 t (by simp only [ahead, List.length_cons, List.tail_cons] at h1'; omega) ?_)
              simp only [ahead, List.tail_cons] at h2
              cases hr : (braL true 0 t).2 with
              | none => rw [hr] at h2; cases h2
              | some _ => rfl
          · rw [if_neg e] at h1' h2
            exact run_plain 4 0 t (by simp only [ahead, List.length_cons] at h1'; omega) (by
              simp only [ahead] at h2
              cases hr : (runL 4 0 t).2 with
              | none => rw [hr] at h2; cases h2
              | some _ => rfl)
        rw [if_neg d2] at h1' h2
        by_cases d3 : y = 48
        · rw [if_pos d3] at h1'
          obtain rfl : t = [] := List.eq_nil_of_length_eq_zero (by have h' : 1 = t.length + 1 := h1'
                                                                   omega)
          exact Shape.esc y [] v plain_nil (fun e => absurd rfl e) ⟨fun e => absurd (d3.symm.trans e) (by decide), fun e => absurd (d3.symm.trans e) (by decide)⟩
        rw [if_neg d3] at h1' h2
        by_cases d4 : 49 ≤ y.toNat ∧ y.toNat ≤ 57
        · rw [if_pos d4] at h2; cases h2
        rw [if_neg d4] at h1' h2
        by_cases d5 : y = 13
        · rw [if_pos d5] at h1' h2
          refine Shape.esc y t v ?_ (fun _ => by rw [d5]; decide) ⟨fun e => absurd (d5.symm.trans e) (by decide), fun e => absurd (d5.symm.trans e) (by decide)⟩
          by_cases e : t.head? = some 10
          · rw [if_pos e] at h1'
            match t, e with
            | z :: t, e =>
              simp only [List.head?_cons, Option.some.injEq] at e
              subst e
              obtain rfl : t = [] := List.eq_nil_of_length_eq_zero (by have h' : 2 = t.length + 1 + 1 := h1'
                                                                       omega)
              exact plain_cons (by decide) plain_nil
          · rw [if_neg e] at h1'
            obtain rfl : t = [] := List.eq_nil_of_length_eq_zero (by have h' : 1 = t.length + 1 := h1'
                                                                     omega)
            exact plain_nil
        rw [if_neg d5] at h1' h2
        rcases chr_shape y t h1' with ⟨rfl, h3, h4⟩ | ⟨h3, h4, h5⟩
        · refine Shape.esc y [] v plain_nil (fun e => absurd rfl e) ?_
          have hne : ¬ lenL [y] = 0 := by have h' : lenL [y] = 1 := h1'
                                          omega
          simp only [if_neg hne, Option.some.injEq] at h2
          rw [h4] at h2
          exact ⟨fun e => (by subst e; rw [← h2]; decide), fun e => (by subst e; rw [← h2]; decide)⟩
        · refine Shape.esc y t v (fun z hz => plain_of_wide z (h5 z hz)) (fun _ => plain_of_wide y h3) ⟨fun e => absurd e (plain_of_wide y h3).1, fun e => absurd e (plain_of_wide y h3).2.1⟩
    · rw [if_neg c1] at h
      by_cases c2 : x = 10 ∨ x = 13
      · rw [if_pos c2] at h; cases h
      rw [if_neg c2] at h
      injection h with h1 h2
      rcases chr_shape x l h1 with ⟨rfl, h3, h4⟩ | ⟨h3, h4, h5⟩
      · have hne : ¬ lenL [x] = 0 := by have h' : lenL [x] = 1 := h1
                                        omega
        rw [if_neg hne, h4] at h2
        injection h2 with h2
        rw [← h2]
        exact Shape.one x c1 h3
      · exact Shape.wide x l v h3 h5

end Str
end Go.Proofs.YtggibhlmnfodaaaDoor
