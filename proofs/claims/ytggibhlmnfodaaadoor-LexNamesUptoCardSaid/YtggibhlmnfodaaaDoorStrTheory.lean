/-
  A literal in other quotes: byte by byte, and part by part; that it stands for the same: no program is named here.
-/
import Derived.Test.YtggibhlmnfodaaaDoorStrRow
namespace Go.Proofs.YtggibhlmnfodaaaDoor
namespace Str
open Go.RowKit

/-- Byte by byte. -/
def quoteB (q o : UInt8) : List UInt8 → List UInt8
  | [] => []
  | [x] => if x = q then [92, x] else [x]
  | x :: y :: l => if x = 92 then (if y = o then [y] else [92, y]) ++ quoteB q o l else (if x = q then [92, x] else [x]) ++ quoteB q o (y :: l)
/-- Part by part. -/
def quoteP (q o : UInt8) (p : List UInt8) : List UInt8 := if p = [92, o] then [o] else if p = [q] then [92, q] else p
def cnt (q : UInt8) (l : List UInt8) : Nat := l.countP (· == q)

def IsQ (q o : UInt8) : Prop := q = 39 ∧ o = 34 ∨ q = 34 ∧ o = 39
theorem IsQ.symm {q o : UInt8} (h : IsQ q o) : IsQ o q := by rcases h with ⟨rfl, rfl⟩ | ⟨rfl, rfl⟩ <;> simp [IsQ]
theorem IsQ.ne {q o : UInt8} (h : IsQ q o) : q ≠ o ∧ q ≠ 92 ∧ o ≠ 92 := by rcases h with ⟨rfl, rfl⟩ | ⟨rfl, rfl⟩ <;> decide
theorem IsQ.plain {q o x : UInt8} (h : IsQ q o) (hx : x ≠ 34 ∧ x ≠ 39 ∧ x ≠ 92) : x ≠ q ∧ x ≠ o := by
  rcases h with ⟨rfl, rfl⟩ | ⟨rfl, rfl⟩
  · exact ⟨hx.2.1, hx.1⟩
  · exact ⟨hx.1, hx.2.1⟩

theorem quoteB_one (q o x : UInt8) (l : List UInt8) (h : x ≠ 92) : quoteB q o (x :: l) = (if x = q then [92, x] else [x]) ++ quoteB q o l := by
  cases l with
  | nil => rw [quoteB, quoteB, List.append_nil]
  | cons y l => rw [quoteB, if_neg h]
theorem quoteB_esc (q o y : UInt8) (l : List UInt8) : quoteB q o (92 :: y :: l) = (if y = o then [y] else [92, y]) ++ quoteB q o l := by
  rw [quoteB, if_pos rfl]
theorem quoteB_plain {q o : UInt8} (h : IsQ q o) (t l : List UInt8) (ht : Plain t) : quoteB q o (t ++ l) = t ++ quoteB q o l := by
  induction t with
  | nil => rfl
  | cons x t ih =>
    have hx := ht x (List.mem_cons_self ..)
    rw [List.cons_append, quoteB_one q o x _ hx.2.2, if_neg (h.plain hx).1, ih (fun y hy => ht y (List.mem_cons_of_mem _ hy))]
    rfl
theorem quoteB_part {q o : UInt8} (h : IsQ q o) (p l : List UInt8) (v : Int) (hs : Shape p v) : quoteB q o (p ++ l) = quoteP q o p ++ quoteB q o l := by
  have hn := h.ne
  cases hs with
  | one x hx h2 =>
    rw [List.cons_append, List.nil_append, quoteB_one q o x l hx]
    unfold quoteP
    by_cases e : x = q
    · subst e; simp
    · simp [e]
  | wide x t _ hx ht =>
    have hp : Plain (x :: t) := plain_cons (plain_of_wide x hx) (fun y hy => plain_of_wide y (ht y hy))
    rw [quoteB_plain h (x :: t) l hp]
    have hx' := plain_of_wide x hx
    unfold quoteP
    rw [if_neg (by intro e; injection e with e _; exact hx'.2.2 e), if_neg (by intro e; injection e with e _; exact (h.plain hx').1 e)]
  | esc y t _ ht hy hv =>
    rw [List.cons_append, List.cons_append, quoteB_esc, quoteB_plain h t l ht]
    unfold quoteP
    by_cases e : y = o
    · subst e
      have ht0 : t = [] := by
        cases t with
        | nil => rfl
        | cons z t =>
          have := hy (by simp)
          rcases h with ⟨_, rfl⟩ | ⟨_, rfl⟩
          · exact absurd rfl this.1
          · exact absurd rfl this.2.1
      subst ht0
      rw [if_pos rfl, if_pos rfl]; rfl
    · rw [if_neg e, if_neg (by intro e'; injection e' with _ e'; injection e' with e' _; exact e e'), if_neg (by intro e'; injection e' with _ e'; cases e')]
      rfl

theorem row_shape : ∀ ps m, Row ps m → ∀ p ∈ ps, Shape p.1 p.2
  | _ :: ps, m, ⟨h1, _, h3⟩, p', hp => by
    rcases List.mem_cons.1 hp with e | e
    · subst e; exact shape_of _ _ h1
    · exact row_shape ps m h3 p' e

theorem quoteB_row {q o : UInt8} (h : IsQ q o) : ∀ ps : List Piece, (∀ p ∈ ps, Shape p.1 p.2) → quoteB q o (bytesP ps) = ps.flatMap (fun p => quoteP q o p.1)
  | [], _ => rfl
  | p :: ps, hs => by
    rw [bytesP_cons, quoteB_part h p.1 _ p.2 (hs p (List.mem_cons_self ..)), quoteB_row h ps (fun p' hp' => hs p' (List.mem_cons_of_mem _ hp'))]
    rfl

/-- How many of a quote a part holds. -/
def oneIf (q : UInt8) (p : List UInt8) : Nat := if p = [q] ∨ p = [92, q] then 1 else 0
theorem cnt_plain {q o : UInt8} (h : IsQ q o) (t : List UInt8) (ht : Plain t) : cnt q t = 0 := by
  unfold cnt
  rw [List.countP_eq_zero]
  intro x hx
  simpa using (h.plain (ht x hx)).1
theorem cnt_part {q o : UInt8} (h : IsQ q o) (p : List UInt8) (v : Int) (hs : Shape p v) : cnt q p = oneIf q p := by
  have hn := h.ne
  cases hs with
  | one x hx h2 =>
    unfold oneIf cnt
    by_cases e : x = q
    · subst e; simp
    · simp [e]
  | wide x t _ hx ht =>
    have hp : Plain (x :: t) := plain_cons (plain_of_wide x hx) (fun y hy => plain_of_wide y (ht y hy))
    rw [cnt_plain h _ hp]
    have hx' := plain_of_wide x hx
    unfold oneIf
    rw [if_neg]
    rintro (e | e)
    · injection e with e _; exact (h.plain hx').1 e
    · injection e with e _; exact hx'.2.2 e
  | esc y t _ ht hy hv =>
    have h0 := cnt_plain h t ht
    unfold cnt at h0
    unfold oneIf cnt
    by_cases e : y = q
    · subst e
      have ht0 : t = [] := by
        cases t with
        | nil => rfl
        | cons z t =>
          have := hy (by simp)
          rcases h with ⟨rfl, _⟩ | ⟨rfl, _⟩
          · exact absurd rfl this.2.1
          · exact absurd rfl this.1
      subst ht0
      simp [hn.2.1.symm]
    · have : ¬ ((92 :: y :: t = [q]) ∨ 92 :: y :: t = [92, q]) := by
        rintro (e' | e')
        · injection e' with _ e'; cases e'
        · injection e' with _ e'; injection e' with e' _; exact e e'
      rw [if_neg this]
      simp only [List.countP_cons, h0, beq_iff_eq, hn.2.1.symm, e, if_false]
theorem cnt_app (q : UInt8) (a b : List UInt8) : cnt q (a ++ b) = cnt q a + cnt q b := by simp [cnt]
def sumIf (q : UInt8) (ps : List Piece) : Nat := ps.foldr (fun p n => oneIf q p.1 + n) 0
theorem sumIf_app (q : UInt8) (ps qs : List Piece) : sumIf q (ps ++ qs) = sumIf q ps + sumIf q qs := by
  induction ps with
  | nil => simp [sumIf]
  | cons p ps ih =>
    have h1 : sumIf q (p :: ps ++ qs) = oneIf q p.1 + sumIf q (ps ++ qs) := rfl
    have h2 : sumIf q (p :: ps) = oneIf q p.1 + sumIf q ps := rfl
    rw [h1, h2, ih]; omega
theorem cnt_row {q o : UInt8} (h : IsQ q o) : ∀ ps : List Piece, (∀ p ∈ ps, Shape p.1 p.2) → cnt q (bytesP ps) = sumIf q ps
  | [], _ => rfl
  | p :: ps, hs => by
    rw [bytesP_cons, cnt_app, cnt_part h p.1 p.2 (hs p (List.mem_cons_self ..)), cnt_row h ps (fun p' hp' => hs p' (List.mem_cons_of_mem _ hp'))]
    rfl

/-- Which quotes are chosen: the one, and the other. -/
def pick (single : Bool) (u : List UInt8) : UInt8 × UInt8 :=
  if single then (if cnt 34 u < cnt 39 u then (34, 39) else (39, 34)) else (if cnt 39 u < cnt 34 u then (39, 34) else (34, 39))
theorem pick_is (single : Bool) (u : List UInt8) : IsQ (pick single u).1 (pick single u).2 := by
  unfold pick IsQ
  cases single
  · by_cases h : cnt 39 u < cnt 34 u <;> simp [h]
  · by_cases h : cnt 34 u < cnt 39 u <;> simp [h]

/-- The parts in other quotes. -/
def rePs (q o : UInt8) (ps : List Piece) : List Piece := ps.map fun p => (quoteP q o p.1, p.2)
theorem rePs_bytes (q o : UInt8) (ps : List Piece) : bytesP (rePs q o ps) = ps.flatMap (fun p => quoteP q o p.1) := by
  simp [bytesP, rePs, List.flatMap_map]
/-- A literal's answer to 'Quote'. -/
def quoteL (single : Bool) (s : List UInt8) : List UInt8 :=
  match (litL s).2 with
  | none => []
  | some ps => (pick single (bytesP ps)).1 :: (bytesP (rePs (pick single (bytesP ps)).1 (pick single (bytesP ps)).2 ps) ++ [(pick single (bytesP ps)).1])
theorem quoteL_of (single : Bool) (s : List UInt8) (ps : List Piece) (h : (litL s).2 = some ps) :
    quoteL single s = (pick single (bytesP ps)).1 :: (bytesP (rePs (pick single (bytesP ps)).1 (pick single (bytesP ps)).2 ps) ++ [(pick single (bytesP ps)).1]) := by
  unfold quoteL; rw [h]
/-- A literal's units. -/
def unitsOf (ps : List Piece) (f : Int → List Int) : List Int := ps.flatMap fun p => f p.2

theorem quoteP_ne {q o : UInt8} (p : List UInt8) (h : p ≠ []) : quoteP q o p ≠ [] := by
  unfold quoteP
  split
  · simp
  · split
    · simp
    · exact h
theorem quoteP_self {q o : UInt8} (h : IsQ q o) (p : List UInt8) (v : Int) (hp : partL p = (p.length, some v)) : partL (quoteP q o p) = ((quoteP q o p).length, some v) := by
  have hn := h.ne
  unfold quoteP
  by_cases e1 : p = [92, o]
  · rw [if_pos e1]
    subst e1
    rcases h with ⟨rfl, rfl⟩ | ⟨rfl, rfl⟩
    · have h2 : partL [92, 34] = (2, some 34) := by decide +kernel
      rw [h2] at hp
      injection hp with _ hp; injection hp with hp; subst hp
      decide +kernel
    · have h2 : partL [92, 39] = (2, some 39) := by decide +kernel
      rw [h2] at hp
      injection hp with _ hp; injection hp with hp; subst hp
      decide +kernel
  · rw [if_neg e1]
    by_cases e2 : p = [q]
    · rw [if_pos e2]
      subst e2
      rcases h with ⟨rfl, rfl⟩ | ⟨rfl, rfl⟩
      · have h2 : partL [39] = (1, some 39) := by decide +kernel
        rw [h2] at hp
        injection hp with _ hp; injection hp with hp; subst hp
        decide +kernel
      · have h2 : partL [34] = (1, some 34) := by decide +kernel
        rw [h2] at hp
        injection hp with _ hp; injection hp with hp; subst hp
        decide +kernel
    · rw [if_neg e2]; exact hp

/-- The heads that matter don't come in. -/
theorem head_ok {q o : UInt8} (h : IsQ q o) (ps : List Piece) (m : List UInt8) (hne : ∀ p ∈ ps, p.1 ≠ []) (h1 : digHead (bytesP ps ++ m) = false) : digHead (bytesP (rePs q o ps) ++ [q]) = false := by
  cases ps with
  | nil => rcases h with ⟨rfl, _⟩ | ⟨rfl, _⟩ <;> rfl
  | cons p ps =>
    have hp := hne p (List.mem_cons_self ..)
    have : bytesP (rePs q o (p :: ps)) = quoteP q o p.1 ++ bytesP (rePs q o ps) := rfl
    rw [this]
    rw [bytesP_cons] at h1
    unfold quoteP
    split
    · rcases h with ⟨_, rfl⟩ | ⟨_, rfl⟩ <;> rfl
    · split
      · rfl
      · cases hp' : p.1 with
        | nil => exact absurd hp' hp
        | cons x t => rw [hp'] at h1; exact h1
theorem head_ok2 {q o : UInt8} (h : IsQ q o) (ps : List Piece) (m : List UInt8) (hne : ∀ p ∈ ps, p.1 ≠ []) (h1 : ¬ (bytesP ps ++ m).head? = some 10) : ¬ (bytesP (rePs q o ps) ++ [q]).head? = some 10 := by
  cases ps with
  | nil => rcases h with ⟨rfl, _⟩ | ⟨rfl, _⟩ <;> simp [rePs, bytesP]
  | cons p ps =>
    have hp := hne p (List.mem_cons_self ..)
    have : bytesP (rePs q o (p :: ps)) = quoteP q o p.1 ++ bytesP (rePs q o ps) := rfl
    rw [this]
    rw [bytesP_cons] at h1
    unfold quoteP
    split
    · rcases h with ⟨_, rfl⟩ | ⟨_, rfl⟩ <;> simp
    · split
      · simp
      · cases hp' : p.1 with
        | nil => exact absurd hp' hp
        | cons x t => rw [hp'] at h1; simpa using h1

theorem row_ne : ∀ ps m, Row ps m → ∀ p ∈ ps, p.1 ≠ []
  | _ :: ps, m, ⟨h1, _, h3⟩, p', hp => by
    rcases List.mem_cons.1 hp with e | e
    · subst e; intro e'; rw [e'] at h1; cases h1
    · exact row_ne ps m h3 p' e

theorem row_re {q o : UInt8} (h : IsQ q o) : ∀ ps m, Row ps m → Row (rePs q o ps) [q]
  | [], _, _ => trivial
  | p :: ps, m, hr@⟨h1, h2, h3⟩ => by
    have hne := row_ne _ _ h3
    refine ⟨quoteP_self h _ _ h1, ⟨fun e => ?_, fun e => ?_⟩, row_re h ps m h3⟩
    · have e' : quoteP q o p.1 = [92, 48] := e
      have hp : p.1 = [92, 48] := by
        unfold quoteP at e'
        split at e'
        · rcases h with ⟨_, rfl⟩ | ⟨_, rfl⟩ <;> simp at e'
        · split at e'
          · rcases h with ⟨rfl, _⟩ | ⟨rfl, _⟩ <;> simp at e'
          · exact e'
      exact head_ok h ps m hne (h2.1 hp)
    · have e' : quoteP q o p.1 = [92, 13] := e
      have hp : p.1 = [92, 13] := by
        unfold quoteP at e'
        split at e'
        · rcases h with ⟨_, rfl⟩ | ⟨_, rfl⟩ <;> simp at e'
        · split at e'
          · rcases h with ⟨rfl, _⟩ | ⟨rfl, _⟩ <;> simp at e'
          · exact e'
      exact head_ok2 h ps m hne (h2.2 hp)

theorem free_re {q o : UInt8} (h : IsQ q o) (ps : List Piece) (hs : ∀ p ∈ ps, Shape p.1 p.2) : Free q (rePs q o ps) := by
  have hn := h.ne
  intro p hp
  obtain ⟨p0, hp0, rfl⟩ := List.mem_map.1 hp
  have hsh := hs p0 hp0
  show ¬ (quoteP q o p0.1).head? = some q
  unfold quoteP
  split
  · simpa using hn.1.symm
  · split
    · simpa using hn.2.1.symm
    · rename_i e1 e2
      cases hp' : p0.1 with
      | nil => simp
      | cons x t =>
        rw [hp'] at hsh e2
        intro e
        simp only [List.head?_cons, Option.some.injEq] at e
        subst e
        generalize p0.2 = v0 at hsh
        cases hsh with
        | one _ _ _ => exact e2 rfl
        | wide _ _ _ hx _ => exact (h.plain (plain_of_wide _ hx)).1 rfl
        | esc _ _ _ _ _ _ => exact hn.2.1 rfl

theorem oneIf_re {q o : UInt8} (h : IsQ q o) (p : List UInt8) : oneIf q (quoteP q o p) = oneIf q p ∧ oneIf o (quoteP q o p) = oneIf o p := by
  unfold quoteP
  by_cases e1 : p = [92, o]
  · subst e1
    rw [if_pos rfl]
    rcases h with ⟨rfl, rfl⟩ | ⟨rfl, rfl⟩ <;> decide
  · rw [if_neg e1]
    by_cases e2 : p = [q]
    · subst e2
      rw [if_pos rfl]
      rcases h with ⟨rfl, rfl⟩ | ⟨rfl, rfl⟩ <;> decide
    · rw [if_neg e2]; exact ⟨rfl, rfl⟩
theorem sumIf_re {q o : UInt8} (h : IsQ q o) : ∀ ps, sumIf q (rePs q o ps) = sumIf q ps ∧ sumIf o (rePs q o ps) = sumIf o ps
  | [] => ⟨rfl, rfl⟩
  | p :: ps => by
    have := sumIf_re h ps
    have h1 := oneIf_re h p.1
    have e1 : ∀ z, sumIf z (rePs q o (p :: ps)) = oneIf z (quoteP q o p.1) + sumIf z (rePs q o ps) := fun _ => rfl
    have e2 : ∀ z, sumIf z (p :: ps) = oneIf z p.1 + sumIf z ps := fun _ => rfl
    rw [e1, e1, e2, e2, h1.1, h1.2, this.1, this.2]
    exact ⟨rfl, rfl⟩
theorem quoteP_twice {q o : UInt8} (h : IsQ q o) (p : List UInt8) : quoteP q o (quoteP q o p) = quoteP q o p := by
  have hn := h.ne
  unfold quoteP
  by_cases e1 : p = [92, o]
  · subst e1
    rw [if_pos rfl, if_neg (by simp), if_neg (by simpa using hn.1.symm)]
  · rw [if_neg e1]
    by_cases e2 : p = [q]
    · subst e2
      rw [if_pos rfl, if_neg (by simpa using hn.1), if_neg (by simp)]
    · rw [if_neg e2, if_neg e1, if_neg e2]

/-- IN OTHER QUOTES IT STANDS FOR THE SAME, AND STAYS. -/
theorem lit_re (single : Bool) (s : List UInt8) (ps : List Piece) (h : (litL s).2 = some ps) :
    ∃ qs : List Piece, litL (quoteL single s) = (0, some qs) ∧ qs.map (·.2) = ps.map (·.2) ∧ quoteL single (quoteL single s) = quoteL single s ∧ ∃ q m, quoteL single s = q :: (m ++ [q]) := by
  obtain ⟨h0, q0, hq0, hs, hr, hf⟩ := lit_inv s ps h
  have hsh := row_shape _ _ hr
  have hI := pick_is single (bytesP ps)
  have hQ := quoteL_of single s ps h
  have hpk : pick single (bytesP (rePs (pick single (bytesP ps)).1 (pick single (bytesP ps)).2 ps)) = pick single (bytesP ps) := by
    have hsh2 : ∀ p ∈ rePs (pick single (bytesP ps)).1 (pick single (bytesP ps)).2 ps, Shape p.1 p.2 := row_shape _ _ (row_re hI ps _ hr)
    have hs39 : sumIf 39 (rePs (pick single (bytesP ps)).1 (pick single (bytesP ps)).2 ps) = sumIf 39 ps := by
      have := sumIf_re hI ps
      rcases hI with ⟨e1, e2⟩ | ⟨e1, e2⟩ <;> rw [e1, e2] at this ⊢
      · exact this.1
      · exact this.2
    have hs34 : sumIf 34 (rePs (pick single (bytesP ps)).1 (pick single (bytesP ps)).2 ps) = sumIf 34 ps := by
      have := sumIf_re hI ps
      rcases hI with ⟨e1, e2⟩ | ⟨e1, e2⟩ <;> rw [e1, e2] at this ⊢
      · exact this.2
      · exact this.1
    have c39 : cnt 39 (bytesP (rePs (pick single (bytesP ps)).1 (pick single (bytesP ps)).2 ps)) = cnt 39 (bytesP ps) := by
      rw [cnt_row (q := 39) (o := 34) (by simp [IsQ]) _ hsh2, cnt_row (q := 39) (o := 34) (by simp [IsQ]) _ hsh, hs39]
    have c34 : cnt 34 (bytesP (rePs (pick single (bytesP ps)).1 (pick single (bytesP ps)).2 ps)) = cnt 34 (bytesP ps) := by
      rw [cnt_row (q := 34) (o := 39) (by simp [IsQ]) _ hsh2, cnt_row (q := 34) (o := 39) (by simp [IsQ]) _ hsh, hs34]
    unfold pick at c39 c34 ⊢
    rw [c39, c34]
  generalize pick single (bytesP ps) = P at *
  obtain ⟨q, o⟩ := P
  simp only at *
  have hq : q = 39 ∨ q = 34 := by rcases hI with ⟨e, _⟩ | ⟨e, _⟩ <;> simp [e]
  have hlit := lit_of q hq (rePs q o ps) (row_re hI ps _ hr) (free_re hI ps hsh)
  rw [← hQ] at hlit
  refine ⟨rePs q o ps, hlit, by simp [rePs, Function.comp_def], ?_, q, _, hQ⟩
  rw [quoteL_of single _ _ (by rw [hlit]), hpk]
  have : rePs q o (rePs q o ps) = rePs q o ps := by
    simp [rePs, Function.comp_def, quoteP_twice hI]
  rw [this, hQ]

end Str
end Go.Proofs.YtggibhlmnfodaaaDoor
