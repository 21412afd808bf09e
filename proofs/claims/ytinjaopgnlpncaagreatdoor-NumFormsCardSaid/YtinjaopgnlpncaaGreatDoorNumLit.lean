/-
  Plain mathematics of numeric literals, on: what a literal looks like, its parts; no program is named here.
-/
import Derived.Test.YtinjaopgnlpncaaGreatDoorNumPlain
namespace Go.Proofs.YtinjaopgnlpncaaGreatDoor
namespace Num

theorem runL_le (b : Nat) : ∀ (l : List UInt8) (prev : Bool) (k : Nat), runL b prev l = some k → k ≤ l.length := by
  intro l
  induction l with
  | nil => intro prev k h; simp [runL] at h; omega
  | cons c t ih =>
    intro prev k h
    rw [runL] at h
    split at h
    · obtain ⟨j, hj, rfl⟩ := Option.map_eq_some_iff.1 h
      have := ih true j hj
      simp; omega
    · split at h
      · split at h
        · obtain ⟨j, hj, rfl⟩ := Option.map_eq_some_iff.1 h
          have := ih false j hj
          simp; omega
        · cases h
      · simp at h; omega

/-- Where a run ends. -/
def stops (b : Nat) : List UInt8 → Prop
  | [] => True
  | c :: _ => ¬ valN c < b ∧ c ≠ 95

theorem run_rest (b : Nat) : ∀ (l : List UInt8) (prev : Bool) (k : Nat), runL b prev l = some k → stops b (l.drop k) := by
  intro l
  induction l with
  | nil => intro prev k h; simp [stops]
  | cons c t ih =>
    intro prev k h
    rw [runL] at h
    split at h
    · obtain ⟨j, hj, rfl⟩ := Option.map_eq_some_iff.1 h
      exact ih true j hj
    · split at h
      · split at h
        · obtain ⟨j, hj, rfl⟩ := Option.map_eq_some_iff.1 h
          exact ih false j hj
        · cases h
      · rename_i h1 h2
        simp at h
        subst h
        exact ⟨h1, h2⟩

theorem head_take (b : Nat) (t : List UInt8) (j : Nat) (hj : 0 < j) : headDig b (t.take j) = headDig b t := by
  cases t with
  | nil => simp
  | cons d u =>
    match j, hj with
    | j + 1, _ => rfl

theorem run_pos_of_head (b : Nat) (t : List UInt8) (j : Nat) (h : runL b false t = some j) (hd : headDig b t = true) : 0 < j := by
  cases t with
  | nil => cases hd
  | cons d u =>
    rw [runL, if_pos (by simpa [headDig] using hd)] at h
    obtain ⟨i, _, rfl⟩ := Option.map_eq_some_iff.1 h
    omega

theorem run_take (b : Nat) : ∀ (l : List UInt8) (prev : Bool) (k : Nat), runL b prev l = some k → runL b prev (l.take k) = some (l.take k).length := by
  intro l
  induction l with
  | nil => intro prev k h; simp [runL]
  | cons c t ih =>
    intro prev k h
    rw [runL] at h
    split at h
    · rename_i h1
      obtain ⟨j, hj, rfl⟩ := Option.map_eq_some_iff.1 h
      rw [List.take_succ_cons, runL, if_pos h1, ih true j hj]
      simp
    · rename_i h1
      split at h
      · rename_i h2
        split at h
        · rename_i h3
          obtain ⟨j, hj, rfl⟩ := Option.map_eq_some_iff.1 h
          rw [List.take_succ_cons, runL, if_neg h1, if_pos h2, if_pos ⟨h3.1, by rw [head_take b t j (run_pos_of_head b t j hj h3.2)]; exact h3.2⟩, ih false j hj]
          simp
        · cases h
      · simp at h; subst h; simp [runL]

theorem run_app (b : Nat) (r : List UInt8) (hr : stops b r) : ∀ (ds : List UInt8) (prev : Bool), runL b prev ds = some ds.length → runL b prev (ds ++ r) = some ds.length := by
  intro ds
  induction ds with
  | nil =>
    intro prev _
    cases r with
    | nil => rfl
    | cons c t => rw [List.nil_append, runL, if_neg hr.1, if_neg hr.2]; rfl
  | cons c t ih =>
    intro prev h
    rw [runL] at h
    rw [List.cons_append, runL]
    split at h
    · rename_i h1
      obtain ⟨j, hj, e⟩ := Option.map_eq_some_iff.1 h
      rw [if_pos h1, ih true (by rw [hj]; simp at e; rw [e])]
      simp
    · rename_i h1
      split at h
      · rename_i h2
        split at h
        · rename_i h3
          obtain ⟨j, hj, e⟩ := Option.map_eq_some_iff.1 h
          have hd : headDig b (t ++ r) = true := by
            cases t with
            | nil => cases h3.2
            | cons d u => exact h3.2
          rw [if_neg h1, if_pos h2, if_pos ⟨h3.1, hd⟩, ih false (by rw [hj]; simp at e; rw [e])]
          simp
        · cases h
      · simp at h

theorem run_mem (b : Nat) : ∀ (ds : List UInt8) (prev : Bool), runL b prev ds = some ds.length → ∀ c ∈ ds, valN c < b ∨ c = 95 := by
  intro ds
  induction ds with
  | nil => intro _ _ c hc; cases hc
  | cons c t ih =>
    intro prev h d hd
    rw [runL] at h
    split at h
    · rename_i h1
      obtain ⟨j, hj, e⟩ := Option.map_eq_some_iff.1 h
      rcases List.mem_cons.1 hd with rfl | hd
      · exact Or.inl h1
      · exact ih true (by rw [hj]; simp at e; rw [e]) d hd
    · split at h
      · rename_i h2
        split at h
        · obtain ⟨j, hj, e⟩ := Option.map_eq_some_iff.1 h
          rcases List.mem_cons.1 hd with rfl | hd
          · exact Or.inr h2
          · exact ih false (by rw [hj]; simp at e; rw [e]) d hd
        · cases h
      · simp at h

/-- A run, alone. -/
def Run (b : Nat) (ds : List UInt8) : Prop := runL b false ds = some ds.length

theorem run_of (b : Nat) (l : List UInt8) (k : Nat) (h : runL b false l = some k) : Run b (l.take k) ∧ stops b (l.drop k) ∧ l = l.take k ++ l.drop k ∧ (l.take k).length = k :=
  ⟨run_take b l false k h, run_rest b l false k h, (List.take_append_drop k l).symm, by rw [List.length_take]; have := runL_le b l false k h; omega⟩

theorem run_at (b : Nat) (ds r : List UInt8) (h : Run b ds) (hr : stops b r) : runL b false (ds ++ r) = some ds.length ∧ (ds ++ r).take ds.length = ds ∧ (ds ++ r).drop ds.length = r :=
  ⟨run_app b r hr ds false h, List.take_left, List.drop_left⟩

def nT (big : Bool) : List UInt8 := if big then [110] else []
def dotT (p : Parts) : List UInt8 := if p.dot then 46 :: p.frac else []
def expT' (e : UInt8) (p : Parts) : List UInt8 := if p.exp then e :: (p.sgn ++ p.pow) else []

/-- What the parts of a decimal are. -/
structure Dec (p : Parts) : Prop where
  base : p.base = 10
  whole : Run 10 p.whole
  none : p.whole = [] → p.frac ≠ []
  lead : 1 < p.whole.length → p.whole.head? ≠ some 48
  frac : Run 10 p.frac
  dot : p.dot = false → p.frac = []
  big : p.big = true → p.dot = false ∧ p.exp = false
  pow : p.exp = true → Run 10 p.pow ∧ p.pow ≠ [] ∧ (aheadL (plainL p.pow)).length ≤ 9 ∧ (p.sgn = [] ∨ p.sgn = [43] ∨ p.sgn = [45])
  exp : p.exp = false → p.sgn = [] ∧ p.pow = []

/-- A decimal's text. -/
def decText (e : UInt8) (p : Parts) : List UInt8 := p.whole ++ (dotT p ++ (expT' e p ++ nT p.big))

theorem stops_exp (e : UInt8) (p : Parts) (he : e = 101 ∨ e = 69) : stops 10 (expT' e p ++ nT p.big) := by
  unfold expT' nT
  cases p.exp <;> cases p.big <;> rcases he with rfl | rfl <;> simp [stops] <;> decide
theorem stops_dot (e : UInt8) (p : Parts) (he : e = 101 ∨ e = 69) : stops 10 (dotT p ++ (expT' e p ++ nT p.big)) := by
  unfold dotT
  cases p.dot
  · exact stops_exp e p he
  · simp [stops]; decide

theorem sign_app (sg pw : List UInt8) (h : sg = [] ∨ sg = [43] ∨ sg = [45]) (hp : Run 10 pw) (hne : pw ≠ []) : signL (sg ++ pw) = (sg, pw) := by
  have key : ∀ c t, pw = c :: t → c ≠ 43 ∧ c ≠ 45 := by
    intro c t e
    have := run_mem 10 pw false hp c (by rw [e]; simp)
    constructor
    · intro e2; subst e2; rcases this with h | h
      · exact absurd h (by decide)
      · exact absurd h (by decide)
    · intro e2; subst e2; rcases this with h | h
      · exact absurd h (by decide)
      · exact absurd h (by decide)
  cases pw with
  | nil => exact absurd rfl hne
  | cons c t =>
    obtain ⟨k1, k2⟩ := key c t rfl
    rcases h with rfl | rfl | rfl
    · simp [signL, k1, k2]
    · simp [signL]
    · simp [signL]

theorem expOf_of (w : List UInt8) (dot : Bool) (f r : List UInt8) (p : Parts) (h : expOf w dot f r = some p) :
    p.base = 10 ∧ p.whole = w ∧ p.dot = dot ∧ p.frac = f ∧ p.big = false ∧ (p.exp = false → p.sgn = [] ∧ p.pow = []) ∧
    (p.exp = true → Run 10 p.pow ∧ p.pow ≠ [] ∧ (aheadL (plainL p.pow)).length ≤ 9 ∧ (p.sgn = [] ∨ p.sgn = [43] ∨ p.sgn = [45])) ∧ ∃ e, (e = 101 ∨ e = 69) ∧ r = expT' e p := by
  cases r with
  | nil =>
    simp only [expOf, Option.some.injEq] at h
    subst h
    exact ⟨rfl, rfl, rfl, rfl, rfl, fun _ => ⟨rfl, rfl⟩, (fun h => (by cases h)), 101, Or.inl rfl, rfl⟩
  | cons c t =>
    simp only [expOf] at h
    split at h
    · rename_i hc
      cases hk : runL 10 false (signL t).2 with
      | none => rw [hk] at h; cases h
      | some k =>
        rw [hk] at h
        simp only [] at h
        split at h
        · cases h
        · rename_i hn
          simp only [not_or, Nat.not_lt, ne_eq, Decidable.not_not] at hn
          obtain ⟨n1, n2, n3⟩ := hn
          simp only [Option.some.injEq] at h
          subst h
          obtain ⟨r1, _, r3, r4⟩ := run_of 10 _ k hk
          refine ⟨rfl, rfl, rfl, rfl, rfl, (fun h => (by cases h)), fun _ => ⟨r1, ?_, n2, ?_⟩, c, hc, ?_⟩
          · intro e; have e' : (signL t).2.take k = [] := e; rw [e'] at r4; simp at r4; omega
          · cases t with
            | nil => simp [signL]
            | cons d u =>
              simp only [signL]
              split
              · rename_i hd; rcases hd with rfl | rfl <;> simp
              · simp
          · have e2 : (signL t).2 = (signL t).2.take k := by rw [n3, List.append_nil] at r3; exact r3
            have e3 : (signL t).1 ++ (signL t).2 = t := by
              cases t with
              | nil => rfl
              | cons d u => simp only [signL]; split <;> rfl
            simp only [expT', if_true]
            rw [← e2, e3]
    · cases h

theorem of_expOf (p : Parts) (e : UInt8) (he : e = 101 ∨ e = 69) (hb : p.base = 10) (hbig : p.big = false) (h0 : p.exp = false → p.sgn = [] ∧ p.pow = [])
    (h1 : p.exp = true → Run 10 p.pow ∧ p.pow ≠ [] ∧ (aheadL (plainL p.pow)).length ≤ 9 ∧ (p.sgn = [] ∨ p.sgn = [43] ∨ p.sgn = [45])) :
    expOf p.whole p.dot p.frac (expT' e p) = some p := by
  obtain ⟨base, whole, dot, frac, exp, sgn, pow, big⟩ := p
  simp only at hb hbig h0 h1
  subst hb; subst hbig
  cases exp with
  | false => obtain ⟨rfl, rfl⟩ := h0 rfl; rfl
  | true =>
    obtain ⟨a, b, c, d⟩ := h1 rfl
    have es := sign_app sgn pow d a b
    have hr := (run_at 10 pow [] a trivial).1
    rw [List.append_nil] at hr
    simp only [expT', if_true, expOf, if_pos he, es, hr, List.take_length, List.drop_length]
    rw [if_neg (by simp; exact ⟨b, by omega⟩)]

theorem tailOf_of (w : List UInt8) (r : List UInt8) (p : Parts) (h : tailOf w r = some p) (hw : Run 10 w) (hl : 1 < w.length → w.head? ≠ some 48) : Dec p ∧ p.whole = w ∧ ∃ e, (e = 101 ∨ e = 69) ∧ r = dotT p ++ (expT' e p ++ nT p.big) := by
  have r0 : Run 10 [] := rfl
  cases r with
  | nil =>
    simp only [tailOf] at h
    split at h
    · cases h
    · rename_i hne
      simp only [Option.some.injEq] at h
      subst h
      exact ⟨⟨rfl, hw, fun e => absurd e hne, hl, r0, fun _ => rfl, (fun h => (by cases h)), (fun h => (by cases h)), fun _ => ⟨rfl, rfl⟩⟩, rfl, 101, Or.inl rfl, rfl⟩
  | cons c t =>
    simp only [tailOf] at h
    split at h
    · rename_i hc
      split at h
      · rename_i ht
        simp only [Option.some.injEq] at h
        subst h
        exact ⟨⟨rfl, hw, fun e => absurd e hc.2, hl, r0, fun _ => rfl, fun _ => ⟨rfl, rfl⟩, (fun h => (by cases h)), fun _ => ⟨rfl, rfl⟩⟩, rfl, 101, Or.inl rfl, by simp [dotT, expT', nT, hc.1, ht]⟩
      · cases h
    · split at h
      · rename_i hc
        cases hk : runL 10 false t with
        | none => rw [hk] at h; cases h
        | some k =>
          rw [hk] at h
          simp only [] at h
          split at h
          · cases h
          · rename_i hn
            obtain ⟨r1, _, r3, r4⟩ := run_of 10 _ k hk
            obtain ⟨a1, a2, a3, a4, a5, a6, a7, e, a8, a9⟩ := expOf_of _ _ _ _ _ h
            refine ⟨⟨a1, a2 ▸ hw, fun ew ef => ?_, a2 ▸ hl, a4 ▸ r1, fun hd => (by rw [a3] at hd; cases hd), fun hb => (by rw [a5] at hb; cases hb), a7, a6⟩, a2, e, a8, ?_⟩
            · rw [a4] at ef
              have : k = 0 := by rw [ef] at r4; simpa using r4.symm
              exact hn ⟨a2 ▸ ew, this⟩
            · rw [hc, dotT, a3, if_pos rfl, a4, a5, ← a9]
              simp [nT]
      · split at h
        · cases h
        · rename_i h1 h2 hne
          obtain ⟨a1, a2, a3, a4, a5, a6, a7, e, a8, a9⟩ := expOf_of _ _ _ _ _ h
          refine ⟨⟨a1, a2 ▸ hw, fun ew => absurd (a2 ▸ ew) hne, a2 ▸ hl, a4 ▸ r0, fun _ => a4, fun hb => (by rw [a5] at hb; cases hb), a7, a6⟩, a2, e, a8, ?_⟩
          rw [dotT, a3, a5, ← a9]
          simp [nT]

theorem decOf_of (l : List UInt8) (p : Parts) (h : decOf l = some p) : Dec p ∧ ∃ e, (e = 101 ∨ e = 69) ∧ l = decText e p := by
  unfold decOf at h
  cases hk : runL 10 false l with
  | none => rw [hk] at h; cases h
  | some i =>
    rw [hk] at h
    simp only [] at h
    split at h
    · cases h
    · rename_i hn
      obtain ⟨r1, _, r3, r4⟩ := run_of 10 _ i hk
      have hl : 1 < (l.take i).length → (l.take i).head? ≠ some 48 := by
        intro h1 h2
        rw [r4] at h1
        refine hn ⟨h1, ?_⟩
        rw [List.head?_take] at h2
        rwa [if_neg (by omega)] at h2
      obtain ⟨d, d1, e, d2, d3⟩ := tailOf_of _ _ _ h r1 hl
      exact ⟨d, e, d2, by rw [decText, d1, ← d3]; exact r3⟩

theorem of_tailOf (e : UInt8) (p : Parts) (he : e = 101 ∨ e = 69) (d : Dec p) : tailOf p.whole (dotT p ++ (expT' e p ++ nT p.big)) = some p := by
  obtain ⟨base, whole, dot, frac, exp, sgn, pow, big⟩ := p
  obtain ⟨d1, d2, d3, d4, d5, d6, d7, d8, d9⟩ := d
  simp only at d1 d2 d3 d4 d5 d6 d7 d8 d9
  subst d1
  cases big with
  | true =>
    obtain ⟨rfl, rfl⟩ := d7 rfl
    obtain rfl := d6 rfl
    obtain ⟨rfl, rfl⟩ := d9 rfl
    have hne : whole ≠ [] := fun e => d3 e rfl
    simp [dotT, expT', nT, tailOf, hne]
  | false =>
    cases dot with
    | true =>
      have hr := run_at 10 frac (expT' e ⟨10, whole, true, frac, exp, sgn, pow, false⟩ ++ nT false) d5 (stops_exp e ⟨10, whole, true, frac, exp, sgn, pow, false⟩ he)
      have hx := of_expOf ⟨10, whole, true, frac, exp, sgn, pow, false⟩ e he rfl rfl d9 d8
      simp only [dotT, if_true, List.cons_append, tailOf, hr.1, hr.2.1, hr.2.2]
      rw [if_neg (by simp), if_neg (by rintro ⟨a, b⟩; exact d3 a (List.length_eq_zero_iff.1 b))]
      simpa [nT] using hx
    | false =>
      obtain rfl := d6 rfl
      have hne : whole ≠ [] := fun e => d3 e rfl
      have hx := of_expOf ⟨10, whole, false, [], exp, sgn, pow, false⟩ e he rfl rfl d9 d8
      cases exp with
      | false =>
        obtain ⟨rfl, rfl⟩ := d9 rfl
        simp [dotT, expT', nT, tailOf, hne]
      | true =>
        simp only [dotT, expT', nT, if_true, Bool.false_eq_true, if_false, List.nil_append, List.append_nil, tailOf] at hx ⊢
        have h1 : e ≠ 110 := by rcases he with rfl | rfl <;> decide
        have h2 : e ≠ 46 := by rcases he with rfl | rfl <;> decide
        rw [if_neg (fun x => h1 x.1), if_neg h2, if_neg hne]
        exact hx

theorem of_decOf (e : UInt8) (p : Parts) (he : e = 101 ∨ e = 69) (d : Dec p) : decOf (decText e p) = some p := by
  have hr := run_at 10 p.whole (dotT p ++ (expT' e p ++ nT p.big)) d.whole (stops_dot e p he)
  unfold decOf decText
  simp only [hr.1, hr.2.1, hr.2.2]
  rw [if_neg, of_tailOf e p he d]
  rintro ⟨h1, h2⟩
  refine d.lead h1 ?_
  cases hw : p.whole with
  | nil => rw [hw] at h1; simp at h1
  | cons c t => rw [hw] at h2; simpa using h2

/-- What the parts of a literal with a base are. -/
structure Bas (p : Parts) : Prop where
  base : p.base = 16 ∨ p.base = 8 ∨ p.base = 2
  whole : Run p.base p.whole
  ne : p.whole ≠ []
  dot : p.dot = false
  frac : p.frac = []
  exp : p.exp = false
  sgn : p.sgn = []
  pow : p.pow = []

theorem stops_nT (b : Nat) (hb : b ≤ 99) (big : Bool) : stops b (nT big) := by
  cases big
  · trivial
  · exact ⟨by rw [show valN 110 = 99 from by decide]; omega, by decide⟩
theorem big_nT (big : Bool) : bigT (nT big) = true ∧ (nT big != []) = big := by cases big <;> exact ⟨rfl, rfl⟩
theorem nT_big (t : List UInt8) (h : bigT t = true) : t = nT (t != []) := by
  match t, h with
  | [], _ => rfl
  | [c], h => simp only [bigT, beq_iff_eq] at h; subst h; rfl
  | _ :: _ :: _, h => cases h

theorem rad_cases (c : UInt8) (h : radN c ≠ 0) : radN c = 16 ∨ radN c = 8 ∨ radN c = 2 := by
  unfold radN at *
  split at h
  · exact Or.inl (by simp [*])
  · split at h
    · exact Or.inr (Or.inl (by simp [*]))
    · split at h
      · exact Or.inr (Or.inr (by simp [*]))
      · exact absurd rfl h

theorem baseOf_of (r : Nat) (t : List UInt8) (p : Parts) (h : baseOf r t = some p) (hr : r = 16 ∨ r = 8 ∨ r = 2) : Bas p ∧ p.base = r ∧ t = p.whole ++ nT p.big := by
  unfold baseOf at h
  cases hk : runL r false t with
  | none => rw [hk] at h; cases h
  | some k =>
    rw [hk] at h
    simp only [] at h
    split at h
    · cases h
    · rename_i hn
      simp only [not_or, Bool.not_eq_false] at hn
      obtain ⟨r1, _, r3, r4⟩ := run_of r _ k hk
      simp only [Option.some.injEq] at h
      subst h
      refine ⟨⟨hr, r1, ?_, rfl, rfl, rfl, rfl, rfl⟩, rfl, ?_⟩
      · intro e
        have e' : t.take k = [] := e
        rw [e'] at r4; simp at r4; exact hn.1 r4.symm
      · show t = t.take k ++ nT (t.drop k != [])
        rw [← nT_big _ hn.2]
        exact r3

theorem of_baseOf (p : Parts) (h : Bas p) : baseOf p.base (p.whole ++ nT p.big) = some p := by
  obtain ⟨base, whole, dot, frac, exp, sgn, pow, big⟩ := p
  obtain ⟨b1, b2, b3, b4, b5, b6, b7, b8⟩ := h
  simp only at b1 b2 b3 b4 b5 b6 b7 b8
  subst b4; subst b5; subst b6; subst b7; subst b8
  have hr := run_at base whole (nT big) b2 (stops_nT base (by omega) big)
  unfold baseOf
  simp only [hr.1, hr.2.1, hr.2.2]
  rw [if_neg (by simp [big_nT]; exact b3), (big_nT big).2]

/-- The text of a literal with a base. -/
def basText (b : UInt8) (p : Parts) : List UInt8 := 48 :: b :: (p.whole ++ nT p.big)

theorem ofL_of (l : List UInt8) (p : Parts) (h : ofL l = some p) :
    (Bas p ∧ ∃ b, radN (lowN b) = p.base ∧ l = basText b p) ∨ (Dec p ∧ ∃ e, (e = 101 ∨ e = 69) ∧ l = decText e p) := by
  have dec : decOf l = some p → (Bas p ∧ ∃ b, radN (lowN b) = p.base ∧ l = basText b p) ∨ (Dec p ∧ ∃ e, (e = 101 ∨ e = 69) ∧ l = decText e p) := fun h => Or.inr (decOf_of l p h)
  match l, h, dec with
  | [], h, dec => exact dec h
  | [_], h, dec => exact dec h
  | a :: b :: t, h, dec =>
    rw [ofL] at h
    split at h
    · rename_i hc
      obtain ⟨h1, h2, h3⟩ := baseOf_of _ _ _ h (rad_cases _ hc.2)
      exact Or.inl ⟨h1, b, h2.symm, by rw [basText, ← h3, hc.1]⟩
    · exact dec h

theorem of_bas (p : Parts) (h : Bas p) (b : UInt8) (hb : radN (lowN b) = p.base) : ofL (basText b p) = some p := by
  rw [basText, ofL, if_pos ⟨rfl, by rw [hb]; have := h.base; omega⟩, hb]
  exact of_baseOf p h

theorem dec_second (e : UInt8) (p : Parts) (he : e = 101 ∨ e = 69) (d : Dec p) (b : UInt8) (t : List UInt8) (h : decText e p = 48 :: b :: t) : radN (lowN b) = 0 := by
  unfold decText at h
  cases hw : p.whole with
  | nil =>
    rw [hw, List.nil_append] at h
    cases hd : p.dot with
    | false => exact absurd (d.dot hd) (d.none hw)
    | true => rw [dotT, hd] at h; simp at h
  | cons c w2 =>
    rw [hw] at h
    simp only [List.cons_append, List.cons.injEq] at h
    obtain ⟨rfl, h⟩ := h
    cases w2 with
    | cons x y => exact absurd (by rw [hw]; rfl) (d.lead (by rw [hw]; simp))
    | nil =>
      rw [List.nil_append] at h
      cases hd : p.dot with
      | true => rw [dotT, hd] at h; simp at h; rw [← h.1]; decide
      | false =>
        rw [dotT, hd] at h
        simp only [Bool.false_eq_true, if_false, List.nil_append] at h
        cases hx : p.exp with
        | true =>
          rw [expT', hx] at h
          simp at h
          rw [← h.1]
          rcases he with rfl | rfl <;> decide
        | false =>
          rw [expT', hx] at h
          cases hb : p.big with
          | true => rw [hb] at h; simp [nT] at h; rw [← h.1]; decide
          | false => rw [hb] at h; simp [nT] at h

theorem of_dec (e : UInt8) (p : Parts) (he : e = 101 ∨ e = 69) (d : Dec p) : ofL (decText e p) = some p := by
  have hd := of_decOf e p he d
  have hs := dec_second e p he d
  generalize decText e p = l at *
  match l, hd, hs with
  | [], hd, _ => exact hd
  | [_], hd, _ => exact hd
  | a :: b :: t, hd, hs =>
    rw [ofL, if_neg, hd]
    rintro ⟨rfl, h2⟩
    exact h2 (hs b t rfl)

end Num
end Go.Proofs.YtinjaopgnlpncaaGreatDoor
