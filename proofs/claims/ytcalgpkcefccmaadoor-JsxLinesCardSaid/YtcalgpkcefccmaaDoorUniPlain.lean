/-
  Plain mathematics of characters: no program is named here.
-/
namespace Go.Proofs.YtcalgpkcefccmaaDoor
namespace Uni

/-- A loop over pairs of bounds that stops at the first pair above r. -/
def ascB (r : Int) : List Int → Bool
  | a :: b :: t => if r < a then false else if r ≤ b then true else ascB r t
  | _ => false

/-- A loop that goes through all pairs. -/
def anyB (r : Int) : List Int → Bool
  | a :: b :: t => if a ≤ r ∧ r ≤ b then true else anyB r t
  | _ => false

theorem drop_two (l : List Int) (k : Nat) (h : 2 * k + 1 < l.length) :
    l.drop (2 * k) = l.getD (2 * k) 0 :: l.getD (2 * k + 1) 0 :: l.drop (2 * (k + 1)) := by
  rw [List.drop_eq_getElem_cons (by omega : 2 * k < l.length), List.drop_eq_getElem_cons h, show 2 * (k + 1) = 2 * k + 1 + 1 from by omega]
  simp [List.getD, List.getElem?_eq_getElem (by omega : 2 * k < l.length), List.getElem?_eq_getElem h]

theorem ascB_short (r : Int) (l : List Int) (h : l.length ≤ 1) : ascB r l = false := by
  match l, h with
  | [], _ => rfl
  | [_], _ => rfl

theorem anyB_short (r : Int) (l : List Int) (h : l.length ≤ 1) : anyB r l = false := by
  match l, h with
  | [], _ => rfl
  | [_], _ => rfl

/-- Do the bounds ascend? -/
def risesB : List Int → Bool
  | a :: b :: t => decide (a ≤ b) && risesB (b :: t)
  | _ => true

theorem anyB_low (r : Int) : ∀ (l : List Int) (c : Int), risesB (c :: l) = true → r < c → anyB r l = false := by
  intro l
  suffices h : ∀ n (l : List Int), l.length ≤ n → ∀ c, risesB (c :: l) = true → r < c → anyB r l = false from h l.length l (Nat.le_refl _)
  intro n
  induction n with
  | zero => intro l hl c _ _; exact anyB_short r l (by omega)
  | succ n ih =>
    intro l hl c hr hc
    match l, hl, hr with
    | [], _, _ => rfl
    | [_], _, _ => rfl
    | a :: b :: t, hl, hr =>
      simp only [risesB, Bool.and_eq_true, decide_eq_true_eq] at hr
      rw [anyB, if_neg (by omega)]
      exact ih t (by simp at hl; omega) b hr.2.2 (by omega)

/-- Where the bounds ascend both loops answer one thing. -/
theorem ascB_eq (r : Int) : ∀ (l : List Int), risesB l = true → ascB r l = anyB r l := by
  intro l
  suffices h : ∀ n (l : List Int), l.length ≤ n → risesB l = true → ascB r l = anyB r l from h l.length l (Nat.le_refl _)
  intro n
  induction n with
  | zero => intro l hl _; rw [ascB_short r l (by omega), anyB_short r l (by omega)]
  | succ n ih =>
    intro l hl hr
    match l, hl, hr with
    | [], _, _ => rfl
    | [_], _, _ => rfl
    | a :: b :: t, hl, hr =>
      have hr' := hr
      simp only [risesB, Bool.and_eq_true, decide_eq_true_eq] at hr'
      rw [ascB]
      by_cases h1 : r < a
      · rw [if_pos h1, anyB_low r (a :: b :: t) a (by simp [risesB, hr'.1, hr'.2]) h1]
      · rw [if_neg h1, anyB]
        by_cases h2 : r ≤ b
        · rw [if_pos h2, if_pos ⟨by omega, h2⟩]
        · rw [if_neg h2, if_neg (by omega)]
          refine ih t (by simp at hl; omega) ?_
          match t, hr'.2 with
          | [], _ => rfl
          | c :: u, hq => simp only [risesB, Bool.and_eq_true] at hq; exact hq.2

theorem anyB_append (r : Int) (b : List Int) : ∀ (a : List Int), a.length % 2 = 0 → anyB r (a ++ b) = (anyB r a || anyB r b) := by
  intro a
  suffices h : ∀ n (a : List Int), a.length ≤ n → a.length % 2 = 0 → anyB r (a ++ b) = (anyB r a || anyB r b) from h a.length a (Nat.le_refl _)
  intro n
  induction n with
  | zero =>
    intro a hl _
    match a, hl with
    | [], _ => simp [anyB]
  | succ n ih =>
    intro a hl he
    match a, hl, he with
    | [], _, _ => simp [anyB]
    | [_], _, he => simp at he
    | x :: y :: t, hl, he =>
      simp only [List.cons_append, anyB]
      by_cases h : x ≤ r ∧ r ≤ y
      · rw [if_pos h, if_pos h]; rfl
      · rw [if_neg h, if_neg h]
        exact ih t (by simp at hl; omega) (by simp at he; omega)

theorem anyB_high (r c : Int) (hc : c < r) : ∀ (l : List Int), (∀ x ∈ l, x ≤ c) → anyB r l = false := by
  intro l
  suffices h : ∀ n (l : List Int), l.length ≤ n → (∀ x ∈ l, x ≤ c) → anyB r l = false from h l.length l (Nat.le_refl _)
  intro n
  induction n with
  | zero => intro l hl _; exact anyB_short r l (by omega)
  | succ n ih =>
    intro l hl ha
    match l, hl, ha with
    | [], _, _ => rfl
    | [_], _, _ => rfl
    | a :: b :: t, hl, ha =>
      have h2 := ha b (by simp)
      rw [anyB, if_neg (by omega)]
      exact ih t (by simp at hl; omega) (fun x hx => ha x (by simp [hx]))

def azL : List Int := [65, 90, 97, 122]
def farL : List Int := [0xaa, 0xaa, 0xb5, 0xb5, 0xba, 0xba, 0xc0, 0xd6, 0xd8, 0xf6, 0xf8, 0x2c1, 0x370, 0x373, 0x386, 0x386, 0x388, 0x3ff, 0x400, 0x481, 0x48a, 0x52f, 0x531, 0x556, 0x5d0, 0x5ea, 0x620, 0x64a, 0x904, 0x939, 0xe01, 0xe30, 0x1e00, 0x1fff, 0x3041, 0x3096, 0x30a1, 0x30fa, 0x3400, 0x4dbf, 0x4e00, 0x9fff, 0xac00, 0xd7a3, 0x20000, 0x2a6df]
def startL : List Int := [65, 90, 97, 122, 0xaa, 0xaa, 0xb5, 0xb5, 0xba, 0xba, 0xc0, 0xd6, 0xd8, 0xf6, 0xf8, 0x2c1, 0x370, 0x373, 0x386, 0x386, 0x388, 0x3ff, 0x400, 0x481, 0x48a, 0x52f, 0x531, 0x556, 0x5d0, 0x5ea, 0x620, 0x64a, 0x904, 0x939, 0xe01, 0xe30, 0x1e00, 0x1fff, 0x3041, 0x3096, 0x30a1, 0x30fa, 0x3400, 0x4dbf, 0x4e00, 0x9fff, 0xac00, 0xd7a3, 0x20000, 0x2a6df]
def moreL : List Int := [48, 57, 0x300, 0x36f, 0x483, 0x487, 0x660, 0x669, 0x966, 0x96f, 0x200c, 0x200d, 0xff10, 0xff19]
def endsL : List Int := [10, 10, 13, 13, 0x2028, 0x2029]
def blankL : List Int := [9, 9, 11, 12, 32, 32, 0xa0, 0xa0, 0x1680, 0x1680, 0x2000, 0x200a, 0x202f, 0x202f, 0x205f, 0x205f, 0x3000, 0x3000, 0xfeff, 0xfeff]
def wideL : List Int := [0x1100, 0x115f, 0x2e80, 0x303e, 0x3041, 0x33ff, 0x3400, 0x4dbf, 0x4e00, 0x9fff, 0xa000, 0xa4cf, 0xac00, 0xd7a3, 0xf900, 0xfaff, 0xfe30, 0xfe6f, 0xff00, 0xff60, 0xffe0, 0xffe6, 0x1f300, 0x1f64f, 0x1f900, 0x1f9ff, 0x20000, 0x3fffd]

/-- A name may begin with it. -/
def startB (r : Int) : Bool := r == 36 || r == 95 || anyB r startL
/-- It may follow in a name. -/
def partB (r : Int) : Bool := startB r || anyB r moreL
def endsB (r : Int) : Bool := anyB r endsL
def blankB (r : Int) : Bool := anyB r blankL
def wideB (r : Int) : Bool := anyB r wideL

theorem start_near (r : Int) (h : r < 128) : (r == 36 || r == 95 || ascB r azL) = startB r := by
  unfold startB
  rw [show startL = azL ++ farL from rfl, anyB_append _ _ _ (by decide), anyB_low r farL 128 (by decide) h, ascB_eq _ _ (by decide), Bool.or_false]
theorem start_far (r : Int) (h : ¬ r < 128) : ascB r farL = startB r := by
  unfold startB
  rw [show startL = azL ++ farL from rfl, anyB_append _ _ _ (by decide), anyB_high r 127 (by omega) azL (by decide), ascB_eq _ _ (by decide), Bool.false_or,
    beq_eq_false_iff_ne.2 (by omega), beq_eq_false_iff_ne.2 (by omega), Bool.false_or, Bool.false_or]
theorem more_asc (r : Int) : ascB r moreL = anyB r moreL := ascB_eq _ _ (by decide)
theorem ends_asc (r : Int) : ascB r endsL = endsB r := ascB_eq _ _ (by decide)
theorem blank_asc (r : Int) : ascB r blankL = blankB r := ascB_eq _ _ (by decide)
theorem wide_asc (r : Int) : ascB r wideL = wideB r := ascB_eq _ _ (by decide)

/-- The ranges, as pairs. -/
def pairsOf : List Int → List (Int × Int)
  | a :: b :: t => (a, b) :: pairsOf t
  | _ => []

theorem anyB_mem (r : Int) : ∀ (l : List Int), anyB r l = true → ∃ p ∈ pairsOf l, p.1 ≤ r ∧ r ≤ p.2 := by
  intro l
  suffices h : ∀ n (l : List Int), l.length ≤ n → anyB r l = true → ∃ p ∈ pairsOf l, p.1 ≤ r ∧ r ≤ p.2 from h l.length l (Nat.le_refl _)
  intro n
  induction n with
  | zero => intro l hl h; rw [anyB_short r l (by omega)] at h; exact absurd h (by decide)
  | succ n ih =>
    intro l hl h
    match l, hl, h with
    | [], _, h => exact absurd h (by simp [anyB])
    | [_], _, h => exact absurd h (by simp [anyB])
    | a :: b :: t, hl, h =>
      rw [anyB] at h
      by_cases c : a ≤ r ∧ r ≤ b
      · exact ⟨(a, b), by simp [pairsOf], c⟩
      · rw [if_neg c] at h
        obtain ⟨p, hp, hq⟩ := ih t (by simp at hl; omega) h
        exact ⟨p, by simp [pairsOf, hp], hq⟩

/-- Does no range of one list meet one of the other? -/
def apartB (l m : List Int) : Bool := (pairsOf l).all fun p => (pairsOf m).all fun q => decide (p.2 < q.1) || decide (q.2 < p.1)

theorem apart_of (r : Int) (l m : List Int) (h : apartB l m = true) (hl : anyB r l = true) : anyB r m = false := by
  cases hm : anyB r m with
  | false => rfl
  | true =>
    obtain ⟨p, hp, p1, p2⟩ := anyB_mem r l hl
    obtain ⟨q, hq, q1, q2⟩ := anyB_mem r m hm
    have := List.all_eq_true.1 (List.all_eq_true.1 h p hp) q hq
    simp only [Bool.or_eq_true, decide_eq_true_eq] at this
    omega

def partL : List Int := [36, 36, 95, 95] ++ (startL ++ moreL)

theorem pair_one (r a : Int) (t : List Int) : anyB r (a :: a :: t) = (r == a || anyB r t) := by
  rw [anyB]
  by_cases h : r = a
  · rw [if_pos (by omega), beq_iff_eq.2 h]; rfl
  · rw [if_neg (by omega), beq_eq_false_iff_ne.2 h]; rfl

theorem part_any_of (r : Int) : partB r = anyB r partL := by
  rw [partL, anyB_append _ _ _ (by decide), anyB_append _ _ _ (by decide), pair_one, pair_one, partB, startB, show anyB r [] = false from rfl, Bool.or_false]
  simp only [Bool.or_assoc]

/-- A range of letters: each in it is one, and what stands beside it is none. -/
theorem in_block (r a b : Int) (hm : (a, b) ∈ pairsOf startL) (h : a ≤ r ∧ r ≤ b) : startB r = true := by
  have key : ∀ (l : List Int), (a, b) ∈ pairsOf l → anyB r l = true := by
    intro l
    suffices h : ∀ n (l : List Int), l.length ≤ n → (a, b) ∈ pairsOf l → anyB r l = true from h l.length l (Nat.le_refl _)
    intro n
    induction n with
    | zero =>
      intro l hl hm
      match l, hl, hm with
      | [], _, hm => simp [pairsOf] at hm
    | succ n ih =>
      intro l hl hm
      match l, hl, hm with
      | [], _, hm => simp [pairsOf] at hm
      | [_], _, hm => simp [pairsOf] at hm
      | x :: y :: t, hl, hm =>
        rw [anyB]
        by_cases c : x ≤ r ∧ r ≤ y
        · rw [if_pos c]
        · rw [if_neg c]
          simp only [pairsOf, List.mem_cons, Prod.mk.injEq] at hm
          rcases hm with ⟨rfl, rfl⟩ | hm
          · exact absurd h c
          · exact ih t (by simp at hl; omega) hm
  rw [startB, key startL hm, Bool.or_true]

theorem part_ends (r : Int) (h : partB r = true) : endsB r = false := apart_of r partL endsL (by decide) (by rw [← part_any_of]; exact h)
theorem part_blank (r : Int) (h : partB r = true) : blankB r = false := apart_of r partL blankL (by decide) (by rw [← part_any_of]; exact h)
theorem ends_blank (r : Int) (h : endsB r = true) : blankB r = false := apart_of r endsL blankL (by decide) h
theorem start_part (r : Int) (h : startB r = true) : partB r = true := by rw [partB, h]; rfl

theorem in_range (r : Int) (l : List Int) (h : anyB r l = true) (hl : ((pairsOf l).all fun p => decide (0 ≤ p.1) && decide (p.2 ≤ 1114111)) = true) : 0 ≤ r ∧ r ≤ 1114111 := by
  obtain ⟨p, hp, p1, p2⟩ := anyB_mem r l h
  have := List.all_eq_true.1 hl p hp
  simp only [Bool.and_eq_true, decide_eq_true_eq] at this
  omega
theorem part_range (r : Int) (h : partB r = true) : 0 ≤ r ∧ r ≤ 1114111 := in_range r partL (by rw [← part_any_of]; exact h) (by decide)
theorem ends_range (r : Int) (h : endsB r = true) : 0 ≤ r ∧ r ≤ 1114111 := in_range r endsL h (by decide)
theorem blank_range (r : Int) (h : blankB r = true) : 0 ≤ r ∧ r ≤ 1114111 := in_range r blankL h (by decide)

end Uni
end Go.Proofs.YtcalgpkcefccmaaDoor
