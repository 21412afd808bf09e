/-
  Plain mathematics of numeric literals: no program is named here.
-/
namespace Go.Proofs.YtggibhlmnfodaaaDoor
namespace Num

/-- What a byte is worth as a digit; 99: it is none. -/
def valN (c : UInt8) : Nat :=
  if 48 ≤ c.toNat ∧ c.toNat ≤ 57 then c.toNat - 48
  else if 97 ≤ c.toNat ∧ c.toNat ≤ 102 then c.toNat - 87
  else if 65 ≤ c.toNat ∧ c.toNat ≤ 70 then c.toNat - 55 else 99

def headDig (b : Nat) : List UInt8 → Bool
  | [] => false
  | d :: _ => decide (valN d < b)

/-- How many bytes of digits (with _ between two) stand at the head; none: a _ stands wrong. -/
def runL (b : Nat) : Bool → List UInt8 → Option Nat
  | _, [] => some 0
  | prev, c :: t =>
    if valN c < b then (runL b true t).map (· + 1)
    else if c = 95 then (if prev = true ∧ headDig b t = true then (runL b false t).map (· + 1) else none)
    else some 0

/-- The small letter of a letter. -/
def lowN (c : UInt8) : UInt8 := if 65 ≤ c.toNat ∧ c.toNat ≤ 90 then c + 32 else c
/-- The base that a small letter stands for. -/
def radN (c : UInt8) : Nat := if c = 120 then 16 else if c = 111 then 8 else if c = 98 then 2 else 0
def digN (c : UInt8) : Bool := decide (48 ≤ c.toNat ∧ c.toNat ≤ 57)

def plainL (l : List UInt8) : List UInt8 := l.filter (fun c => c != 95)
def aheadL (l : List UInt8) : List UInt8 := l.dropWhile (fun c => c == 48)

structure Parts where
  base : Nat
  whole : List UInt8
  dot : Bool
  frac : List UInt8
  exp : Bool
  sgn : List UInt8
  pow : List UInt8
  big : Bool
deriving DecidableEq

def signL : List UInt8 → List UInt8 × List UInt8
  | [] => ([], [])
  | c :: t => if c = 43 ∨ c = 45 then ([c], t) else ([], c :: t)

def expOf (w : List UInt8) (dot : Bool) (f : List UInt8) : List UInt8 → Option Parts
  | [] => some ⟨10, w, dot, f, false, [], [], false⟩
  | c :: t =>
    if c = 101 ∨ c = 69 then
      match runL 10 false (signL t).2 with
      | none => none
      | some k =>
        if k = 0 ∨ 9 < (aheadL (plainL ((signL t).2.take k))).length ∨ (signL t).2.drop k ≠ [] then none
        else some ⟨10, w, dot, f, true, (signL t).1, (signL t).2.take k, false⟩
    else none

def tailOf (w : List UInt8) : List UInt8 → Option Parts
  | [] => if w = [] then none else some ⟨10, w, false, [], false, [], [], false⟩
  | c :: t =>
    if c = 110 ∧ w ≠ [] then (if t = [] then some ⟨10, w, false, [], false, [], [], true⟩ else none)
    else if c = 46 then
      match runL 10 false t with
      | none => none
      | some k => if w = [] ∧ k = 0 then none else expOf w true (t.take k) (t.drop k)
    else if w = [] then none else expOf w false [] (c :: t)

def decOf (l : List UInt8) : Option Parts :=
  match runL 10 false l with
  | none => none
  | some i => if 1 < i ∧ l.head? = some 48 then none else tailOf (l.take i) (l.drop i)

def bigT : List UInt8 → Bool
  | [] => true
  | [c] => c == 110
  | _ => false

def baseOf (r : Nat) (t : List UInt8) : Option Parts :=
  match runL r false t with
  | none => none
  | some k =>
    if k = 0 ∨ bigT (t.drop k) = false then none
    else some ⟨r, t.take k, false, [], false, [], [], t.drop k != []⟩

/-- The parts of a literal; none: it is none. -/
def ofL : List UInt8 → Option Parts
  | a :: b :: t => if a = 48 ∧ radN (lowN b) ≠ 0 then baseOf (radN (lowN b)) t else decOf (a :: b :: t)
  | l => decOf l

/-! ### The machine -/

def manN (st : Nat) (c : UInt8) : Nat :=
  if st = 0 then (if c = 48 then 1 else if digN c then 2 else if c = 46 then 4 else 16)
  else if st = 1 ∧ radN (lowN c) ≠ 0 then 12
  else if st = 1 ∧ (digN c ∨ c = 95) then 16
  else if (st = 1 ∨ st = 2) ∧ digN c then 2
  else if (st = 1 ∨ st = 2) ∧ c = 95 then 3
  else if (st = 1 ∨ st = 2) ∧ c = 46 then 5
  else if (st = 1 ∨ st = 2) ∧ c = 110 then 15
  else if (st = 1 ∨ st = 2 ∨ st = 5 ∨ st = 6) ∧ lowN c = 101 then 8
  else if st = 6 ∧ c = 95 then 7
  else if (st = 1 ∨ st = 2 ∨ st = 5 ∨ st = 6 ∨ st = 4 ∨ st = 7) ∧ digN c then 6
  else if st = 3 ∧ digN c then 2 else 16

def powN (st : Nat) (c : UInt8) : Nat :=
  if st = 8 ∧ (c = 43 ∨ c = 45) then 9
  else if (st = 8 ∨ st = 9 ∨ st = 11) ∧ digN c then 10
  else if st = 10 ∧ c = 95 then 11
  else if st = 10 ∧ digN c then 10 else 16

def basN (st : Nat) (base c : UInt8) : Nat :=
  if st = 13 ∧ c = 95 then 14
  else if st = 13 ∧ c = 110 then 15
  else if (st = 13 ∨ st = 12 ∨ st = 14) ∧ valN c < radN base then 13 else 16

def nextN (st : Nat) (base c : UInt8) : Nat :=
  if 12 ≤ st then basN st base c else if 8 ≤ st then powN st c else manN st c

def plN (st' : Nat) (p : Nat) (c : UInt8) : Nat := if st' = 10 ∧ (0 < p ∨ c ≠ 48) then p + 1 else p
def baN (st' : Nat) (base c : UInt8) : UInt8 := if st' = 12 then lowN c else base
def stN (st' p' : Nat) : Nat := if st' = 10 ∧ 9 < p' then 16 else st'

def finN (st : Nat) : Bool := st == 1 || st == 2 || st == 5 || st == 6 || st == 10 || st == 13 || st == 15

def accL (st : Nat) (base : UInt8) (p : Nat) : List UInt8 → Bool
  | [] => finN st
  | c :: t =>
    if stN (nextN st base c) (plN (nextN st base c) p c) = 16 then false
    else accL (stN (nextN st base c) (plN (nextN st base c) p c)) (baN (nextN st base c) base c) (plN (nextN st base c) p c) t

theorem val_under : valN 95 = 99 := by decide
theorem dig_val (c : UInt8) : digN c = decide (valN c < 10) := by
  unfold digN valN
  rw [Bool.eq_iff_iff]; simp only [decide_eq_true_eq]
  repeat' split
  all_goals omega

theorem acc15 (base : UInt8) (p : Nat) (l : List UInt8) : accL 15 base p l = (l == []) := by
  cases l with
  | nil => rfl
  | cons c t => simp [accL, nextN, basN, stN, plN]

theorem acc_cons (st : Nat) (base : UInt8) (p : Nat) (c : UInt8) (t : List UInt8) : accL st base p (c :: t) =
    if stN (nextN st base c) (plN (nextN st base c) p c) = 16 then false
    else accL (stN (nextN st base c) (plN (nextN st base c) p c)) (baN (nextN st base c) base c) (plN (nextN st base c) p c) t := rfl

theorem pl_ne (n p : Nat) (c : UInt8) (h : n ≠ 10) : plN n p c = p := by rw [plN, if_neg (fun x => h x.1)]
theorem st_ne (n p : Nat) (h : n ≠ 10) : stN n p = n := by rw [stN, if_neg (fun x => h x.1)]
theorem ba_ne (n : Nat) (base c : UInt8) (h : n ≠ 12) : baN n base c = base := by rw [baN, if_neg h]

/-- A step to a state that neither counts nor keeps a letter. -/
theorem acc_to (st : Nat) (base : UInt8) (p : Nat) (c : UInt8) (t : List UInt8) (n : Nat) (h : nextN st base c = n) (h1 : n ≠ 10) (h2 : n ≠ 12) (h3 : n ≠ 16) :
    accL st base p (c :: t) = accL n base p t := by
  rw [acc_cons, h, st_ne _ _ h1, if_neg h3, ba_ne _ _ _ h2, pl_ne _ _ _ h1]
theorem acc_no (st : Nat) (base : UInt8) (p : Nat) (c : UInt8) (t : List UInt8) (h : nextN st base c = 16) : accL st base p (c :: t) = false := by
  rw [acc_cons, h, st_ne _ _ (by decide), if_pos rfl]

theorem next13 (base c : UInt8) : nextN 13 base c = if c = 95 then 14 else if c = 110 then 15 else if valN c < radN base then 13 else 16 := by
  simp [nextN, basN]
theorem next14 (base c : UInt8) : nextN 14 base c = if valN c < radN base then 13 else 16 := by
  simp [nextN, basN]
theorem next12 (base c : UInt8) : nextN 12 base c = if valN c < radN base then 13 else 16 := by
  simp [nextN, basN]
theorem rad_le (c : UInt8) : radN c ≤ 16 := by
  unfold radN
  repeat' split
  all_goals omega

theorem acc14 (base : UInt8) (p : Nat) (d : UInt8) (u : List UInt8) : accL 14 base p (d :: u) = if valN d < radN base then accL 13 base p u else false := by
  by_cases h : valN d < radN base
  · rw [if_pos h, acc_to _ _ _ _ _ 13 (by rw [next14, if_pos h]) (by decide) (by decide) (by decide)]
  · rw [if_neg h, acc_no _ _ _ _ _ (by rw [next14, if_neg h])]
theorem acc12 (base : UInt8) (p : Nat) (d : UInt8) (u : List UInt8) : accL 12 base p (d :: u) = if valN d < radN base then accL 13 base p u else false := by
  by_cases h : valN d < radN base
  · rw [if_pos h, acc_to _ _ _ _ _ 13 (by rw [next12, if_pos h]) (by decide) (by decide) (by decide)]
  · rw [if_neg h, acc_no _ _ _ _ _ (by rw [next12, if_neg h])]

/-- What stands behind a run: the rest's own condition. -/
def behind (b : Nat) (prev : Bool) (l : List UInt8) (T : Nat → List UInt8 → Bool) : Bool :=
  match runL b prev l with
  | none => false
  | some k => T k (l.drop k)

theorem behind_nil (b : Nat) (prev : Bool) (T) : behind b prev [] T = T 0 [] := rfl
theorem behind_dig (b : Nat) (prev : Bool) (c : UInt8) (t : List UInt8) (T) (h : valN c < b) : behind b prev (c :: t) T = behind b true t (fun k => T (k + 1)) := by
  unfold behind
  rw [runL, if_pos h]
  cases runL b true t <;> rfl
theorem behind_under (b : Nat) (hb : b ≤ 99) (c d : UInt8) (u : List UInt8) (T) (hc : c = 95) (h : valN d < b) : behind b true (c :: d :: u) T = behind b true u (fun k => T (k + 2)) := by
  subst hc
  unfold behind
  rw [runL, if_neg (by rw [val_under]; omega), if_pos rfl, if_pos ⟨rfl, by simpa [headDig] using h⟩, runL, if_pos h]
  cases runL b true u <;> rfl
theorem behind_wrong (b : Nat) (hb : b ≤ 99) (prev : Bool) (c : UInt8) (t : List UInt8) (T) (hc : c = 95) (h : prev = false ∨ headDig b t = false) : behind b prev (c :: t) T = false := by
  subst hc
  unfold behind
  rw [runL, if_neg (by rw [val_under]; omega), if_pos rfl, if_neg (by rcases h with h | h <;> simp [h])]
theorem behind_stop (b : Nat) (prev : Bool) (c : UInt8) (t : List UInt8) (T) (h : ¬ valN c < b) (hc : c ≠ 95) : behind b prev (c :: t) T = T 0 (c :: t) := by
  unfold behind
  rw [runL, if_neg h, if_neg hc]
  rfl

/-- A state that stands behind a digit of a run, and the one behind a _: whatever follows the run is T's. -/
theorem acc_run (b : Nat) (hb : b ≤ 99) (base : UInt8) (p : Nat) (st gap : Nat) (T : List UInt8 → Bool)
    (hnil : T [] = finN st) (hgap : accL gap base p [] = false)
    (hd : ∀ c t, valN c < b → accL st base p (c :: t) = accL st base p t)
    (hu : ∀ t, accL st base p (95 :: t) = accL gap base p t)
    (hg : ∀ d t, accL gap base p (d :: t) = if valN d < b then accL st base p t else false)
    (ho : ∀ c t, ¬ valN c < b → c ≠ 95 → accL st base p (c :: t) = T (c :: t)) :
    ∀ l, accL st base p l = behind b true l (fun _ => T) := by
  intro l
  suffices h : ∀ n (l : List UInt8), l.length ≤ n → accL st base p l = behind b true l (fun _ => T) from h l.length l (Nat.le_refl _)
  intro n
  induction n with
  | zero =>
    intro l hl
    match l, hl with
    | [], _ => rw [behind_nil, hnil]; rfl
  | succ n ih =>
    intro l hl
    match l, hl with
    | [], _ => rw [behind_nil, hnil]; rfl
    | c :: t, hl =>
      by_cases hc : valN c < b
      · rw [hd c t hc, behind_dig _ _ _ _ _ hc]
        exact ih t (by simp at hl; omega)
      · by_cases h95 : c = 95
        · subst h95
          rw [hu]
          match t, hl with
          | [], _ => rw [hgap, behind_wrong _ hb _ _ _ _ rfl (Or.inr rfl)]
          | d :: u, hl =>
            rw [hg]
            by_cases hdv : valN d < b
            · rw [if_pos hdv, behind_under _ hb _ _ _ _ rfl hdv]
              exact ih u (by simp at hl; omega)
            · rw [if_neg hdv, behind_wrong _ hb _ _ _ _ rfl (Or.inr (by simp [headDig, hdv]))]
        · rw [ho c t hc h95, behind_stop _ _ _ _ _ hc h95]

theorem acc13 (base : UInt8) (p : Nat) : ∀ l, accL 13 base p l = behind (radN base) true l (fun _ => bigT) := by
  have hr := rad_le base
  refine acc_run (radN base) (by omega) base p 13 14 bigT rfl rfl ?_ ?_ ?_ ?_
  · intro c t h
    refine acc_to _ _ _ _ _ 13 ?_ (by decide) (by decide) (by decide)
    rw [next13, if_neg (by intro e; rw [e, val_under] at h; omega), if_neg (by intro e; rw [e, show valN 110 = 99 from by decide] at h; omega), if_pos h]
  · intro t
    exact acc_to _ _ _ _ _ 14 (by rw [next13, if_pos rfl]) (by decide) (by decide) (by decide)
  · intro d t; exact acc14 _ _ _ _
  · intro c t h h95
    by_cases e : c = 110
    · subst e
      rw [acc_to _ _ _ _ _ 15 (by rw [next13, if_neg (by decide), if_pos rfl]) (by decide) (by decide) (by decide), acc15]
      cases t <;> rfl
    · rw [acc_no _ _ _ _ _ (by rw [next13, if_neg h95, if_neg e, if_neg h])]
      cases t with
      | nil => simp [bigT, e]
      | cons _ _ => rfl

/-- The digits of an exponent that count. -/
def plAll (p : Nat) : List UInt8 → Nat
  | [] => p
  | c :: t => if c = 95 then plAll p t else plAll (if 0 < p ∨ c ≠ 48 then p + 1 else p) t

theorem plAll_le (l : List UInt8) : ∀ p, p ≤ plAll p l := by
  induction l with
  | nil => intro p; exact Nat.le_refl _
  | cons c t ih =>
    intro p
    rw [plAll]
    split
    · exact ih p
    · have := ih (if 0 < p ∨ c ≠ 48 then p + 1 else p)
      split at this <;> split <;> omega

theorem next10 (base c : UInt8) : nextN 10 base c = if c = 95 then 11 else if digN c then 10 else 16 := by
  simp [nextN, powN]
theorem next11 (base c : UInt8) : nextN 11 base c = if digN c then 10 else 16 := by
  simp [nextN, powN]
theorem next9 (base c : UInt8) : nextN 9 base c = if digN c then 10 else 16 := by
  simp [nextN, powN]
theorem next8 (base c : UInt8) : nextN 8 base c = if c = 43 ∨ c = 45 then 9 else if digN c then 10 else 16 := by
  simp [nextN, powN]

/-- A digit of the exponent. -/
theorem acc_count (st : Nat) (base : UInt8) (p : Nat) (c : UInt8) (t : List UInt8) (h : nextN st base c = 10) (hc : c ≠ 95) :
    accL st base p (c :: t) = if 9 < plAll p [c] then false else accL 10 base (plAll p [c]) t := by
  have e : plN 10 p c = plAll p [c] := by
    simp [plN, plAll, hc]
  rw [acc_cons, h, e, ba_ne _ _ _ (by decide)]
  by_cases g : 9 < plAll p [c]
  · rw [show stN 10 (plAll p [c]) = 16 from by rw [stN, if_pos ⟨rfl, g⟩], if_pos rfl, if_pos g]
  · rw [show stN 10 (plAll p [c]) = 10 from by rw [stN, if_neg (fun x => g x.2)], if_neg (by decide), if_neg g]

def expT (p : Nat) (l : List UInt8) (k : Nat) (r : List UInt8) : Bool := r == [] && decide (plAll p (l.take k) ≤ 9)

theorem plAll_cons (p : Nat) (c : UInt8) (t : List UInt8) (h : c ≠ 95) : plAll p (c :: t) = plAll (plAll p [c]) t := by
  simp [plAll, h]
theorem plAll_under (p : Nat) (t : List UInt8) : plAll p (95 :: t) = plAll p t := by simp [plAll]

theorem behind_congr (b : Nat) (prev : Bool) (l : List UInt8) (T U : Nat → List UInt8 → Bool) (h : ∀ k, T k (l.drop k) = U k (l.drop k)) : behind b prev l T = behind b prev l U := by
  unfold behind
  cases runL b prev l with
  | none => rfl
  | some k => exact h k
theorem behind_false (b : Nat) (prev : Bool) (l : List UInt8) : behind b prev l (fun _ _ => false) = false := by
  unfold behind
  cases runL b prev l <;> rfl

theorem acc10 (base : UInt8) : ∀ l p, p ≤ 9 → accL 10 base p l = behind 10 true l (expT p l) := by
  intro l
  suffices h : ∀ n (l : List UInt8), l.length ≤ n → ∀ p, p ≤ 9 → accL 10 base p l = behind 10 true l (expT p l) from h l.length l (Nat.le_refl _)
  have nodig : ∀ c : UInt8, valN c < 10 → c ≠ 95 := by intro c h e; rw [e, val_under] at h; omega
  intro n
  induction n with
  | zero =>
    intro l hl p hp
    match l, hl with
    | [], _ => rw [behind_nil]; simp [expT, plAll, hp, accL, finN]
  | succ n ih =>
    intro l hl p hp
    match l, hl with
    | [], _ => rw [behind_nil]; simp [expT, plAll, hp, accL, finN]
    | c :: t, hl =>
      by_cases hc : valN c < 10
      · have h95 := nodig c hc
        rw [acc_count _ _ _ _ _ (by rw [next10, if_neg h95, if_pos (by rw [dig_val]; simpa using hc)]) h95, behind_dig _ _ _ _ _ hc]
        by_cases g : 9 < plAll p [c]
        · rw [if_pos g, ← behind_false 10 true t]
          refine behind_congr _ _ _ _ _ (fun k => ?_)
          have := plAll_le (t.take k) (plAll p [c])
          rw [expT, List.take_succ_cons, plAll_cons _ _ _ h95]
          rw [decide_eq_false (by omega), Bool.and_false]
        · rw [if_neg g, ih t (by simp at hl; omega) _ (by omega)]
          refine behind_congr _ _ _ _ _ (fun k => ?_)
          rw [expT, expT, List.take_succ_cons, plAll_cons p c (t.take k) h95]
      · by_cases h95 : c = 95
        · subst h95
          rw [acc_to _ _ _ _ _ 11 (by rw [next10, if_pos rfl]) (by decide) (by decide) (by decide)]
          match t, hl with
          | [], _ => rw [behind_wrong _ (by decide) _ _ _ _ rfl (Or.inr rfl)]; rfl
          | d :: u, hl =>
            by_cases hdv : valN d < 10
            · have h95' := nodig d hdv
              rw [acc_count _ _ _ _ _ (by rw [next11, if_pos (by rw [dig_val]; simpa using hdv)]) h95', behind_under _ (by decide) _ _ _ _ rfl hdv]
              by_cases g : 9 < plAll p [d]
              · rw [if_pos g, ← behind_false 10 true u]
                refine behind_congr _ _ _ _ _ (fun k => ?_)
                have := plAll_le (u.take k) (plAll p [d])
                rw [expT, List.take_succ_cons, List.take_succ_cons, plAll_under, plAll_cons _ _ _ h95']
                rw [decide_eq_false (by omega), Bool.and_false]
              · rw [if_neg g, ih u (by simp at hl; omega) _ (by omega)]
                refine behind_congr _ _ _ _ _ (fun k => ?_)
                rw [expT, expT, List.take_succ_cons, List.take_succ_cons, plAll_under, plAll_cons p d (u.take k) h95']
            · rw [acc_no _ _ _ _ _ (by rw [next11, if_neg (by rw [dig_val]; simpa using hdv)]), behind_wrong _ (by decide) _ _ _ _ rfl (Or.inr (by simp [headDig, hdv]))]
        · rw [acc_no _ _ _ _ _ (by rw [next10, if_neg h95, if_neg (by rw [dig_val]; simpa using hc)]), behind_stop _ _ _ _ _ hc h95]
          simp [expT]

theorem plAll_pos (l : List UInt8) : ∀ p, 0 < p → plAll p l = p + (plainL l).length := by
  induction l with
  | nil => intro p _; simp [plAll, plainL]
  | cons c t ih =>
    intro p hp
    by_cases h : c = 95
    · subst h; rw [plAll_under, ih p hp]; rfl
    · rw [plAll, if_neg h, if_pos (Or.inl hp), ih _ (by omega)]
      simp [plainL, h]
      omega
theorem plAll_zero (l : List UInt8) : plAll 0 l = (aheadL (plainL l)).length := by
  induction l with
  | nil => rfl
  | cons c t ih =>
    by_cases h : c = 95
    · subst h; rw [plAll_under, ih]; rfl
    · by_cases h0 : c = 48
      · subst h0; rw [plAll, if_neg h, if_neg (by simp), ih]; rfl
      · rw [plAll, if_neg h, if_pos (Or.inr h0), plAll_pos _ _ (by omega)]
        simp [plainL, aheadL, h, h0]
        omega

/-- What may stand behind an integer part and a fraction. -/
def expB (r : List UInt8) : Bool := (expOf [] false [] r).isSome
theorem expOf_some (w : List UInt8) (d : Bool) (f r : List UInt8) : (expOf w d f r).isSome = expB r := by
  unfold expB
  cases r with
  | nil => rfl
  | cons c t =>
    simp only [expOf]
    split
    · cases runL 10 false (signL t).2 with
      | none => rfl
      | some k => simp only []; split <;> rfl
    · rfl
theorem expB_cons (c : UInt8) (t : List UInt8) : expB (c :: t) = (decide (c = 101 ∨ c = 69) && behind 10 false (signL t).2 (fun k r => k != 0 && expT 0 (signL t).2 k r)) := by
  unfold expB behind
  simp only [expOf]
  by_cases h : c = 101 ∨ c = 69
  · rw [if_pos h, decide_eq_true h, Bool.true_and]
    cases runL 10 false (signL t).2 with
    | none => rfl
    | some k =>
      simp only [expT, plAll_zero]
      by_cases h1 : k = 0
      · subst h1; simp
      · by_cases h2 : 9 < (aheadL (plainL ((signL t).2.take k))).length
        · rw [if_pos (Or.inr (Or.inl h2)), decide_eq_false (by omega)]; simp
        · by_cases h3 : (signL t).2.drop k = []
          · rw [if_neg (by rintro (x | x | x) <;> contradiction), decide_eq_true (by omega), h3]; simp [h1]
          · rw [if_pos (Or.inr (Or.inr h3))]; simp [h3]
  · rw [if_neg h, decide_eq_false h]; rfl

/-- The first digit of an exponent. -/
theorem acc_first (st : Nat) (base : UInt8) (l : List UInt8) (hnil : finN st = false) (h : ∀ c t, l = c :: t → nextN st base c = if digN c then 10 else 16) :
    accL st base 0 l = behind 10 false l (fun k r => k != 0 && expT 0 l k r) := by
  cases l with
  | nil => rw [behind_nil]; exact hnil
  | cons c t =>
    have hn := h c t rfl
    by_cases hc : valN c < 10
    · have h95 : c ≠ 95 := by intro e; rw [e, val_under] at hc; omega
      have h1 : plAll 0 [c] ≤ 1 := by rw [plAll_zero]; exact Nat.le_trans (List.dropWhile_sublist _).length_le (List.length_filter_le _ _)
      rw [acc_count _ _ _ _ _ (by rw [hn, if_pos (by rw [dig_val]; simpa using hc)]) h95, if_neg (by omega), acc10 _ _ _ (by omega), behind_dig _ _ _ _ _ hc]
      refine behind_congr _ _ _ _ _ (fun k => ?_)
      rw [expT, expT, List.take_succ_cons, plAll_cons 0 c (t.take k) h95]
      simp
    · rw [acc_no _ _ _ _ _ (by rw [hn, if_neg (by rw [dig_val]; simpa using hc)])]
      by_cases h95 : c = 95
      · rw [behind_wrong _ (by decide) _ _ _ _ h95 (Or.inl rfl)]
      · rw [behind_stop _ _ _ _ _ hc h95]; rfl

theorem acc8 (base : UInt8) (l : List UInt8) : accL 8 base 0 l = behind 10 false (signL l).2 (fun k r => k != 0 && expT 0 (signL l).2 k r) := by
  cases l with
  | nil => rfl
  | cons c t =>
    by_cases h : c = 43 ∨ c = 45
    · rw [acc_to _ _ _ _ _ 9 (by rw [next8, if_pos h]) (by decide) (by decide) (by decide)]
      rw [show (signL (c :: t)).2 = t from by simp [signL, h]]
      exact acc_first 9 base t rfl (fun c t _ => next9 base c)
    · rw [show (signL (c :: t)).2 = c :: t from by simp [signL, h]]
      exact acc_first 8 base (c :: t) rfl (fun d u e => by injection e with e1 e2; subst e1; rw [next8, if_neg h])

theorem low_e (c : UInt8) : lowN c = 101 ↔ c = 101 ∨ c = 69 := by
  have key : ∀ n : Fin 256, lowN (UInt8.ofNat n.val) = 101 ↔ UInt8.ofNat n.val = 101 ∨ UInt8.ofNat n.val = 69 := by decide +kernel
  have := key ⟨c.toNat, c.toNat_lt⟩
  simpa using this

theorem accE (base : UInt8) (st : Nat) (c : UInt8) (t : List UInt8) (h : nextN st base c = if lowN c = 101 then 8 else 16) : accL st base 0 (c :: t) = expB (c :: t) := by
  rw [expB_cons]
  by_cases e : lowN c = 101
  · rw [acc_to _ _ _ _ _ 8 (by rw [h, if_pos e]) (by decide) (by decide) (by decide), acc8, decide_eq_true ((low_e c).1 e), Bool.true_and]
  · rw [acc_no _ _ _ _ _ (by rw [h, if_neg e]), decide_eq_false (fun x => e ((low_e c).2 x)), Bool.false_and]

theorem next6 (base c : UInt8) : nextN 6 base c = if lowN c = 101 then 8 else if c = 95 then 7 else if digN c then 6 else 16 := by
  simp [nextN, manN]
theorem next7 (base c : UInt8) : nextN 7 base c = if digN c then 6 else 16 := by
  simp [nextN, manN]
theorem next5 (base c : UInt8) : nextN 5 base c = if lowN c = 101 then 8 else if digN c then 6 else 16 := by
  simp [nextN, manN]
theorem next4 (base c : UInt8) : nextN 4 base c = if digN c then 6 else 16 := by
  simp [nextN, manN]
theorem next3 (base c : UInt8) : nextN 3 base c = if digN c then 2 else 16 := by
  simp [nextN, manN]
theorem next2 (base c : UInt8) : nextN 2 base c = if digN c then 2 else if c = 95 then 3 else if c = 46 then 5 else if c = 110 then 15 else if lowN c = 101 then 8 else 16 := by
  simp only [nextN, manN]
  by_cases h : digN c <;> simp [h]
theorem next1 (base c : UInt8) : nextN 1 base c = if radN (lowN c) ≠ 0 then 12 else if digN c ∨ c = 95 then 16 else if c = 46 then 5 else if c = 110 then 15 else if lowN c = 101 then 8 else 16 := by
  simp only [nextN, manN]
  by_cases h : digN c <;> by_cases h2 : c = 95 <;> simp [h, h2]
theorem next0 (base c : UInt8) : nextN 0 base c = if c = 48 then 1 else if digN c then 2 else if c = 46 then 4 else 16 := by
  simp [nextN, manN]

theorem dig_not_e (c : UInt8) (h : valN c < 10) : lowN c ≠ 101 := by
  have hd := dig_val c
  rw [decide_eq_true h] at hd
  simp only [digN, decide_eq_true_eq] at hd
  intro e
  rcases (low_e c).1 e with rfl | rfl <;> simp at hd
theorem dig_of (c : UInt8) (h : valN c < 10) : digN c = true := by rw [dig_val, decide_eq_true h]
theorem dig_no (c : UInt8) (h : ¬ valN c < 10) : digN c = false := by rw [dig_val, decide_eq_false h]
theorem ne_of_dig (c d : UInt8) (h : valN c < 10) (hd : valN d = 99) : c ≠ d := by intro e; rw [e, hd] at h; omega

theorem acc6 (base : UInt8) : ∀ l, accL 6 base 0 l = behind 10 true l (fun _ => expB) := by
  refine acc_run 10 (by decide) base 0 6 7 expB rfl rfl ?_ ?_ ?_ ?_
  · intro c t h
    exact acc_to _ _ _ _ _ 6 (by rw [next6, if_neg (dig_not_e c h), if_neg (ne_of_dig c 95 h rfl), if_pos (dig_of c h)]) (by decide) (by decide) (by decide)
  · intro t
    exact acc_to _ _ _ _ _ 7 (by rw [next6, if_neg (by decide), if_pos rfl]) (by decide) (by decide) (by decide)
  · intro d t
    by_cases h : valN d < 10
    · rw [if_pos h]; exact acc_to _ _ _ _ _ 6 (by rw [next7, if_pos (dig_of d h)]) (by decide) (by decide) (by decide)
    · rw [if_neg h]; exact acc_no _ _ _ _ _ (by rw [next7, dig_no d h]; rfl)
  · intro c t h h95
    exact accE base 6 c t (by rw [next6, if_neg h95, dig_no c h]; rfl)

theorem acc5 (base : UInt8) (l : List UInt8) : accL 5 base 0 l = behind 10 false l (fun _ => expB) := by
  cases l with
  | nil => rfl
  | cons c t =>
    by_cases h : valN c < 10
    · rw [acc_to _ _ _ _ _ 6 (by rw [next5, if_neg (dig_not_e c h), if_pos (dig_of c h)]) (by decide) (by decide) (by decide), acc6, behind_dig _ _ _ _ _ h]
    · by_cases h95 : c = 95
      · rw [behind_wrong _ (by decide) _ _ _ _ h95 (Or.inl rfl)]
        subst h95
        exact acc_no _ _ _ _ _ (by rw [next5, if_neg (by decide), dig_no _ h]; rfl)
      · rw [behind_stop _ _ _ _ _ h h95]
        exact accE base 5 c t (by rw [next5, dig_no c h]; rfl)

theorem acc4 (base : UInt8) (l : List UInt8) : accL 4 base 0 l = behind 10 false l (fun k r => k != 0 && expB r) := by
  cases l with
  | nil => rfl
  | cons c t =>
    by_cases h : valN c < 10
    · rw [acc_to _ _ _ _ _ 6 (by rw [next4, if_pos (dig_of c h)]) (by decide) (by decide) (by decide), acc6, behind_dig _ _ _ _ _ h]
      exact behind_congr _ _ _ _ _ (fun k => by simp)
    · rw [acc_no _ _ _ _ _ (by rw [next4, dig_no _ h]; rfl)]
      by_cases h95 : c = 95
      · rw [behind_wrong _ (by decide) _ _ _ _ h95 (Or.inl rfl)]
      · rw [behind_stop _ _ _ _ _ h h95]; rfl

/-- What may stand behind an integer part. -/
def tailB (r : List UInt8) : Bool := (tailOf [48] r).isSome
theorem tailOf_some (w : List UInt8) (hw : w ≠ []) (r : List UInt8) : (tailOf w r).isSome = tailB r := by
  unfold tailB
  cases r with
  | nil => simp [tailOf, hw]
  | cons c t =>
    simp only [tailOf, hw]
    by_cases h1 : c = 110
    · simp only [h1]; by_cases h2 : t = [] <;> simp [h2, hw]
    · by_cases h2 : c = 46
      · simp only [h2]
        cases runL 10 false t with
        | none => simp
        | some k => simp [expOf_some, hw]
      · simp [h1, h2, expOf_some, hw]
theorem tailB_cons (c : UInt8) (t : List UInt8) : tailB (c :: t) = if c = 110 then t == [] else if c = 46 then behind 10 false t (fun _ => expB) else expB (c :: t) := by
  unfold tailB behind
  simp only [tailOf]
  by_cases h1 : c = 110
  · simp only [h1]; cases t <;> simp
  · by_cases h2 : c = 46
    · simp only [h2]
      cases runL 10 false t with
      | none => simp
      | some k => simp [expOf_some]
    · simp [h1, h2, expOf_some]

theorem accW (base : UInt8) (st : Nat) (c : UInt8) (t : List UInt8) (h : nextN st base c = if c = 46 then 5 else if c = 110 then 15 else if lowN c = 101 then 8 else 16) : accL st base 0 (c :: t) = tailB (c :: t) := by
  rw [tailB_cons]
  by_cases h1 : c = 46
  · rw [acc_to _ _ _ _ _ 5 (by rw [h, if_pos h1]) (by decide) (by decide) (by decide), acc5, if_neg (by rw [h1]; decide), if_pos h1]
  · by_cases h2 : c = 110
    · rw [acc_to _ _ _ _ _ 15 (by rw [h, if_neg h1, if_pos h2]) (by decide) (by decide) (by decide), acc15, if_pos h2]
    · rw [if_neg h2, if_neg h1]
      exact accE base st c t (by rw [h, if_neg h1, if_neg h2])

theorem acc2 (base : UInt8) : ∀ l, accL 2 base 0 l = behind 10 true l (fun _ => tailB) := by
  refine acc_run 10 (by decide) base 0 2 3 tailB rfl rfl ?_ ?_ ?_ ?_
  · intro c t h
    exact acc_to _ _ _ _ _ 2 (by rw [next2, if_pos (dig_of c h)]) (by decide) (by decide) (by decide)
  · intro t
    exact acc_to _ _ _ _ _ 3 (by rw [next2, dig_no 95 (by decide)]; rfl) (by decide) (by decide) (by decide)
  · intro d t
    by_cases h : valN d < 10
    · rw [if_pos h]; exact acc_to _ _ _ _ _ 2 (by rw [next3, if_pos (dig_of d h)]) (by decide) (by decide) (by decide)
    · rw [if_neg h]; exact acc_no _ _ _ _ _ (by rw [next3, dig_no d h]; rfl)
  · intro c t h h95
    exact accW base 2 c t (by rw [next2, dig_no c h, if_neg h95]; rfl)

theorem baseOf_some (r : Nat) (t : List UInt8) : (baseOf r t).isSome = behind r false t (fun k u => k != 0 && bigT u) := by
  unfold baseOf behind
  cases runL r false t with
  | none => rfl
  | some k =>
    by_cases h1 : k = 0
    · simp [h1]
    · cases h2 : bigT (t.drop k) <;> simp [h1, h2]

theorem accB (c : UInt8) (t : List UInt8) : accL 12 c 0 t = (baseOf (radN c) t).isSome := by
  have hr := rad_le c
  rw [baseOf_some]
  cases t with
  | nil => rw [behind_nil]; rfl
  | cons d u =>
    rw [acc12]
    by_cases h : valN d < radN c
    · rw [if_pos h, acc13, behind_dig _ _ _ _ _ h]
      exact behind_congr _ _ _ _ _ (fun k => by simp)
    · rw [if_neg h]
      by_cases h95 : d = 95
      · rw [behind_wrong _ (by omega) _ _ _ _ h95 (Or.inl rfl)]
      · rw [behind_stop _ _ _ _ _ h h95]; rfl

theorem low_rad (c : UInt8) (h : radN (lowN c) ≠ 0) : ¬ valN c < 10 ∧ c ≠ 95 ∧ c ≠ 46 ∧ c ≠ 110 ∧ lowN c ≠ 101 := by
  have key : ∀ n : Fin 256, radN (lowN (UInt8.ofNat n.val)) ≠ 0 → ¬ valN (UInt8.ofNat n.val) < 10 ∧ UInt8.ofNat n.val ≠ 95 ∧ UInt8.ofNat n.val ≠ 46 ∧ UInt8.ofNat n.val ≠ 110 ∧ lowN (UInt8.ofNat n.val) ≠ 101 := by decide +kernel
  have := key ⟨c.toNat, c.toNat_lt⟩
  simp only [UInt8.ofNat_toNat] at this
  exact this h

theorem take_ne (l : List UInt8) (k : Nat) (h : l ≠ []) : l.take (k + 1) ≠ [] := by cases l with | nil => exact absurd rfl h | cons _ _ => simp

theorem decOf_dig (c : UInt8) (t : List UInt8) (h : valN c < 10) (h0 : c ≠ 48) : (decOf (c :: t)).isSome = behind 10 true t (fun _ => tailB) := by
  unfold decOf behind
  rw [runL, if_pos h]
  cases runL 10 true t with
  | none => rfl
  | some k => simp [h0, tailOf_some]
theorem decOf_zero (t : List UInt8) : (decOf (48 :: t)).isSome = if headDig 10 t = true ∨ t.head? = some 95 then false else tailB t := by
  unfold decOf
  rw [runL, if_pos (by decide)]
  cases t with
  | nil => rfl
  | cons d u =>
    rw [runL]
    by_cases h : valN d < 10
    · rw [if_pos h, if_pos (Or.inl (by simp [headDig, h]))]
      cases runL 10 true u <;> simp
    · rw [if_neg h]
      by_cases h95 : d = 95
      · rw [if_pos h95, if_pos (Or.inr (by simp [h95]))]
        by_cases hq : true = true ∧ headDig 10 u = true
        · rw [if_pos hq]; cases runL 10 false u <;> simp
        · rw [if_neg hq]; rfl
      · rw [if_neg h95, if_neg (by simp [headDig, h, h95])]
        simp [tailOf_some]
theorem decOf_other (c : UInt8) (t : List UInt8) (h : ¬ valN c < 10) (h46 : c ≠ 46) : (decOf (c :: t)).isSome = false := by
  unfold decOf
  rw [runL, if_neg h]
  by_cases h95 : c = 95
  · rw [if_pos h95, if_neg (by simp)]; rfl
  · rw [if_neg h95]; simp [tailOf, h46]
theorem decOf_dot (t : List UInt8) : (decOf (46 :: t)).isSome = behind 10 false t (fun k r => k != 0 && expB r) := by
  unfold decOf behind
  rw [runL, if_neg (by decide), if_neg (by decide)]
  simp [tailOf]
  cases runL 10 false t with
  | none => rfl
  | some k => by_cases h : k = 0 <;> simp [h, expOf_some]

/-- What the machine takes is what has parts. -/
theorem acc_ofL (l : List UInt8) : accL 0 0 0 l = (ofL l).isSome := by
  match l with
  | [] => rfl
  | [c] =>
    show accL 0 0 0 [c] = (decOf [c]).isSome
    by_cases h0 : c = 48
    · subst h0; decide
    · by_cases h : valN c < 10
      · rw [acc_to _ _ _ _ _ 2 (by rw [next0, if_neg h0, if_pos (dig_of c h)]) (by decide) (by decide) (by decide), acc2, decOf_dig _ _ h h0]
      · by_cases h46 : c = 46
        · subst h46; decide
        · rw [acc_no _ _ _ _ _ (by rw [next0, if_neg h0, dig_no c h]; simp [h46]), decOf_other _ _ h h46]
  | c :: d :: t =>
    by_cases h0 : c = 48
    · subst h0
      rw [acc_to _ _ _ _ _ 1 (by rw [next0, if_pos rfl]) (by decide) (by decide) (by decide)]
      by_cases hr : radN (lowN d) ≠ 0
      · rw [show ofL (48 :: d :: t) = baseOf (radN (lowN d)) t from by rw [ofL, if_pos ⟨rfl, hr⟩], ← accB, acc_cons, next1, if_pos hr, st_ne _ _ (by decide), if_neg (by decide), pl_ne _ _ _ (by decide)]
        rfl
      · rw [show ofL (48 :: d :: t) = decOf (48 :: d :: t) from by rw [ofL, if_neg (fun x => hr x.2)], decOf_zero]
        by_cases hd : valN d < 10
        · rw [acc_no _ _ _ _ _ (by rw [next1, if_neg hr, if_pos (Or.inl (dig_of d hd))]), if_pos (Or.inl (by simp [headDig, hd]))]
        · by_cases h95 : d = 95
          · rw [acc_no _ _ _ _ _ (by rw [next1, if_neg hr, if_pos (Or.inr h95)]), if_pos (Or.inr (by simp [h95]))]
          · rw [if_neg (by simp [headDig, hd, h95])]
            exact accW 0 1 d t (by rw [next1, if_neg hr, if_neg (by simp [dig_no d hd, h95])])
    · rw [show ofL (c :: d :: t) = decOf (c :: d :: t) from by rw [ofL, if_neg (fun x => h0 x.1)]]
      by_cases h : valN c < 10
      · rw [acc_to _ _ _ _ _ 2 (by rw [next0, if_neg h0, if_pos (dig_of c h)]) (by decide) (by decide) (by decide), acc2, decOf_dig _ _ h h0]
      · by_cases h46 : c = 46
        · subst h46
          rw [acc_to _ _ _ _ _ 4 (by rw [next0, if_neg h0, dig_no _ h]; rfl) (by decide) (by decide) (by decide), acc4, decOf_dot]
        · rw [acc_no _ _ _ _ _ (by rw [next0, if_neg h0, dig_no c h]; simp [h46]), decOf_other _ _ h h46]

end Num
end Go.Proofs.YtggibhlmnfodaaaDoor
