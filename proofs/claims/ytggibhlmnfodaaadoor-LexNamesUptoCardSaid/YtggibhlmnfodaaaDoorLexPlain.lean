/-
  Tokens as lists of bytes: what reading one comes to: no program is named here.
-/
import Derived.Test.YtggibhlmnfodaaaDoorStrRow
import Derived.Test.YtggibhlmnfodaaaDoorNumPlain
namespace Go.Proofs.YtggibhlmnfodaaaDoor
namespace Lex
open Go.RowKit
open Str (lenL runeL)

/-- The character that a list begins with; -1: it is empty; -2: it begins with none. -/
def chL (l : List UInt8) : Int := if l = [] then -1 else if lenL l = 0 then -2 else (runeL l : Int)
/-- What stands behind it. -/
def tl (l : List UInt8) : List UInt8 := l.drop (lenL l)
/-- Does l begin with t? -/
def pre (t l : List UInt8) : Bool := decide (l.take t.length = t)
def digC (c : Int) : Bool := decide (48 ≤ c ∧ c ≤ 57)
/-- Does l begin with a digit? -/
def digAt : List UInt8 → Bool
  | [] => false
  | x :: _ => digC x.toNat

theorem tl_suf (l : List UInt8) : tl l <:+ l := List.drop_suffix _ _
theorem ch_yes {l : List UInt8} (h1 : chL l ≠ -1) (h2 : chL l ≠ -2) : l ≠ [] ∧ lenL l ≠ 0 ∧ chL l = (runeL l : Int) := by
  unfold chL at *
  by_cases e : l = []
  · rw [if_pos e] at h1; exact absurd rfl h1
  · rw [if_neg e] at h1 h2 ⊢
    by_cases e2 : lenL l = 0
    · rw [if_pos e2] at h2; exact absurd rfl h2
    · rw [if_neg e2]; exact ⟨e, e2, rfl⟩
theorem tl_lt {l : List UInt8} (h1 : chL l ≠ -1) (h2 : chL l ≠ -2) : (tl l).length < l.length := by
  obtain ⟨e1, e2, _⟩ := ch_yes h1 h2
  have := Str.pos_of_ne e1
  unfold tl; rw [List.length_drop]; omega
theorem ch_ge (l : List UInt8) : -2 ≤ chL l ∧ chL l ≤ 1114111 := by
  unfold chL
  by_cases e : l = []
  · rw [if_pos e]; omega
  · rw [if_neg e]
    by_cases e2 : lenL l = 0
    · rw [if_pos e2]; omega
    · rw [if_neg e2]; have := Str.runeL_le l e2; omega

/-- A loop over a list: what a round makes of a state and what is left: an answer, or the next round's. -/
def loopF {σ β : Type} (f : σ → List UInt8 → β ⊕ (σ × List UInt8)) (d : β) : Nat → σ → List UInt8 → β
  | 0, _, _ => d
  | n + 1, s, l => match f s l with
    | .inl b => b
    | .inr p => loopF f d n p.1 p.2
def loop {σ β : Type} (f : σ → List UInt8 → β ⊕ (σ × List UInt8)) (d : β) (s : σ) (l : List UInt8) : β := loopF f d (l.length + 1) s l
/-- Each round goes on. -/
def Falls {σ β : Type} (f : σ → List UInt8 → β ⊕ (σ × List UInt8)) : Prop := ∀ s l p, f s l = .inr p → p.2.length < l.length
theorem loop_fuel {σ β : Type} {f : σ → List UInt8 → β ⊕ (σ × List UInt8)} (hf : Falls f) (d : β) : ∀ n m s l, l.length < n → l.length < m → loopF f d n s l = loopF f d m s l
  | 0, _, _, _, h, _ => absurd h (Nat.not_lt_zero _)
  | _ + 1, 0, _, _, _, h => absurd h (Nat.not_lt_zero _)
  | n + 1, m + 1, s, l, h1, h2 => by
    rw [loopF, loopF]
    cases hc : f s l with
    | inl b => rfl
    | inr p =>
      have := hf s l p hc
      exact loop_fuel hf d n m _ _ (by omega) (by omega)
theorem loop_in {σ β : Type} {f : σ → List UInt8 → β ⊕ (σ × List UInt8)} (d : β) {s : σ} {l : List UInt8} {b : β} (h : f s l = .inl b) : loop f d s l = b := by rw [loop, loopF, h]
theorem loop_go {σ β : Type} {f : σ → List UInt8 → β ⊕ (σ × List UInt8)} (hf : Falls f) (d : β) {s s' : σ} {l l' : List UInt8} (h : f s l = .inr (s', l')) : loop f d s l = loop f d s' l' := by
  rw [loop, loopF, h]
  exact loop_fuel hf d _ _ _ _ (hf _ _ _ h) (Nat.lt_succ_self _)
/-- What holds of each round's answer, and is handed back from round to round, holds of the loop's. -/
theorem loop_ind {σ β : Type} {f : σ → List UInt8 → β ⊕ (σ × List UInt8)} (hf : Falls f) (d : β) (P : σ → List UInt8 → β → Prop) (h1 : ∀ s l b, f s l = .inl b → P s l b)
    (h2 : ∀ s l s' l' b, f s l = .inr (s', l') → P s' l' b → P s l b) : ∀ n s l, l.length < n → P s l (loop f d s l)
  | 0, _, _, h => absurd h (Nat.not_lt_zero _)
  | n + 1, s, l, h => by
    cases hc : f s l with
    | inl b => rw [loop_in d hc]; exact h1 _ _ _ hc
    | inr p =>
      obtain ⟨s', l'⟩ := p
      rw [loop_go hf d hc]
      have := hf _ _ _ hc
      exact h2 _ _ _ _ _ hc (loop_ind hf d P h1 h2 n s' l' (by simp only at this; omega))
theorem loop_all {σ β : Type} {f : σ → List UInt8 → β ⊕ (σ × List UInt8)} (hf : Falls f) (d : β) (P : σ → List UInt8 → β → Prop) (h1 : ∀ s l b, f s l = .inl b → P s l b)
    (h2 : ∀ s l s' l' b, f s l = .inr (s', l') → P s' l' b → P s l b) (s : σ) (l : List UInt8) : P s l (loop f d s l) := loop_ind hf d P h1 h2 _ _ _ (Nat.lt_succ_self _)

/-- The kind, the error, what is left. -/
abbrev Out := Int × Int × List UInt8

/-- The characters that go on in a name. -/
def partsS (d : Bool) (_ : Unit) (l : List UInt8) : (Int × List UInt8) ⊕ (Unit × List UInt8) :=
  if chL l = -2 then .inl (502, l) else if Uni.partB (chL l) = false ∧ (chL l ≠ 45 ∨ d = false) then .inl (0, l) else .inr ((), tl l)
def parts (d : Bool) (l : List UInt8) : Int × List UInt8 := loop (partsS d) (999, []) () l
def nameP (d : Bool) (l : List UInt8) : Out :=
  if Uni.startB (chL l) = true then (1, parts d l) else if chL l = 92 then (0, 508, l) else (0, 502, l)
def privP (l : List UInt8) : Out :=
  if chL l.tail = -2 then (0, 502, l.tail) else if Uni.startB (chL l.tail) = false then (0, 509, l) else (2, parts false l.tail)

/-- Letters, digits and _; were all of them digits or _? -/
def digsP : List UInt8 → Bool × List UInt8
  | [] => (true, [])
  | x :: t => if digC x.toNat = true ∨ x = 95 then digsP t else if (x ||| 32) < 97 ∨ 122 < (x ||| 32) then (true, x :: t) else (false, (digsP t).2)
/-- What lies ahead of m in l. -/
def upTo (l m : List UInt8) : List UInt8 := l.take (l.length - m.length)
def hexQ (t : List UInt8) : Bool := decide (1 < t.length) && ((t.getD 1 0 ||| 32) == 120)
def reachQ (t m : List UInt8) : List UInt8 :=
  if hexQ t = true ∨ (t.getD (t.length - 1) 0 ||| 32) ≠ 101 then m
  else if pre [43] m = true ∨ pre [45] m = true then (digsP m.tail).2 else m
def reachW (l : List UInt8) : List UInt8 := if (digsP l).1 = true ∧ pre [46] (digsP l).2 = true then (digsP (digsP l).2.tail).2 else (digsP l).2
def reachP (l : List UInt8) : List UInt8 := reachQ (upTo l (reachW l)) (reachW l)
def numB (l : List UInt8) : Bool := Num.accL 0 0 0 l
def numP (l : List UInt8) : Out :=
  if numB (upTo l (reachP l)) = false then (0, 503, l)
  else if chL (reachP l) = -2 then (0, 502, reachP l)
  else if Uni.startB (chL (reachP l)) = true ∨ digC (chL (reachP l)) = true then (0, 503, l) else (3, 0, reachP l)

def escN (l : List UInt8) : Nat := if pre [13, 10] l = true then 2 else lenL l
/-- Up to the quote q: what was met, and what is left. -/
def toqS (q : Int) (_ : Unit) (l : List UInt8) : (Int × List UInt8) ⊕ (Unit × List UInt8) :=
  if chL l = -1 ∨ chL l = -2 ∨ chL l = 10 ∨ chL l = 13 then .inl (chL l, l)
  else if chL l = 92 then .inr ((), (tl l).drop (escN (tl l)))
  else if chL l = q then .inl (q, tl l) else .inr ((), tl l)
def toq (q : Int) (l : List UInt8) : Int × List UInt8 := loop (toqS q) (999, []) () l
def litR (l : List UInt8) : Int × List UInt8 := toq (chL l) (tl l)
def litP (l : List UInt8) : Out :=
  if Str.codeL (Str.litL (upTo l (litR l).2)) = 0 then (4, 0, (litR l).2)
  else if (litR l).1 = -2 ∧ (Str.litL (upTo l (litR l).2)).1 = l.length - (litR l).2.length then (0, 502, (litR l).2)
  else (0, 504, l.drop (Str.litL (upTo l (litR l).2)).1)

/-- A regular expression behind its /: escaped, in a class. -/
def regS (s : Bool × Bool) (l : List UInt8) : (Int × List UInt8) ⊕ ((Bool × Bool) × List UInt8) :=
  if chL l = -2 then .inl (502, l) else if chL l = -1 ∨ Uni.endsB (chL l) = true then .inl (506, l)
  else if s.1 = true then .inr ((false, s.2), tl l)
  else if chL l = 92 then .inr ((true, s.2), tl l)
  else if chL l = 91 then .inr ((s.1, true), tl l)
  else if chL l = 93 then .inr ((s.1, false), tl l)
  else if chL l = 47 ∧ s.2 = false then .inl (0, tl l) else .inr (s, tl l)
def reg (l : List UInt8) : Int × List UInt8 := loop regS (999, []) (false, false) l
def regexQ (l : List UInt8) (r : Int × List UInt8) : Out :=
  if r.1 = 506 then (0, 506, l) else if r.1 = 0 then (6, parts false r.2) else (0, r.1, r.2)
def regexP (l : List UInt8) : Out := regexQ l (reg l.tail)

/-- A template behind its beginning: the kind, the error, what is left. -/
def temS (whole part : Int) (_ : Unit) (l : List UInt8) : Out ⊕ (Unit × List UInt8) :=
  if chL l = -2 then .inl (0, 502, l) else if chL l = -1 then .inl (0, 505, l)
  else if chL l = 92 then .inr ((), tl (tl l))
  else if chL l = 96 then .inl (whole, 0, tl l)
  else if pre [36, 123] l = true then .inl (part, 0, l.drop 2) else .inr ((), tl l)
def tem (whole part : Int) (l : List UInt8) : Out := loop (temS whole part) (0, 999, []) () l
def backTo (code : Int) (l : List UInt8) (r : Out) : Out := if r.2.1 = code then (0, code, l) else r
def templateP (whole part : Int) (l : List UInt8) : Out := backTo 505 l (tem whole part l.tail)

/-- An attribute's text behind its quote. -/
def attS (q : Int) (_ : Unit) (l : List UInt8) : Out ⊕ (Unit × List UInt8) :=
  if chL l = -2 then .inl (0, 502, l) else if chL l = -1 then .inl (0, 504, l) else if chL l = q then .inl (12, 0, tl l) else .inr ((), tl l)
def att (q : Int) (l : List UInt8) : Out := loop (attS q) (0, 999, []) () l
def attrP (l : List UInt8) : Out := backTo 504 l (att (chL l) (tl l))
def tagB (c : Int) : Bool := decide (c = 60 ∨ c = 62 ∨ c = 47 ∨ c = 123 ∨ c = 61 ∨ c = 46 ∨ c = 58)
def tagP (l : List UInt8) : Out :=
  if chL l = -1 then (0, 0, l) else if tagB (chL l) = true then (5, 0, tl l) else if chL l = 34 ∨ chL l = 39 then attrP l else nameP true l

/-- Text between tags. -/
def chiS (_ : Unit) (l : List UInt8) : Out ⊕ (Unit × List UInt8) :=
  if chL l = -2 then .inl (0, 502, l) else if chL l = -1 ∨ chL l = 123 ∨ chL l = 125 ∨ chL l = 60 ∨ chL l = 62 then .inl (11, 0, l) else .inr ((), tl l)
def chi (l : List UInt8) : Out := loop chiS (0, 999, []) () l
def childP (l : List UInt8) : Out :=
  if chL l = -1 then (0, 0, l) else if chL l = 123 ∨ chL l = 60 then (5, 0, tl l) else if chL l = 125 ∨ chL l = 62 then (0, 502, l) else chi l

/-- The signs of more than one byte. -/
def joinL : List (List UInt8) := [[62, 62, 62, 61], [46, 46, 46], [61, 61, 61], [33, 61, 61], [62, 62, 62], [42, 42, 61], [60, 60, 61], [62, 62, 61], [38, 38, 61], [124, 124, 61], [63, 63, 61],
  [60, 61], [62, 61], [61, 61], [33, 61], [42, 42], [43, 43], [45, 45], [60, 60], [62, 62], [38, 38], [124, 124], [63, 63],
  [63, 46], [43, 61], [45, 61], [42, 61], [47, 61], [37, 61], [38, 61], [124, 61], [94, 61], [61, 62]]
def joinB (t : List UInt8) : Bool := joinL.elem t
def signB (l : List UInt8) (k : Nat) : Bool := if l.take k = [63, 46] then !digAt (l.drop k) else joinB (l.take k)
/-- How long the sign is that l begins with. -/
def signN (l : List UInt8) : Nat :=
  if 4 ≤ l.length ∧ signB l 4 = true then 4 else if 3 ≤ l.length ∧ signB l 3 = true then 3 else if 2 ≤ l.length ∧ signB l 2 = true then 2 else 1
def punP (l : List UInt8) : Out := (5, 0, l.drop (signN l))

def punC (c : Int) : Bool := decide (c = 123 ∨ c = 125 ∨ c = 40 ∨ c = 41 ∨ c = 91 ∨ c = 93 ∨ c = 59 ∨ c = 44 ∨ c = 60 ∨ c = 62 ∨ c = 61 ∨ c = 33 ∨
  c = 43 ∨ c = 45 ∨ c = 42 ∨ c = 37 ∨ c = 38 ∨ c = 124 ∨ c = 94 ∨ c = 126 ∨ c = 63 ∨ c = 58)
def commonP (x : Bool) (l : List UInt8) : Out :=
  if chL l = -1 then (0, 0, l) else if chL l = 34 ∨ chL l = 39 then litP l else if chL l = 96 then templateP 7 8 l else if chL l = 35 then privP l
  else if chL l = 46 then (if digAt l.tail = true then numP l else punP l)
  else if digC (chL l) = true then numP l
  else if chL l = 47 then (if x = true then regexP l else punP l)
  else if punC (chL l) = true then punP l else nameP false l
def tokenP (g : Int) (l : List UInt8) : Out :=
  if g = 3 then templateP 9 10 l else if g = 4 then childP l else if g = 5 then tagP l else commonP (decide (g = 2)) l

/-- A comment: its kind, what is left at its beginning and behind it. -/
structure Com where
  kind : Nat
  fr : List UInt8
  to : List UInt8
deriving DecidableEq
/-- A block comment behind its beginning: the error, whether a line ends in it, what is left. -/
def blkS (b : Bool) (l : List UInt8) : (Int × Bool × List UInt8) ⊕ (Bool × List UInt8) :=
  if pre [42, 47] l = true then .inl (0, b, l.drop 2) else if chL l = -2 then .inl (502, b, l) else if chL l = -1 then .inl (507, b, l)
    else .inr (b || Uni.endsB (chL l), tl l)
def blk (b : Bool) (l : List UInt8) : Int × Bool × List UInt8 := loop blkS (999, false, []) b l
def linS (_ : Unit) (l : List UInt8) : (Int × List UInt8) ⊕ (Unit × List UInt8) :=
  if chL l = -2 then .inl (502, l) else if chL l = -1 ∨ Uni.endsB (chL l) = true then .inl (0, l) else .inr ((), tl l)
def lin (l : List UInt8) : Int × List UInt8 := loop linS (999, []) () l
def blockQ (l : List UInt8) (r : Int × Bool × List UInt8) : Int × Bool × List UInt8 := if r.1 = 507 then (507, r.2.1, l) else r
/-- A comment of kind k that begins here, behind a gap in which a line ends, or none: b. -/
def comP (k : Nat) (b : Bool) (l : List UInt8) : Int × Bool × List UInt8 :=
  if k = 2 then blockQ l (blk b (l.drop 2)) else ((lin l).1, b, (lin l).2)
def opensP (z : Bool) (l : List UInt8) : Nat := if pre [47, 47] l = true then 1 else if pre [47, 42] l = true then 2 else if z = true ∧ pre [35, 33] l = true then 3 else 0
/-- What stands between two tokens: the error, whether a line ends in it, the comments, what is left. -/
structure Gap where
  code : Int
  line : Bool
  coms : List Com
  rest : List UInt8
deriving DecidableEq
/-- Is it place 0, does a line end ahead, which comments stand ahead? -/
abbrev SkipSt := Bool × Bool × List Com
def skipC (k : Nat) (s : SkipSt) (l : List UInt8) (c : Int × Bool × List UInt8) : Gap ⊕ (SkipSt × List UInt8) :=
  if c.1 = 0 then (if c.2.2.length < l.length then .inr ((false, c.2.1, s.2.2 ++ [⟨k, l, c.2.2⟩]), c.2.2) else .inl ⟨999, false, [], []⟩) else .inl ⟨c.1, c.2.1, s.2.2, c.2.2⟩
def skipS (s : SkipSt) (l : List UInt8) : Gap ⊕ (SkipSt × List UInt8) :=
  if chL l = -2 then .inl ⟨502, s.2.1, s.2.2, l⟩
  else if Uni.endsB (chL l) = true then .inr ((false, true, s.2.2), tl l)
  else if Uni.blankB (chL l) = true then .inr ((false, s.2.1, s.2.2), tl l)
  else if opensP s.1 l = 0 then .inl ⟨0, s.2.1, s.2.2, l⟩
  else skipC (opensP s.1 l) s l (comP (opensP s.1 l) s.2.1 l)
def skip (s : SkipSt) (l : List UInt8) : Gap := loop skipS ⟨999, false, [], []⟩ s l

/-- What Next answers: the error, what is left at its place; or the kind, what is left at the token's beginning and behind it, whether a line ends ahead of it, the comments. -/
structure Ans where
  code : Int
  place : List UInt8
  kind : Int
  fr : List UInt8
  to : List UInt8
  line : Bool
  coms : List Com
deriving DecidableEq
def failA (c : Int) (l : List UInt8) : Ans := ⟨c, l, 0, [], [], false, []⟩
def ansP (g : Gap) (t : Out) : Ans := if g.code = 0 then (if t.2.1 = 0 then ⟨0, [], t.1, g.rest, t.2.2, g.line, g.coms⟩ else failA t.2.1 t.2.2) else failA g.code g.rest
def gapP (g : Int) (z : Bool) (l : List UInt8) : Gap := if g = 3 ∨ g = 4 then ⟨0, false, [], l⟩ else skip (z, false, []) l
/-- Next where the place and the goal are in order; z: it is place 0. -/
def nextP (g : Int) (z : Bool) (l : List UInt8) : Ans := ansP (gapP g z l) (tokenP g (gapP g z l).rest)
def goalB (g : Int) (l : List UInt8) : Bool := decide (1 ≤ g ∧ g ≤ 5) && (decide (g ≠ 3) || pre [125] l)

/-! Every round goes on. -/
theorem part_no1 : Uni.partB (-1) = false := by decide
theorem falls_parts (d : Bool) : Falls (partsS d) := by
  intro s l p h
  unfold partsS at h
  by_cases c1 : chL l = -2
  · rw [if_pos c1] at h; cases h
  rw [if_neg c1] at h
  by_cases c2 : Uni.partB (chL l) = false ∧ (chL l ≠ 45 ∨ d = false)
  · rw [if_pos c2] at h; cases h
  rw [if_neg c2] at h
  cases h
  refine tl_lt (fun e => c2 ?_) c1
  rw [e]; exact ⟨part_no1, Or.inl (by decide)⟩
theorem falls_toq (q : Int) : Falls (toqS q) := by
  intro s l p h
  unfold toqS at h
  by_cases c1 : chL l = -1 ∨ chL l = -2 ∨ chL l = 10 ∨ chL l = 13
  · rw [if_pos c1] at h; cases h
  rw [if_neg c1] at h
  have ht : (tl l).length < l.length := tl_lt (fun e => c1 (Or.inl e)) (fun e => c1 (Or.inr (Or.inl e)))
  by_cases c2 : chL l = 92
  · rw [if_pos c2] at h
    cases h
    simp only [List.length_drop]; omega
  rw [if_neg c2] at h
  by_cases c3 : chL l = q
  · rw [if_pos c3] at h; cases h
  rw [if_neg c3] at h
  cases h; exact ht
theorem falls_reg : Falls regS := by
  intro s l p h
  unfold regS at h
  by_cases c1 : chL l = -2
  · rw [if_pos c1] at h; cases h
  rw [if_neg c1] at h
  by_cases c2 : chL l = -1 ∨ Uni.endsB (chL l) = true
  · rw [if_pos c2] at h; cases h
  rw [if_neg c2] at h
  have ht : (tl l).length < l.length := tl_lt (fun e => c2 (Or.inl e)) c1
  revert h
  repeat' split
  all_goals (intro h; cases h; try exact ht)
theorem falls_tem (a b : Int) : Falls (temS a b) := by
  intro s l p h
  unfold temS at h
  by_cases c1 : chL l = -2
  · rw [if_pos c1] at h; cases h
  rw [if_neg c1] at h
  by_cases c2 : chL l = -1
  · rw [if_pos c2] at h; cases h
  rw [if_neg c2] at h
  have ht : (tl l).length < l.length := tl_lt c2 c1
  have h2 := (tl_suf (tl l)).length_le
  revert h
  repeat' split
  all_goals (intro h; cases h; try (simp only; omega))
theorem falls_att (q : Int) : Falls (attS q) := by
  intro s l p h
  unfold attS at h
  by_cases c1 : chL l = -2
  · rw [if_pos c1] at h; cases h
  rw [if_neg c1] at h
  by_cases c2 : chL l = -1
  · rw [if_pos c2] at h; cases h
  rw [if_neg c2] at h
  have ht : (tl l).length < l.length := tl_lt c2 c1
  revert h
  repeat' split
  all_goals (intro h; cases h; try exact ht)
theorem falls_chi : Falls chiS := by
  intro s l p h
  unfold chiS at h
  by_cases c1 : chL l = -2
  · rw [if_pos c1] at h; cases h
  rw [if_neg c1] at h
  by_cases c2 : chL l = -1 ∨ chL l = 123 ∨ chL l = 125 ∨ chL l = 60 ∨ chL l = 62
  · rw [if_pos c2] at h; cases h
  rw [if_neg c2] at h
  cases h
  exact tl_lt (fun e => c2 (Or.inl e)) c1
theorem falls_blk : Falls blkS := by
  intro s l p h
  unfold blkS at h
  by_cases c0 : pre [42, 47] l = true
  · rw [if_pos c0] at h; cases h
  rw [if_neg c0] at h
  by_cases c1 : chL l = -2
  · rw [if_pos c1] at h; cases h
  rw [if_neg c1] at h
  by_cases c2 : chL l = -1
  · rw [if_pos c2] at h; cases h
  rw [if_neg c2] at h
  cases h
  exact tl_lt c2 c1
theorem falls_lin : Falls linS := by
  intro s l p h
  unfold linS at h
  by_cases c1 : chL l = -2
  · rw [if_pos c1] at h; cases h
  rw [if_neg c1] at h
  by_cases c2 : chL l = -1 ∨ Uni.endsB (chL l) = true
  · rw [if_pos c2] at h; cases h
  rw [if_neg c2] at h
  cases h
  exact tl_lt (fun e => c2 (Or.inl e)) c1
theorem ends_no1 : Uni.endsB (-1) = false := by decide
theorem blank_no1 : Uni.blankB (-1) = false := by decide
theorem falls_skip : Falls skipS := by
  intro s l p h
  unfold skipS at h
  by_cases c1 : chL l = -2
  · rw [if_pos c1] at h; cases h
  rw [if_neg c1] at h
  by_cases c2 : Uni.endsB (chL l) = true
  · rw [if_pos c2] at h; cases h
    exact tl_lt (fun e => by rw [e] at c2; exact absurd c2 (by decide)) c1
  rw [if_neg c2] at h
  by_cases c3 : Uni.blankB (chL l) = true
  · rw [if_pos c3] at h; cases h
    exact tl_lt (fun e => by rw [e] at c3; exact absurd c3 (by decide)) c1
  rw [if_neg c3] at h
  by_cases c4 : opensP s.1 l = 0
  · rw [if_pos c4] at h; cases h
  rw [if_neg c4] at h
  unfold skipC at h
  revert h
  repeat' split
  all_goals (intro h; cases h; try assumption)

end Lex
end Go.Proofs.YtggibhlmnfodaaaDoor
