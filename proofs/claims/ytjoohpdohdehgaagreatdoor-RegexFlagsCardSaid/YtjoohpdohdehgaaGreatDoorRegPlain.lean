/-
  Regular expressions as lists of bytes: what reading one comes to: no program is named here.
-/
import Derived.Test.YtjoohpdohdehgaaGreatDoorStrPlain
import Derived.Shelf.Strconv.AppendUint10
namespace Go.Proofs.YtjoohpdohdehgaaGreatDoor
namespace Reg
open Go.RowKit
open Str (lenL runeL hexV)

/-- A list's first byte; -1: it is empty. -/
def hd : List UInt8 → Int
  | [] => -1
  | x :: _ => x.toNat

/-- What reading comes to: how much is left where it goes wrong, and by which error; or what was made, and what is left. -/
abbrev Out (α : Type) := Except (Nat × Nat) (α × List UInt8)
/-- A wrong form here. -/
def wrong {α : Type} (l : List UInt8) : Except (Nat × Nat) α := .error (l.length, 400)

def anyP (_ : Int) : Bool := true
def digB (c : Int) : Bool := decide (48 ≤ c ∧ c ≤ 57)
def letB (c : Int) : Bool := decide (65 ≤ c ∧ c ≤ 90 ∨ 97 ≤ c ∧ c ≤ 122)
def hexB (c : Int) : Bool := decide (48 ≤ c ∧ c ≤ 57 ∨ 65 ≤ c ∧ c ≤ 70 ∨ 97 ≤ c ∧ c ≤ 102)

/-- A character for which p holds. -/
def chrP (p : Int → Bool) (l : List UInt8) : Out Nat :=
  if lenL l = 0 ∨ Uni.endsB (runeL l) = true ∨ p (runeL l) = false then wrong l else .ok (runeL l, l.drop (lenL l))
/-- The byte c. -/
def expP (c : Int) (l : List UInt8) : Except (Nat × Nat) (List UInt8) := if hd l = c then .ok l.tail else wrong l
/-- The byte c, if it stands here. -/
def tak (c : Int) (l : List UInt8) : List UInt8 := if hd l = c then l.tail else l

/-- Characters for which p holds, up to the byte c. -/
def tillP (p : Int → Bool) (c : Int) : Nat → List UInt8 → Except (Nat × Nat) (List UInt8)
  | 0, _ => .error (0, 999)
  | n + 1, l => if hd l = c then .ok l else match chrP p l with
    | .error e => .error e
    | .ok r => tillP p c n r.2

def digsL (l : List UInt8) : List UInt8 := l.takeWhile fun x => digB x.toNat
def lop (l : List UInt8) : List UInt8 := l.dropWhile fun x => x == 48
/-- A number's digits without leading zeros. -/
def numP (l : List UInt8) : Out (List UInt8) := if digB (hd l) = true then .ok (lop (digsL l), l.drop (digsL l).length) else wrong l
/-- Is one number below another one? -/
def lessB (a b : List UInt8) : Bool := if a.length = b.length then Op.bytesLess a b else decide (a.length < b.length)

/-- A name and the > behind it. -/
def nameP (l : List UInt8) : Out (List UInt8) := match chrP Uni.startB l with
  | .error e => .error e
  | .ok r => match tillP Uni.partB 62 (r.2.length + 1) r.2 with
    | .error e => .error e
    | .ok m => .ok (l.take (l.length - m.length), m.tail)

/-- So many hexadecimal digits. -/
def hexP : Nat → Nat → List UInt8 → Out Nat
  | 0, v, l => .ok (v, l)
  | n + 1, v, l => match chrP hexB l with
    | .error e => .error e
    | .ok r => hexP n (v * 16 + (hexV r.1).toNat) r.2
def hexsL (l : List UInt8) : List UInt8 := l.takeWhile fun x => hexB x.toNat
def valL (v : Nat) : List UInt8 → Nat
  | [] => v
  | x :: l => valL (v * 16 + (hexV x.toNat).toNat) l
/-- The digits of a code point and the brace behind them. -/
def braP (l : List UInt8) : Out Nat :=
  if hexB (hd l) = false ∨ 1114111 < valL 0 (hexsL l) then wrong (l.drop (hexsL l).length)
  else match expP 125 (l.drop (hexsL l).length) with
    | .error e => .error e
    | .ok m => .ok (valL 0 (hexsL l), m)

def catsL : List (List UInt8) := [[76], [76, 117], [76, 108], [76, 116], [76, 109], [76, 111], [77], [77, 110], [78], [78, 100], [80], [83], [90]]
def binsL : List (List UInt8) := [[65, 83, 67, 73, 73], [65, 110, 121], [65, 108, 112, 104, 97, 98, 101, 116, 105, 99], [73, 68, 95, 83, 116, 97, 114, 116], [73, 68, 95, 67, 111, 110, 116, 105, 110, 117, 101],
  [87, 104, 105, 116, 101, 95, 83, 112, 97, 99, 101], [85, 112, 112, 101, 114, 99, 97, 115, 101], [76, 111, 119, 101, 114, 99, 97, 115, 101], [69, 109, 111, 106, 105]]
def scrsL : List (List UInt8) := [[76, 97, 116, 105, 110], [71, 114, 101, 101, 107], [67, 121, 114, 105, 108, 108, 105, 99], [72, 97, 110], [72, 105, 114, 97, 103, 97, 110, 97], [75, 97, 116, 97, 107, 97, 110, 97], [65, 114, 97, 98, 105, 99], [72, 101, 98, 114, 101, 119]]
def gcsL : List (List UInt8) := [[71, 101, 110, 101, 114, 97, 108, 95, 67, 97, 116, 101, 103, 111, 114, 121], [103, 99]]
def scsL : List (List UInt8) := [[83, 99, 114, 105, 112, 116], [115, 99], [83, 99, 114, 105, 112, 116, 95, 69, 120, 116, 101, 110, 115, 105, 111, 110, 115], [115, 99, 120]]
def catB (l : List UInt8) : Bool := catsL.elem l
def binB (l : List UInt8) : Bool := binsL.elem l
def scrB (l : List UInt8) : Bool := scrsL.elem l
def gcB (l : List UInt8) : Bool := gcsL.elem l
def scB (l : List UInt8) : Bool := scsL.elem l
def keyL (l : List UInt8) : List UInt8 := l.takeWhile fun x => x != 61
/-- Is it a property's name? -/
def knownB (l : List UInt8) : Bool :=
  if (keyL l).length = l.length then catB l || binB l
  else if gcB (keyL l) then catB (l.drop ((keyL l).length + 1))
  else scB (keyL l) && scrB (l.drop ((keyL l).length + 1))
def propP (l : List UInt8) : Except (Nat × Nat) (List UInt8) := match expP 123 l with
  | .error e => .error e
  | .ok m => match tillP anyP 125 (m.length + 1) m with
    | .error e => .error e
    | .ok r => if knownB (m.take (m.length - r.length)) = true then .ok r.tail else .error (m.length, 404)

def synL : List UInt8 := [94, 36, 92, 46, 42, 43, 63, 40, 41, 91, 93, 123, 125, 124, 47]
def escapB (u : Bool) (c : Nat) : Bool := if u = true then synL.any fun x => x.toNat == c else !Uni.partB c
/-- An escape or a set that begins with the character c, behind which l is left; k is left at c; -1: a set. -/
def escQ (u : Bool) (k : List UInt8) (c : Nat) (l : List UInt8) : Out Int :=
  if c = 100 ∨ c = 68 ∨ c = 115 ∨ c = 83 ∨ c = 119 ∨ c = 87 then .ok (-1, l)
  else if c = 102 then .ok (12, l) else if c = 110 then .ok (10, l) else if c = 114 then .ok (13, l) else if c = 116 then .ok (9, l) else if c = 118 then .ok (11, l)
  else if c = 99 then (match chrP letB l with
    | .error e => .error e
    | .ok q => .ok ((q.1 % 32 : Nat), q.2))
  else if c = 48 then (if digB (hd l) = true then wrong l else .ok (0, l))
  else if c = 120 then (match hexP 2 0 l with
    | .error e => .error e
    | .ok q => .ok (q.1, q.2))
  else if c = 117 then (match (if u = true ∧ hd l = 123 then braP l.tail else hexP 4 0 l) with
    | .error e => .error e
    | .ok q => .ok (q.1, q.2))
  else if u = true ∧ (c = 112 ∨ c = 80) then (match propP l with
    | .error e => .error e
    | .ok m => .ok (-1, m))
  else if escapB u c = true then .ok (c, l) else wrong k
/-- An escape or a set, behind the backslash; -1: a set. -/
def escP (u : Bool) (l : List UInt8) : Out Int := match chrP anyP l with
  | .error e => .error e
  | .ok r => escQ u l r.1 r.2

/-- A point behind its backslash. -/
def peP (u : Bool) (l : List UInt8) : Out Int :=
  if hd l = 98 then .ok (8, l.tail) else if u = true ∧ hd l = 45 then .ok (45, l.tail) else escP u l
/-- The two units of a character beyond the first plane, or twice the one. -/
def unitsQ (u : Bool) (c : Nat) : Int × Int := if u = false ∧ 65535 < c then (((55296 + (c - 65536) / 1024 : Nat) : Int), ((56320 + (c - 65536) % 1024 : Nat) : Int)) else ((c : Int), (c : Int))
/-- A point: its first unit and its second one. -/
def ptP (u : Bool) (l : List UInt8) : Out (Int × Int) :=
  if hd l = 92 then (match peP u l.tail with
      | .error e => .error e
      | .ok r => .ok ((r.1, r.1), r.2))
  else match chrP anyP l with
    | .error e => .error e
    | .ok r => .ok (unitsQ u r.1, r.2)
/-- Ranges from a point on, that stands where a is left. -/
def rangeP (u : Bool) : Nat → Nat → Int × Int → List UInt8 → Except (Nat × Nat) (List UInt8)
  | 0, _, _, _ => .error (0, 999)
  | n + 1, a, p, l => if hd l = 45 ∧ hd l.tail ≠ 93 then (match ptP u l.tail with
      | .error e => .error e
      | .ok r => if p.2 = -1 ∨ r.1.1 = -1 ∨ r.1.1 < p.2 then .error (a, 403) else if r.1.1 = r.1.2 then .ok r.2 else rangeP u n l.tail.length r.1 r.2)
    else .ok l
def itemsP (u : Bool) : Nat → List UInt8 → Except (Nat × Nat) (List UInt8)
  | 0, _ => .error (0, 999)
  | n + 1, l => if hd l = 93 then .ok l.tail else match ptP u l with
    | .error e => .error e
    | .ok r => match rangeP u (r.2.length + 1) l.length r.1 r.2 with
      | .error e => .error e
      | .ok m => itemsP u n m
/-- What stands behind a class's bracket. -/
def classP (u : Bool) (l : List UInt8) : Except (Nat × Nat) (List UInt8) := itemsP u ((tak 94 l).length + 1) (tak 94 l)

/-- A quantifier in braces. -/
def repP (l : List UInt8) : Except (Nat × Nat) (List UInt8) := match numP l.tail with
  | .error e => .error e
  | .ok a => match (if hd a.2 = 44 ∧ hd a.2.tail ≠ 125 then numP a.2.tail else .ok (a.1, tak 44 a.2)) with
    | .error e => .error e
    | .ok b => match expP 125 b.2 with
      | .error e => .error e
      | .ok m => if lessB b.1 a.1 = true then .error (l.length, 403) else .ok m
def quanP (l : List UInt8) : Except (Nat × Nat) (List UInt8) :=
  if hd l = 42 ∨ hd l = 43 ∨ hd l = 63 then .ok (tak 63 l.tail)
  else if hd l = 123 then (match repP l with
    | .error e => .error e
    | .ok m => .ok (tak 63 m))
  else .ok l

/-- What must be met behind the end: where it stands, a name or a number. -/
structure Ref where
  left : Nat
  named : Bool
  text : List UInt8
/-- The reader: what is left, the groups, their names, what must be met. -/
structure St where
  rest : List UInt8
  groups : Nat
  names : List (List UInt8)
  refs : List Ref
abbrev Res (α : Type) := Except (Nat × Nat) (α × St)
def St.at (st : St) (l : List UInt8) : St := { st with rest := l }

/-- What begins with a backslash. -/
def escdP (u : Bool) (st : St) : Res Bool :=
  if hd st.rest.tail = 98 ∨ hd st.rest.tail = 66 then .ok (false, st.at st.rest.tail.tail)
  else if hd st.rest.tail = 107 then (match expP 60 st.rest.tail.tail with
    | .error e => .error e
    | .ok m => match nameP m with
      | .error e => .error e
      | .ok r => .ok (true, { st with rest := r.2, refs := st.refs ++ [⟨st.rest.length, true, r.1⟩] }))
  else if hd st.rest.tail ≠ 48 ∧ digB (hd st.rest.tail) = true then (match numP st.rest.tail with
    | .error e => .error e
    | .ok r => .ok (true, { st with rest := r.2, refs := st.refs ++ [⟨st.rest.length, false, r.1⟩] }))
  else match escP u st.rest.tail with
    | .error e => .error e
    | .ok r => .ok (true, st.at r.2)
/-- A group's name. -/
def declP (st : St) : Except (Nat × Nat) St := match nameP st.rest with
  | .error e => .error e
  | .ok r => if r.1 ∈ st.names then .error (st.rest.length, 404) else .ok { st with rest := r.2, groups := st.groups + 1, names := st.names ++ [r.1] }
/-- What stands behind a bracket and a question mark. -/
def markP (st : St) : Res Bool :=
  if hd st.rest = -1 then wrong st.rest
  else if hd st.rest = 58 then .ok (true, st.at st.rest.tail)
  else if hd st.rest = 61 ∨ hd st.rest = 33 then .ok (false, st.at st.rest.tail)
  else if hd st.rest = 60 then
    (if hd st.rest.tail = 61 ∨ hd st.rest.tail = 33 then .ok (false, st.at st.rest.tail.tail)
    else match declP (st.at st.rest.tail) with
      | .error e => .error e
      | .ok s => .ok (true, s))
  else .error (st.rest.length + 1, 400)
/-- What stands behind a bracket; pat reads a pattern. -/
def groupP (pat : St → Except (Nat × Nat) St) (st : St) : Res Bool :=
  match (if hd st.rest = 63 then markP (st.at st.rest.tail) else .ok (true, { st with groups := st.groups + 1 })) with
  | .error e => .error e
  | .ok r => match pat r.2 with
    | .error e => .error e
    | .ok s => match expP 41 s.rest with
      | .error e => .error e
      | .ok m => .ok (r.1, s.at m)
/-- An assertion or an atom: is it an atom? -/
def pieceP (u : Bool) (pat : St → Except (Nat × Nat) St) (st : St) : Res Bool :=
  if hd st.rest = 94 ∨ hd st.rest = 36 then .ok (false, st.at st.rest.tail)
  else if hd st.rest = 40 then groupP pat (st.at st.rest.tail)
  else if hd st.rest = 91 then (match classP u st.rest.tail with
    | .error e => .error e
    | .ok m => .ok (true, st.at m))
  else if hd st.rest = 92 then escdP u st
  else if hd st.rest = 42 ∨ hd st.rest = 43 ∨ hd st.rest = 63 ∨ hd st.rest = 93 ∨ hd st.rest = 123 ∨ hd st.rest = 125 then wrong st.rest
  else match chrP anyP st.rest with
    | .error e => .error e
    | .ok r => .ok (true, st.at r.2)
/-- A piece and its quantifier. -/
def termP (u : Bool) (pat : St → Except (Nat × Nat) St) (st : St) : Except (Nat × Nat) St := match pieceP u pat st with
  | .error e => .error e
  | .ok r => if r.1 = true then (match quanP r.2.rest with
      | .error e => .error e
      | .ok m => .ok (r.2.at m))
    else .ok r.2
/-- A pattern (true), or the terms of an alternative (false). -/
def readP (u : Bool) : Nat → Bool → St → Except (Nat × Nat) St
  | 0, _, _ => .error (0, 999)
  | n + 1, true, st => match readP u n false st with
    | .error e => .error e
    | .ok s => if hd s.rest = 124 then readP u n true (s.at s.rest.tail) else .ok s
  | n + 1, false, st => if hd st.rest = -1 ∨ hd st.rest = 124 ∨ hd st.rest = 41 then .ok st else match termP u (readP u n true) st with
    | .error e => .error e
    | .ok s => readP u n false s

/-- A number's decimal digits (f bounds how many). -/
def decF : Nat → Nat → List UInt8
  | 0, _ => []
  | f + 1, u => if u < 10 then [UInt8.ofNat (48 + u)] else decF f (u / 10) ++ [UInt8.ofNat (48 + u % 10)]
theorem decF_eq : ∀ f u, 0 < f → u < 10 ^ f → decF f u = Lib.decDigits u
  | 0, _, h, _ => absurd h (by decide)
  | f + 1, u, _, hu => by
    rw [decF, Lib.decDigits]
    by_cases h : u < 10
    · rw [if_pos h, dif_pos h]
    · rw [if_neg h, dif_neg h]
      have hf : 0 < f := by
        rcases Nat.eq_zero_or_pos f with rfl | h1
        · simp at hu; omega
        · exact h1
      rw [decF_eq f (u / 10) hf (by rw [Nat.pow_succ] at hu; omega)]
/-- The first thing that is not met. -/
def lookP (groups : Nat) (names : List (List UInt8)) : List Ref → Except (Nat × Nat) Unit
  | [] => .ok ()
  | r :: l => if r.named = true then (if r.text ∈ names then lookP groups names l else .error (r.left, 404))
    else if lessB (decF 9 groups) r.text = true then .error (r.left, 402) else lookP groups names l
/-- Reading a body whole: how much is left where it goes wrong, and by which error. -/
def bodyP (u : Bool) (l : List UInt8) : Except (Nat × Nat) Unit :=
  if l = [] then wrong l else match readP u (2 * l.length + 2) true ⟨l, 0, [], []⟩ with
    | .error e => .error e
    | .ok st => if hd st.rest = -1 then lookP st.groups st.names st.refs else wrong st.rest

def flagsL : List UInt8 := [100, 103, 105, 109, 115, 117, 121]
/-- Are these flags, each once? -/
def flagsB : List UInt8 → Bool
  | [] => true
  | x :: l => flagsL.elem x && !l.elem x && flagsB l
/-- The place and the error. -/
def checkV (body flags : List UInt8) : Nat × Nat :=
  if flagsB flags = false then (0, 401) else if 4096 < body.length then (0, 405)
  else match bodyP (flags.elem 117) body with
    | .error e => (body.length - e.1, e.2)
    | .ok _ => (0, 0)

def ofS (s : String) : List UInt8 := s.toUTF8.data.toList

end Reg
end Go.Proofs.YtjoohpdohdehgaaGreatDoor
