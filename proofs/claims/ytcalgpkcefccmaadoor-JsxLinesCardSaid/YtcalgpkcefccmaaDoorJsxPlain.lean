/-
  Plain mathematics of JSX text: its entities, its words, its lines: no program is named here.
-/
import Derived.Lib.RuneBytes
namespace Go.Proofs.YtcalgpkcefccmaaDoor
namespace Jsx
open Go.Lib (encodeRune)

/-- A list of bytes as a string. -/
def ofL (l : List UInt8) : ByteArray := ⟨l.toArray⟩
theorem ofL_list (l : List UInt8) : (ofL l).data.toList = l := by simp [ofL]
theorem ofL_eq (s : ByteArray) : ofL s.data.toList = s := by cases s; simp [ofL]
theorem ofL_size (l : List UInt8) : (ofL l).size = l.length := by simp [ofL, ByteArray.size]
theorem list_size (s : ByteArray) : s.data.toList.length = s.size := Array.length_toList

/-- A digit's value. -/
def digH (hex : Bool) (c : UInt8) : Option Nat :=
  if 48 ≤ c.toNat ∧ c.toNat ≤ 57 then some (c.toNat - 48)
  else if hex = true ∧ 65 ≤ c.toNat ∧ c.toNat ≤ 70 then some (c.toNat - 55)
  else if hex = true ∧ 97 ≤ c.toNat ∧ c.toNat ≤ 102 then some (c.toNat - 87)
  else none
theorem digH_lt (hex : Bool) (c : UInt8) (d : Nat) (h : digH hex c = some d) : d < 16 := by
  unfold digH at h
  split at h
  · cases h; omega
  split at h
  · cases h; omega
  split at h
  · cases h; omega
  · cases h
theorem digH_dec (c : UInt8) (d : Nat) (h : digH false c = some d) : d < 10 := by
  unfold digH at h
  split at h
  · cases h; omega
  · simp at h
theorem digH_semi (hex : Bool) : digH hex 59 = none := by cases hex <;> decide

/-- No number is told apart from a greater one beyond all characters. -/
def capN (n : Nat) : Nat := if n ≤ 1114112 then n else 1114112
theorem capN_le (n : Nat) : capN n ≤ 1114112 := by unfold capN; split <;> omega
def stepN (hex : Bool) (v d : Nat) : Nat := capN (if hex = true then 16 * v + d else 10 * v + d)
theorem stepN_le (hex : Bool) (v d : Nat) : stepN hex v d ≤ 1114112 := capN_le _

/-- Digits and a semicolon: the number, and how many bytes. -/
def numF (hex : Bool) : Nat → Nat → List UInt8 → Option (Nat × Nat)
  | _, _, [] => none
  | v, n, c :: t => match digH hex c with
    | some d => numF hex (stepN hex v d) (n + 1) t
    | none => if c = 59 ∧ 0 < n then some (v, n + 1) else none

/-- A name's character; 0: none. -/
def chrF (l : List UInt8) : Nat :=
  if l = [97, 109, 112] then 38 else if l = [108, 116] then 60 else if l = [103, 116] then 62 else if l = [113, 117, 111, 116] then 34 else if l = [97, 112, 111, 115] then 39
  else if l = [110, 98, 115, 112] then 160 else if l = [99, 111, 112, 121] then 169 else if l = [114, 101, 103] then 174 else if l = [104, 101, 108, 108, 105, 112] then 8230
  else if l = [109, 100, 97, 115, 104] then 8212 else if l = [110, 100, 97, 115, 104] then 8211 else 0
theorem chrF_cases (l : List UInt8) : chrF l = 0 ∨ l ∈ ([[97, 109, 112], [108, 116], [103, 116], [113, 117, 111, 116], [97, 112, 111, 115], [110, 98, 115, 112], [99, 111, 112, 121], [114, 101, 103], [104, 101, 108, 108, 105, 112], [109, 100, 97, 115, 104], [110, 100, 97, 115, 104]] : List (List UInt8)) := by
  unfold chrF
  iterate 11 (split; · rename_i h; subst h; right; decide)
  exact .inl rfl
theorem chrF_len (l : List UInt8) (h : chrF l ≠ 0) : 2 ≤ l.length ∧ l.length ≤ 6 := by
  rcases chrF_cases l with h0 | h1
  · exact absurd h0 h
  · have : ∀ x ∈ ([[97, 109, 112], [108, 116], [103, 116], [113, 117, 111, 116], [97, 112, 111, 115], [110, 98, 115, 112], [99, 111, 112, 121], [114, 101, 103], [104, 101, 108, 108, 105, 112], [109, 100, 97, 115, 104], [110, 100, 97, 115, 104]] : List (List UInt8)), 2 ≤ x.length ∧ x.length ≤ 6 := by decide
    exact this l h1
theorem chrF_plain (l : List UInt8) (h : chrF l ≠ 0) : ∀ c ∈ l, c ≠ 38 ∧ c ≠ 59 ∧ c ≠ 35 := by
  rcases chrF_cases l with h0 | h1
  · exact absurd h0 h
  · have : ∀ x ∈ ([[97, 109, 112], [108, 116], [103, 116], [113, 117, 111, 116], [97, 112, 111, 115], [110, 98, 115, 112], [99, 111, 112, 121], [114, 101, 103], [104, 101, 108, 108, 105, 112], [109, 100, 97, 115, 104], [110, 100, 97, 115, 104]] : List (List UInt8)), ∀ c ∈ x, c ≠ 38 ∧ c ≠ 59 ∧ c ≠ 35 := by decide
    exact this l h1
theorem chrF_le (l : List UInt8) : chrF l ≤ 8230 := by
  unfold chrF
  iterate 11 (split; · omega)
  omega

def nameF (t : List UInt8) : List UInt8 := t.takeWhile (· != 59)

/-- What behind & is an entity: its number, and how many bytes, the & among them. -/
def entF (t : List UInt8) : Option (Nat × Nat) :=
  if t.head? = some 35 then
    (if t.tail.head? = some 120 then (numF true 0 0 t.tail.tail).map fun x => (x.1, x.2 + 3)
     else (numF false 0 0 t.tail).map fun x => (x.1, x.2 + 2))
  else if (nameF t).length < t.length ∧ chrF (nameF t) ≠ 0 then some (chrF (nameF t), (nameF t).length + 2) else none

def badV (v : Nat) : Prop := 1114111 < v ∨ (55296 ≤ v ∧ v ≤ 57343)
instance (v : Nat) : Decidable (badV v) := inferInstanceAs (Decidable (_ ∨ _))

def prep (a : List UInt8) : Except Nat (List UInt8) → Except Nat (List UInt8)
  | .ok x => .ok (a ++ x)
  | .error e => .error e
theorem prep_prep (a b : List UInt8) (r : Except Nat (List UInt8)) : prep a (prep b r) = prep (a ++ b) r := by cases r <;> simp [prep]
theorem prep_nil (r : Except Nat (List UInt8)) : prep [] r = r := by cases r <;> rfl

/-- A text with its entities replaced: k bytes of it are passed over first; 'at' is its place. -/
def ents : Nat → Nat → List UInt8 → Except Nat (List UInt8)
  | _, _, [] => .ok []
  | k + 1, p, _ :: t => ents k (p + 1) t
  | 0, p, c :: t =>
    if c = 38 then (match entF t with
      | none => prep [38] (ents 0 (p + 1) t)
      | some (v, n) => if badV v then .error p else prep (encodeRune v) (ents (n - 1) (p + 1) t))
    else prep [c] (ents 0 (p + 1) t)

theorem ents_skip : ∀ (k p : Nat) (l : List UInt8), ents k p l = ents 0 (p + k) (l.drop k)
  | 0, p, l => by simp
  | k + 1, p, [] => by simp [ents]
  | k + 1, p, c :: t => by rw [ents, ents_skip k (p + 1) t, List.drop_succ_cons]; congr 1; omega
theorem ents_none (p : Nat) (t : List UInt8) (h : entF t = none) : ents 0 p (38 :: t) = prep [38] (ents 0 (p + 1) t) := by rw [ents, if_pos rfl, h]
theorem ents_bad (p v n : Nat) (t : List UInt8) (h : entF t = some (v, n)) (hb : badV v) : ents 0 p (38 :: t) = .error p := by rw [ents, if_pos rfl, h]; exact if_pos hb
theorem ents_some (p v n : Nat) (t : List UInt8) (h : entF t = some (v, n)) (hb : ¬ badV v) (hn : 0 < n) : ents 0 p (38 :: t) = prep (encodeRune v) (ents 0 (p + n) (t.drop (n - 1))) := by
  rw [ents, if_pos rfl, h]
  show (if badV v then _ else _) = _
  rw [if_neg hb, ents_skip]
  congr 2; omega
theorem ents_plain (p : Nat) (c : UInt8) (t : List UInt8) (h : c ≠ 38) : ents 0 p (c :: t) = prep [c] (ents 0 (p + 1) t) := by rw [ents, if_neg h]
theorem ents_free : ∀ (a : List UInt8) (p : Nat) (t : List UInt8), (∀ c ∈ a, c ≠ 38) → ents 0 p (a ++ t) = prep a (ents 0 (p + a.length) t)
  | [], p, t, _ => by simp [prep_nil]
  | c :: a, p, t, h => by
    rw [List.cons_append, ents_plain p c _ (h c (by simp)), ents_free a (p + 1) t (fun x hx => h x (by simp [hx])), prep_prep]
    simp only [List.length_cons, List.singleton_append]
    congr 2; omega

/-- How long an entity is: at least four bytes, and no longer than what is there. -/
theorem numF_len (hex : Bool) : ∀ (l : List UInt8) (v n : Nat) (r : Nat × Nat), numF hex v n l = some r → 2 ≤ r.2 ∧ r.2 ≤ n + l.length
  | [], _, _, _, h => by cases h
  | c :: t, v, n, r, h => by
    rw [numF] at h
    split at h
    · have := numF_len hex t _ _ r h
      simp only [List.length_cons]; omega
    · split at h
      · cases h; simp only [List.length_cons]; omega
      · cases h
theorem numF_le (hex : Bool) : ∀ (l : List UInt8) (v n : Nat) (r : Nat × Nat), v ≤ 1114112 → numF hex v n l = some r → r.1 ≤ 1114112
  | [], _, _, _, _, h => by cases h
  | c :: t, v, n, r, hv, h => by
    rw [numF] at h
    split at h
    · exact numF_le hex t _ _ r (stepN_le _ _ _) h
    · split at h
      · cases h; exact hv
      · cases h
theorem entF_len (t : List UInt8) (v n : Nat) (h : entF t = some (v, n)) : 4 ≤ n ∧ n ≤ t.length + 1 ∧ v ≤ 1114112 := by
  unfold entF at h
  split at h
  · rename_i h0
    have l1 : t.length = t.tail.length + 1 := by cases t with | nil => cases h0 | cons => simp
    split at h
    · rename_i h1
      have l2 : t.tail.length = t.tail.tail.length + 1 := by cases ht : t.tail with | nil => rw [ht] at h1; cases h1 | cons => simp
      cases hn : numF true 0 0 t.tail.tail with
      | none => rw [hn] at h; cases h
      | some r =>
        rw [hn] at h
        simp only [Option.map_some, Option.some.injEq, Prod.mk.injEq] at h
        have a1 := numF_len true _ _ _ _ hn
        have a2 := numF_le true _ _ _ _ (by omega) hn
        omega
    · cases hn : numF false 0 0 t.tail with
      | none => rw [hn] at h; cases h
      | some r =>
        rw [hn] at h
        simp only [Option.map_some, Option.some.injEq, Prod.mk.injEq] at h
        have a1 := numF_len false _ _ _ _ hn
        have a2 := numF_le false _ _ _ _ (by omega) hn
        omega
  · split at h
    · rename_i h1
      cases h
      have := chrF_len _ h1.2
      have := chrF_le (nameF t)
      omega
    · cases h

/-! Words. -/
def gapB (c : UInt8) : Bool := c == 32 || c == 9 || c == 10 || c == 13
def wordsF : List UInt8 → List UInt8 → List (List UInt8)
  | cur, [] => if cur = [] then [] else [cur]
  | cur, c :: t => if gapB c = true then (if cur = [] then wordsF [] t else cur :: wordsF [] t) else wordsF (cur ++ [c]) t

/-! Lines. -/
def trimB (c : UInt8) : Bool := c == 32 || c == 9
/-- The lines: 'cr': a 13 has just ended one. -/
def linesF : Bool → List UInt8 → List UInt8 → List (List UInt8)
  | _, cur, [] => [cur]
  | cr, cur, c :: t =>
    if c = 10 then (if cr = true then linesF false cur t else cur :: linesF false [] t)
    else if c = 13 then cur :: linesF true [] t
    else linesF false (cur ++ [c]) t
def leadL (l : List UInt8) : List UInt8 := l.dropWhile trimB
def trailL (l : List UInt8) : List UInt8 := (l.reverse.dropWhile trimB).reverse
def oneL (first last : Bool) (l : List UInt8) : List UInt8 :=
  let a := if first = true then l else leadL l
  if last = true then a else trailL a
/-- What is shown of lines; 'first': the first is the text's. -/
def lineL (first : Bool) : List (List UInt8) → List (List UInt8)
  | [] => []
  | [l] => if oneL first true l = [] then [] else [oneL first true l]
  | l :: m :: r => if oneL first false l = [] then lineL false (m :: r) else oneL first false l :: lineL false (m :: r)
def joinL : List (List UInt8) → List UInt8
  | [] => []
  | [a] => a
  | a :: b :: r => a ++ 32 :: joinL (b :: r)
def shownF (l : List UInt8) : List UInt8 := joinL (lineL true (linesF false [] l))

end Jsx
end Go.Proofs.YtcalgpkcefccmaaDoor
