/-
  String literals as lists of bytes: what a part of one is, and how it reads: no program is named here.
-/
import Derived.Test.YtggibhlmnfodaaaDoorUniDecode
namespace Go.Proofs.YtggibhlmnfodaaaDoor
namespace Str
open Go.RowKit

/-- A list of bytes as a text. -/
def ofL (l : List UInt8) : ByteArray := ⟨l.toArray⟩
/-- What a text holds from a place on. -/
def sufL (s : ByteArray) (i : Nat) : List UInt8 := s.data.toList.drop i

theorem getD_lt (l : List UInt8) (k : Nat) (h : k < l.length) : l.getD k 0 = l[k] := by rw [List.getD_eq_getElem?_getD, List.getElem?_eq_getElem h]; rfl
theorem getD_ge (l : List UInt8) (k : Nat) (h : l.length ≤ k) : l.getD k 0 = 0 := by rw [List.getD_eq_getElem?_getD, List.getElem?_eq_none h]; rfl
theorem pos_of_ne {l : List UInt8} (h : l ≠ []) : 0 < l.length := List.length_pos_iff.2 h

theorem byteN_getD (s : ByteArray) (k : Nat) : Uni.byteN s k = (s.data.toList.getD k 0).toNat := by
  by_cases h : k < s.size
  · rw [← Uni.byteN_at s k h]
    have h' : k < s.data.toList.length := by simpa using h
    rw [getD_lt _ _ h']
    rfl
  · have h' : s.data.toList.length ≤ k := by simpa using h
    rw [getD_ge _ _ h']
    unfold Uni.byteN ByteArray.get!
    have : s.data.size ≤ k := by simpa using h
    simp only [Array.getElem!_eq_getD, Array.getD, dif_neg (Nat.not_lt.2 this)]; rfl
theorem ofL_size (l : List UInt8) : (ofL l).size = l.length := rfl
theorem ofL_list (l : List UInt8) : (ofL l).data.toList = l := rfl
theorem byteN_ofL (l : List UInt8) (k : Nat) : Uni.byteN (ofL l) k = (l.getD k 0).toNat := by rw [byteN_getD, ofL_list]
theorem suf_getD (s : ByteArray) (i k : Nat) : (sufL s i).getD k 0 = s.data.toList.getD (i + k) 0 := by
  simp [sufL, List.getD_eq_getElem?_getD]
theorem suf_len (s : ByteArray) (i : Nat) : (sufL s i).length = s.size - i := by simp [sufL]
theorem suf_cons (s : ByteArray) (i : Nat) (h : i < s.size) : sufL s i = s[i] :: sufL s (i + 1) := by
  have h' : i < s.data.toList.length := by simpa using h
  rw [sufL, List.drop_eq_getElem_cons h']; rfl
theorem suf_nil (s : ByteArray) (i : Nat) (h : ¬ i < s.size) : sufL s i = [] := by
  rw [sufL, List.drop_eq_nil_iff]; simp; omega
theorem suf_drop (s : ByteArray) (i k : Nat) : (sufL s i).drop k = sufL s (i + k) := by
  simp [sufL, List.drop_drop]

/-- A character's length tells itself by its own bytes. -/
theorem lenN_keep (s t : ByteArray) (i j n : Nat) (h : Uni.lenN s i = n) (h0 : n ≠ 0) (hb : ∀ k, k < n → Uni.byteN s (i + k) = Uni.byteN t (j + k)) (ht : j + n ≤ t.size) :
    Uni.lenN t j = n ∧ Uni.runeN t j = Uni.runeN s i := by
  have hl : Uni.lenN t j = n := by
    have e0 := hb 0 (by omega)
    rw [Nat.add_zero, Nat.add_zero] at e0
    rw [Uni.lenN] at h ⊢
    rw [← e0]
    by_cases c1 : Uni.byteN s i < 128
    · rw [if_pos c1] at h ⊢; exact h
    rw [if_neg c1] at h ⊢
    by_cases c2 : 194 ≤ Uni.byteN s i ∧ Uni.byteN s i < 224
    · by_cases t1 : Uni.tailB s (i + 1) = true
      · rw [if_pos ⟨c2.1, c2.2, t1⟩] at h
        have e1 := hb 1 (by omega)
        rw [if_pos ⟨c2.1, c2.2, by simp only [Uni.tailB, decide_eq_true_eq] at t1 ⊢; omega⟩]; exact h
      · rw [if_neg (fun x => t1 x.2.2), if_neg (by omega), if_neg (by omega)] at h
        omega
    rw [if_neg (fun x => c2 ⟨x.1, x.2.1⟩)] at h ⊢
    by_cases c3 : 224 ≤ Uni.byteN s i ∧ Uni.byteN s i < 240
    · by_cases t1 : Uni.tailB s (i + 1) = true ∧ Uni.tailB s (i + 2) = true
      · rw [if_pos ⟨c3.1, c3.2, t1.1, t1.2⟩] at h
        have hn : n = 3 := by
          revert h; split
          · intro h; omega
          · intro h; omega
        subst hn
        have e1 := hb 1 (by omega)
        have e2 := hb 2 (by omega)
        obtain ⟨t1, t2⟩ := t1
        rw [if_pos ⟨c3.1, c3.2, by simp only [Uni.tailB, decide_eq_true_eq] at t1 ⊢; omega, by simp only [Uni.tailB, decide_eq_true_eq] at t2 ⊢; omega⟩, ← e1]; exact h
      · rw [if_neg (fun x => t1 x.2.2), if_neg (by omega)] at h
        omega
    rw [if_neg (fun x => c3 ⟨x.1, x.2.1⟩)] at h ⊢
    by_cases c4 : 240 ≤ Uni.byteN s i ∧ Uni.byteN s i < 245
    · by_cases t1 : Uni.tailB s (i + 1) = true ∧ Uni.tailB s (i + 2) = true ∧ Uni.tailB s (i + 3) = true
      · rw [if_pos ⟨c4.1, c4.2, t1.1, t1.2.1, t1.2.2⟩] at h
        have hn : n = 4 := by
          revert h; split
          · intro h; omega
          · intro h; omega
        subst hn
        have e1 := hb 1 (by omega)
        have e2 := hb 2 (by omega)
        have e3 := hb 3 (by omega)
        obtain ⟨t1, t2, t3⟩ := t1
        rw [if_pos ⟨c4.1, c4.2, by simp only [Uni.tailB, decide_eq_true_eq] at t1 ⊢; omega, by simp only [Uni.tailB, decide_eq_true_eq] at t2 ⊢; omega, by simp only [Uni.tailB, decide_eq_true_eq] at t3 ⊢; omega⟩, ← e1]; exact h
      · rw [if_neg (fun x => t1 x.2.2)] at h
        omega
    · rw [if_neg (fun x => c4 ⟨x.1, x.2.1⟩)] at h
      omega
  refine ⟨hl, ?_⟩
  unfold Uni.runeN
  rw [hl, h]
  have e0 := hb 0 (by omega)
  rw [Nat.add_zero, Nat.add_zero] at e0
  rw [← e0]
  by_cases n2 : n = 2
  · rw [if_pos n2, if_pos n2, hb 1 (by omega)]
  rw [if_neg n2, if_neg n2]
  by_cases n3 : n = 3
  · rw [if_pos n3, if_pos n3, hb 1 (by omega), hb 2 (by omega)]
  rw [if_neg n3, if_neg n3]
  by_cases n4 : n = 4
  · rw [if_pos n4, if_pos n4, hb 1 (by omega), hb 2 (by omega), hb 3 (by omega)]
  rw [if_neg n4, if_neg n4]

/-- What a character's bytes are. -/
theorem lenN_bytes (s : ByteArray) (i : Nat) : (Uni.lenN s i = 0 ∧ 128 ≤ Uni.byteN s i) ∨ (Uni.lenN s i = 1 ∧ Uni.byteN s i < 128) ∨
    (2 ≤ Uni.lenN s i ∧ 194 ≤ Uni.byteN s i ∧ ∀ k, 1 ≤ k → k < Uni.lenN s i → i + k < s.size ∧ 128 ≤ Uni.byteN s (i + k)) := by
  rw [Uni.lenN]
  by_cases c1 : Uni.byteN s i < 128
  · rw [if_pos c1]; exact Or.inr (Or.inl ⟨rfl, c1⟩)
  rw [if_neg c1]
  have hT : ∀ j, Uni.tailB s j = true → j < s.size ∧ 128 ≤ Uni.byteN s j := by intro j h; simp only [Uni.tailB, decide_eq_true_eq] at h; omega
  split
  · rename_i h
    refine Or.inr (Or.inr ⟨by omega, h.1, fun k h1 h2 => ?_⟩)
    obtain rfl : k = 1 := by omega
    exact hT _ h.2.2
  split
  · rename_i h
    split
    · exact Or.inl ⟨rfl, by omega⟩
    · refine Or.inr (Or.inr ⟨by omega, by omega, fun k h1 h2 => ?_⟩)
      obtain rfl | rfl : k = 1 ∨ k = 2 := by omega
      · exact hT _ h.2.2.1
      · exact hT _ h.2.2.2
  split
  · rename_i h
    split
    · exact Or.inl ⟨rfl, by omega⟩
    · refine Or.inr (Or.inr ⟨by omega, by omega, fun k h1 h2 => ?_⟩)
      obtain rfl | rfl | rfl : k = 1 ∨ k = 2 ∨ k = 3 := by omega
      · exact hT _ h.2.2.1
      · exact hT _ h.2.2.2.1
      · exact hT _ h.2.2.2.2
  · exact Or.inl ⟨rfl, by omega⟩

theorem rune_bound (s : ByteArray) (i : Nat) (h : Uni.lenN s i ≠ 0) : Uni.runeN s i ≤ 1114111 ∧ (2 ≤ Uni.lenN s i → 128 ≤ Uni.runeN s i) ∧ (Uni.lenN s i = 1 → Uni.runeN s i = Uni.byteN s i) := by
  have b1 := Uni.byteN_lt s (i + 1)
  unfold Uni.runeN
  rw [Uni.lenN] at h ⊢
  by_cases c1 : Uni.byteN s i < 128
  · rw [if_pos c1] at h ⊢; simp; omega
  rw [if_neg c1] at h ⊢
  by_cases c2 : 194 ≤ Uni.byteN s i ∧ Uni.byteN s i < 224 ∧ Uni.tailB s (i + 1) = true
  · rw [if_pos c2] at h ⊢; simp; omega
  rw [if_neg c2] at h ⊢
  by_cases c3 : 224 ≤ Uni.byteN s i ∧ Uni.byteN s i < 240 ∧ Uni.tailB s (i + 1) = true ∧ Uni.tailB s (i + 2) = true
  · rw [if_pos c3] at h ⊢
    obtain ⟨_, _, t1, _⟩ := c3
    simp only [Uni.tailB, decide_eq_true_eq] at t1
    by_cases d : Uni.byteN s i = 224 ∧ Uni.byteN s (i + 1) < 160 ∨ Uni.byteN s i = 237 ∧ 160 ≤ Uni.byteN s (i + 1)
    · rw [if_pos d] at h; omega
    · rw [if_neg d]; simp; omega
  rw [if_neg c3] at h ⊢
  by_cases c4 : 240 ≤ Uni.byteN s i ∧ Uni.byteN s i < 245 ∧ Uni.tailB s (i + 1) = true ∧ Uni.tailB s (i + 2) = true ∧ Uni.tailB s (i + 3) = true
  · rw [if_pos c4] at h ⊢
    obtain ⟨_, _, t1, _⟩ := c4
    simp only [Uni.tailB, decide_eq_true_eq] at t1
    by_cases d : Uni.byteN s i = 240 ∧ Uni.byteN s (i + 1) < 144 ∨ Uni.byteN s i = 244 ∧ 144 ≤ Uni.byteN s (i + 1)
    · rw [if_pos d] at h; omega
    · rw [if_neg d]; simp; omega
  rw [if_neg c4] at h
  omega

/-- How long the character is that a list begins with; 0: it begins with none. -/
def lenL (l : List UInt8) : Nat := if l = [] then 0 else Uni.lenN (ofL l) 0
def runeL (l : List UInt8) : Nat := Uni.runeN (ofL l) 0

theorem len_suf (s : ByteArray) (i : Nat) (h : i < s.size) : lenL (sufL s i) = Uni.lenN s i ∧ runeL (sufL s i) = Uni.runeN s i := by
  have hne : sufL s i ≠ [] := by rw [suf_cons s i h]; exact List.cons_ne_nil _ _
  have hb : ∀ k, Uni.byteN (ofL (sufL s i)) (0 + k) = Uni.byteN s (i + k) := by
    intro k
    rw [byteN_ofL, byteN_getD, Nat.zero_add, suf_getD]
  have hsz : (ofL (sufL s i)).size = s.size - i := by rw [ofL_size, suf_len]
  unfold lenL runeL
  rw [if_neg hne]
  have hT : ∀ k, Uni.tailB (ofL (sufL s i)) (0 + k) = Uni.tailB s (i + k) := by
    intro k
    rw [Bool.eq_iff_iff]
    simp only [Uni.tailB, decide_eq_true_eq, hb, hsz]
    omega
  have h0 := hb 0
  rw [Nat.zero_add, Nat.add_zero] at h0
  have hlen : Uni.lenN (ofL (sufL s i)) 0 = Uni.lenN s i := by
    unfold Uni.lenN
    rw [h0, hb 1, hT 1, hT 2, hT 3]
  refine ⟨hlen, ?_⟩
  unfold Uni.runeN
  rw [hlen, h0, hb 1, hb 2, hb 3]

theorem lenL_le (l : List UInt8) : lenL l ≤ l.length := by
  unfold lenL
  split
  · omega
  · rename_i h
    have h' : 0 < (ofL l).size := by rw [ofL_size]; exact pos_of_ne h
    have := Uni.lenN_le (ofL l) 0 h'
    rw [ofL_size] at this
    omega

theorem lenL_keep (p m m' : List UInt8) (h : lenL (p ++ m) = p.length) (h0 : p ≠ []) : lenL (p ++ m') = p.length ∧ runeL (p ++ m') = runeL (p ++ m) := by
  have n1 : p ++ m ≠ [] := by simp [h0]
  have n2 : p ++ m' ≠ [] := by simp [h0]
  have hp := pos_of_ne h0
  unfold lenL at h ⊢
  unfold runeL
  rw [if_neg n1] at h
  rw [if_neg n2]
  refine lenN_keep _ _ 0 0 p.length h (by omega) (fun k hk => ?_) (by rw [ofL_size, List.length_append]; omega)
  rw [byteN_ofL, byteN_ofL, Nat.zero_add, List.getD_eq_getElem?_getD, List.getD_eq_getElem?_getD, List.getElem?_append_left hk, List.getElem?_append_left hk]

/-- What a character's bytes are. -/
theorem lenL_cons (x : UInt8) (l : List UInt8) : (lenL (x :: l) = 0 ∧ 128 ≤ x.toNat) ∨ (lenL (x :: l) = 1 ∧ x.toNat < 128 ∧ runeL (x :: l) = x.toNat) ∨
    (2 ≤ lenL (x :: l) ∧ 128 ≤ x.toNat ∧ 128 ≤ runeL (x :: l) ∧ ∀ y ∈ l.take (lenL (x :: l) - 1), 128 ≤ y.toNat) := by
  have hn : x :: l ≠ [] := List.cons_ne_nil _ _
  unfold lenL runeL
  rw [if_neg hn]
  have hb : Uni.byteN (ofL (x :: l)) 0 = x.toNat := by rw [byteN_ofL]; rfl
  have hr := rune_bound (ofL (x :: l)) 0
  rcases lenN_bytes (ofL (x :: l)) 0 with ⟨h1, h2⟩ | ⟨h1, h2⟩ | ⟨h1, h2, h3⟩
  · exact Or.inl ⟨h1, by omega⟩
  · refine Or.inr (Or.inl ⟨h1, by omega, ?_⟩)
    rw [(hr (by omega)).2.2 h1, hb]
  · refine Or.inr (Or.inr ⟨h1, by omega, (hr (by omega)).2.1 h1, fun y hy => ?_⟩)
    obtain ⟨k, hk, rfl⟩ := List.mem_iff_getElem.1 hy
    rw [List.length_take] at hk
    have := h3 (k + 1) (by omega) (by omega)
    rw [byteN_ofL, Nat.zero_add, List.getD_cons_succ, getD_lt _ _ (by omega)] at this
    rw [List.getElem_take]
    exact this.2
theorem runeL_le (l : List UInt8) (h : lenL l ≠ 0) : runeL l ≤ 1114111 := by
  unfold lenL at h
  unfold runeL
  split at h
  · omega
  · exact (rune_bound _ _ h).1

/-- A byte's worth as a hexadecimal digit; -1: it is none. -/
def hexV (c : Int) : Int := if 48 ≤ c ∧ c ≤ 57 then c - 48 else if 65 ≤ c ∧ c ≤ 70 then c - 55 else if 97 ≤ c ∧ c ≤ 102 then c - 87 else -1
theorem hexV_range (c : Int) : -1 ≤ hexV c ∧ hexV c ≤ 15 := by unfold hexV; split <;> (try split) <;> (try split) <;> omega
theorem hexV_none : hexV (-1) = -1 := by decide

/-- So many hexadecimal digits: how many bytes went, and the number. -/
def runL : Nat → Nat → List UInt8 → Nat × Option Nat
  | 0, v, _ => (0, some v)
  | _ + 1, _, [] => (0, none)
  | n + 1, v, x :: l => if hexV x.toNat < 0 then (0, none) else ((runL n (v * 16 + (hexV x.toNat).toNat) l).1 + 1, (runL n (v * 16 + (hexV x.toNat).toNat) l).2)
/-- Digits up to a closing brace. -/
def braL : Bool → Nat → List UInt8 → Nat × Option Nat
  | _, _, [] => (0, none)
  | f, v, x :: l => if 0 ≤ hexV x.toNat then ((braL false (if v ≤ 1114111 then v * 16 + (hexV x.toNat).toNat else v) l).1 + 1, (braL false (if v ≤ 1114111 then v * 16 + (hexV x.toNat).toNat else v) l).2)
    else if x = 125 ∧ f = false ∧ v ≤ 1114111 then (1, some v) else (0, none)
def ahead (k : Nat) (r : Nat × Option Nat) : Nat × Option Int := (k + r.1, r.2.map Int.ofNat)
def digHead : List UInt8 → Bool
  | [] => false
  | x :: _ => decide (48 ≤ x.toNat ∧ x.toNat ≤ 57)
/-- What an escaped character stands for; -1: for nothing. -/
def denV (c : Int) : Int := if c = 98 then 8 else if c = 116 then 9 else if c = 110 then 10 else if c = 118 then 11 else if c = 102 then 12 else if c = 114 then 13 else if Uni.endsB c = true then -1 else c
/-- What stands behind a backslash: how many bytes went, and what it stands for. -/
def escL : List UInt8 → Nat × Option Int
  | [] => (0, none)
  | x :: l =>
    if x = 120 then ahead 1 (runL 2 0 l)
    else if x = 117 then (if l.head? = some 123 then ahead 2 (braL true 0 l.tail) else ahead 1 (runL 4 0 l))
    else if x = 48 then (1, if digHead l = true then none else some 0)
    else if 49 ≤ x.toNat ∧ x.toNat ≤ 57 then (0, none)
    else if x = 13 then (if l.head? = some 10 then 2 else 1, some (-1))
    else (lenL (x :: l), if lenL (x :: l) = 0 then none else some (denV (runeL (x :: l))))
/-- A part: how many bytes went, and what it stands for. -/
def partL : List UInt8 → Nat × Option Int
  | [] => (0, none)
  | x :: l => if x = 92 then ((escL l).1 + 1, (escL l).2) else if x = 10 ∨ x = 13 then (0, none)
    else (lenL (x :: l), if lenL (x :: l) = 0 then none else some (runeL (x :: l) : Int))

theorem run_le : ∀ n v l, (runL n v l).1 ≤ l.length ∧ ((runL n v l).2.isSome = true → (runL n v l).1 = n)
  | 0, v, l => by simp [runL]
  | n + 1, v, [] => by simp [runL]
  | n + 1, v, x :: l => by
    rw [runL]
    split
    · simp
    · have := run_le n (v * 16 + (hexV x.toNat).toNat) l
      exact ⟨by simp; exact this.1, fun h => by simp [this.2 h]⟩
theorem bra_le : ∀ f v l, (braL f v l).1 ≤ l.length ∧ ((braL f v l).2.isSome = true → 1 ≤ (braL f v l).1)
  | f, v, [] => by simp [braL]
  | f, v, x :: l => by
    rw [braL]
    split
    · have := bra_le false (if v ≤ 1114111 then v * 16 + (hexV x.toNat).toNat else v) l
      exact ⟨by simp; exact this.1, fun h => by simp⟩
    · split
      · simp
      · simp
theorem esc_le (l : List UInt8) : (escL l).1 ≤ l.length ∧ ((escL l).2.isSome = true → 1 ≤ (escL l).1) := by
  match l with
  | [] => simp [escL]
  | x :: l =>
    rw [escL]
    split
    · have := run_le 2 0 l
      exact ⟨by simp [ahead]; omega, fun h => by simp [ahead]⟩
    split
    · split
      · rename_i h
        match l, h with
        | y :: m, h =>
          have := bra_le true 0 m
          exact ⟨by simp [ahead]; omega, fun h => by simp [ahead]; omega⟩
      · have := run_le 4 0 l
        exact ⟨by simp [ahead]; omega, fun h => by simp [ahead]⟩
    split
    · exact ⟨by simp, fun _ => by simp⟩
    split
    · simp
    split
    · by_cases h : l.head? = some 10
      · match l, h with
        | y :: m, h => rw [if_pos h]; simp
      · rw [if_neg h]; simp
    · have := lenL_le (x :: l)
      refine ⟨this, fun h => ?_⟩
      show 1 ≤ lenL (x :: l)
      by_cases e : lenL (x :: l) = 0
      · rw [if_pos e] at h; cases h
      · omega
theorem part_le (l : List UInt8) : (partL l).1 ≤ l.length ∧ ((partL l).2.isSome = true → 1 ≤ (partL l).1) := by
  match l with
  | [] => simp [partL]
  | x :: l =>
    rw [partL]
    split
    · have := esc_le l
      exact ⟨by simp; exact this.1, fun _ => by simp⟩
    split
    · simp
    · have := lenL_le (x :: l)
      refine ⟨this, fun h => ?_⟩
      show 1 ≤ lenL (x :: l)
      by_cases e : lenL (x :: l) = 0
      · rw [if_pos e] at h; cases h
      · omega

end Str
end Go.Proofs.YtggibhlmnfodaaaDoor
