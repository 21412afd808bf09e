/-
  The law on signs side by side: what it says of the texts.
-/
import Derived.Test.YtfnilkhccomemaaDoorLexTemT
namespace Go.Proofs.YtfnilkhccomemaaDoor
namespace Lex
open Go.RowKit
open Str (lenL runeL)

def signs : List (List UInt8) := [[123], [125], [40], [41], [91], [93], [46], [46, 46, 46], [59], [44], [60], [62], [60, 61], [62, 61], [61, 61], [33, 61], [61, 61, 61], [33, 61, 61], [43], [45], [42], [37], [42, 42], [43, 43], [45, 45], [60, 60], [62, 62], [62, 62, 62], [38], [124], [94], [33], [126], [38, 38], [124, 124], [63, 63], [63], [63, 46], [58], [61], [43, 61], [45, 61], [42, 61], [37, 61], [42, 42, 61], [60, 60, 61], [62, 62, 61], [62, 62, 62, 61], [38, 61], [124, 61], [94, 61], [38, 38, 61], [124, 124, 61], [63, 63, 61], [61, 62], [47], [47, 61]]
def signOf (j : Nat) : ByteArray := Str.ofL (signs.getD j [])
def sgnC (c : UInt8) : Bool := [123, 125, 40, 41, 91, 93, 46, 59, 44, 60, 62, 43, 45, 42, 37, 38, 124, 94, 33, 126, 63, 58, 61, 47].elem c
theorem signs_ok : ∀ p ∈ signs, p ≠ [] ∧ p.length ≤ 4 ∧ p.all sgnC = true := by decide
theorem sgn_cases {c : UInt8} (h : sgnC c = true) : c = 123 ∨ c = 125 ∨ c = 40 ∨ c = 41 ∨ c = 91 ∨ c = 93 ∨ c = 46 ∨ c = 59 ∨ c = 44 ∨ c = 60 ∨ c = 62 ∨ c = 43 ∨ c = 45 ∨ c = 42 ∨ c = 37 ∨ c = 38 ∨ c = 124 ∨ c = 94 ∨ c = 33 ∨ c = 126 ∨ c = 63 ∨ c = 58 ∨ c = 61 ∨ c = 47 := by
  have h' := List.elem_iff.1 h
  simp only [List.mem_cons, List.not_mem_nil, or_false] at h'
  exact h'
set_option maxRecDepth 10000 in
theorem sign_one {c : UInt8} (h : sgnC c = true) : [c] ∈ signs := by
  rcases sgn_cases h with rfl | rfl | rfl | rfl | rfl | rfl | rfl | rfl | rfl | rfl | rfl | rfl | rfl | rfl | rfl | rfl | rfl | rfl | rfl | rfl | rfl | rfl | rfl | rfl <;> decide
set_option maxRecDepth 10000 in
theorem joined_sign : ∀ p ∈ joinL, p ∈ signs := by decide
set_option maxRecDepth 10000 in
theorem sign_joined : ∀ p ∈ signs, 2 ≤ p.length → p ∈ joinL := by decide
theorem sgn_dig {c : UInt8} (h : sgnC c = true) : digC c.toNat = false := by
  rcases sgn_cases h with rfl | rfl | rfl | rfl | rfl | rfl | rfl | rfl | rfl | rfl | rfl | rfl | rfl | rfl | rfl | rfl | rfl | rfl | rfl | rfl | rfl | rfl | rfl | rfl <;> decide
theorem dig_no : ∀ l : List UInt8, l.all sgnC = true → digAt l = false
  | [], _ => rfl
  | c :: l, h => by
    rw [List.all_cons, Bool.and_eq_true] at h
    exact sgn_dig h.1
theorem drop_all (l : List UInt8) (k : Nat) (h : l.all sgnC = true) : (l.drop k).all sgnC = true := by
  rw [List.all_eq_true] at h ⊢
  exact fun x hx => h x (List.mem_of_mem_drop hx)
theorem sign_is (l : List UInt8) (k : Nat) (h : l.all sgnC = true) : signB l k = true ↔ l.take k ∈ joinL := by
  unfold signB
  by_cases e : l.take k = [63, 46]
  · rw [if_pos e, dig_no _ (drop_all l k h), e]; decide
  · rw [if_neg e, joinB, List.elem_iff]
theorem sign_up (l : List UInt8) (k : Nat) (h : l.all sgnC = true) (hk : k ≤ l.length) (hs : l.take k ∈ signs) : k ≤ signN l := by
  have h4 : k ≤ 4 := by
    have := (signs_ok _ hs).2.1
    rw [List.length_take] at this; omega
  by_cases h2 : 2 ≤ k
  · have h3 := (sign_is l k h).2 (sign_joined _ hs (by rw [List.length_take]; omega))
    unfold signN
    split
    · omega
    · rename_i c4
      split
      · rename_i c3
        by_cases e : k = 4
        · subst e; exact absurd ⟨hk, h3⟩ c4
        · omega
      · rename_i c3
        split
        · by_cases e : k = 4
          · subst e; exact absurd ⟨hk, h3⟩ c4
          by_cases e : k = 3
          · subst e; exact absurd ⟨hk, h3⟩ c3
          omega
        · rename_i c2
          by_cases e : k = 4
          · subst e; exact absurd ⟨hk, h3⟩ c4
          by_cases e : k = 3
          · subst e; exact absurd ⟨hk, h3⟩ c3
          have e : k = 2 := by omega
          subst e; exact absurd ⟨hk, h3⟩ c2
  · have : 1 ≤ signN l := by unfold signN; split; · omega
                             split; · omega
                             split <;> omega
    omega
theorem sign_in (l : List UInt8) (h : l.all sgnC = true) (h0 : l ≠ []) : l.take (signN l) ∈ signs ∧ signN l ≤ l.length ∧ 1 ≤ signN l := by
  unfold signN
  split
  · rename_i c; exact ⟨joined_sign _ ((sign_is l 4 h).1 c.2), c.1, by omega⟩
  split
  · rename_i c; exact ⟨joined_sign _ ((sign_is l 3 h).1 c.2), c.1, by omega⟩
  split
  · rename_i c; exact ⟨joined_sign _ ((sign_is l 2 h).1 c.2), c.1, by omega⟩
  cases l with
  | nil => exact absurd rfl h0
  | cons c t =>
    rw [List.all_cons, Bool.and_eq_true] at h
    exact ⟨sign_one h.1, by rw [List.length_cons]; omega, Nat.le_refl _⟩

/-! The longest one. -/
def longer (s r a : List UInt8) : List UInt8 := if a.length ≤ s.length ∧ s.take a.length = a ∧ r.length < a.length then a else r
theorem fold_long (s : List UInt8) : ∀ (P : List (List UInt8)) (r0 : List UInt8), (r0.length ≤ s.length ∧ s.take r0.length = r0) →
    ((P.foldl (longer s) r0).length ≤ s.length ∧ s.take (P.foldl (longer s) r0).length = P.foldl (longer s) r0) ∧ r0.length ≤ (P.foldl (longer s) r0).length ∧
    (∀ a ∈ P, a.length ≤ s.length → s.take a.length = a → a.length ≤ (P.foldl (longer s) r0).length) ∧ (P.foldl (longer s) r0 = r0 ∨ P.foldl (longer s) r0 ∈ P)
  | [], r0, h => ⟨h, Nat.le_refl _, fun _ ha => (nomatch ha), Or.inl rfl⟩
  | p :: P, r0, h => by
    rw [List.foldl_cons]
    by_cases c : p.length ≤ s.length ∧ s.take p.length = p ∧ r0.length < p.length
    · have e : longer s r0 p = p := by rw [longer, if_pos c]
      rw [e]
      obtain ⟨h1, h2, h3, h4⟩ := fold_long s P p ⟨c.1, c.2.1⟩
      refine ⟨h1, by omega, fun a ha k1 k2 => ?_, ?_⟩
      · rcases List.mem_cons.1 ha with rfl | ha
        · exact h2
        · exact h3 a ha k1 k2
      · rcases h4 with h4 | h4
        · rw [h4]; exact Or.inr List.mem_cons_self
        · exact Or.inr (List.mem_cons_of_mem _ h4)
    · have e : longer s r0 p = r0 := by rw [longer, if_neg c]
      rw [e]
      obtain ⟨h1, h2, h3, h4⟩ := fold_long s P r0 h
      refine ⟨h1, h2, fun a ha k1 k2 => ?_, ?_⟩
      · rcases List.mem_cons.1 ha with rfl | ha
        · by_cases k : r0.length < a.length
          · exact absurd ⟨k1, k2, k⟩ c
          · omega
        · exact h3 a ha k1 k2
      · rcases h4 with h4 | h4
        · exact Or.inl h4
        · exact Or.inr (List.mem_cons_of_mem _ h4)
theorem long_sign (s : List UInt8) (h : s.all sgnC = true) (h0 : s ≠ []) : signs.foldl (longer s) [] = s.take (signN s) := by
  obtain ⟨⟨h1, h2⟩, _, h3, h4⟩ := fold_long s signs [] ⟨Nat.zero_le _, rfl⟩
  obtain ⟨k1, k2, k3⟩ := sign_in s h h0
  have e1 : signN s ≤ (signs.foldl (longer s) []).length := by
    have := h3 _ k1 (by rw [List.length_take]; omega) (by rw [List.length_take, Nat.min_eq_left k2])
    rw [List.length_take, Nat.min_eq_left k2] at this; exact this
  have e2 : (signs.foldl (longer s) []).length ≤ signN s := by
    rcases h4 with h4 | h4
    · rw [h4]; exact Nat.zero_le _
    · exact sign_up s _ h h1 (by rw [h2]; exact h4)
  rw [← h2, Nat.le_antisymm e2 e1]

/-! What Next answers. -/
theorem common_sign (c : UInt8) (t : List UInt8) (h : sgnC c = true) (ht : digAt t = false) : commonP false (c :: t) = punP (c :: t) := by
  have hc : c.toNat < 128 := by rcases sgn_cases h with rfl | rfl | rfl | rfl | rfl | rfl | rfl | rfl | rfl | rfl | rfl | rfl | rfl | rfl | rfl | rfl | rfl | rfl | rfl | rfl | rfl | rfl | rfl | rfl <;> decide
  have e := (ch_asc c t hc).1
  unfold commonP
  rw [e, List.tail_cons, ht]
  rcases sgn_cases h with rfl | rfl | rfl | rfl | rfl | rfl | rfl | rfl | rfl | rfl | rfl | rfl | rfl | rfl | rfl | rfl | rfl | rfl | rfl | rfl | rfl | rfl | rfl | rfl <;> simp [punC, digC]
theorem sgn_gap {c : UInt8} (h : sgnC c = true) : c.toNat < 128 ∧ Uni.endsB c.toNat = false ∧ Uni.blankB c.toNat = false ∧ c ≠ 35 := by
  rcases sgn_cases h with rfl | rfl | rfl | rfl | rfl | rfl | rfl | rfl | rfl | rfl | rfl | rfl | rfl | rfl | rfl | rfl | rfl | rfl | rfl | rfl | rfl | rfl | rfl | rfl <;> decide +kernel
theorem pun_ans (S : ByteArray) (h : S.data.toList.all sgnC = true) (h0 : S.data.toList ≠ []) (h1 : pre [47, 47] S.data.toList = false) (h2 : pre [47, 42] S.data.toList = false) :
    answer S 0 1 = ⟨0, [], 5, S.data.toList, S.data.toList.drop (signN S.data.toList), false, []⟩ := by
  unfold answer
  rw [if_neg (by omega), if_neg (by simp [goalB])]
  show nextP 1 true (Str.sufL S 0) = _
  rw [show Str.sufL S 0 = S.data.toList from rfl]
  generalize S.data.toList = l at *
  cases l with
  | nil => exact absurd rfl h0
  | cons c t =>
    rw [List.all_cons, Bool.and_eq_true] at h
    obtain ⟨g1, g2, g3, g4⟩ := sgn_gap h.1
    have e := (ch_asc c t g1).1
    have hs : gapP 1 true (c :: t) = ⟨0, false, [], c :: t⟩ := by
      rw [gapP, if_neg (by decide)]
      refine skip_stay true false [] (c :: t) (by rw [e]; omega) (by rw [e]; exact g2) (by rw [e]; exact g3) ?_
      unfold opensP
      rw [h1, h2, if_neg (by decide), if_neg (by decide), if_neg]
      rintro ⟨_, k⟩
      rw [pre_head g4] at k
      exact absurd k (by decide)
    rw [nextP, hs]
    have hp : tokenP 1 (c :: t) = punP (c :: t) := by
      unfold tokenP
      rw [if_neg (by decide), if_neg (by decide), if_neg (by decide)]
      exact common_sign c t h.1 (dig_no t h.2)
    show ansP ⟨0, false, [], c :: t⟩ (tokenP 1 (c :: t)) = _
    rw [hp, punP, ansP, if_pos rfl, if_pos rfl]
theorem up_drop (l : List UInt8) (n : Nat) : upTo l (l.drop n) = l.take n := by
  unfold upTo
  rw [List.length_drop]
  by_cases h : n ≤ l.length
  · rw [show l.length - (l.length - n) = n by omega]
  · rw [List.take_of_length_le (by omega), List.take_of_length_le (by omega)]
/-- What the law's first loop has written. -/
theorem wrote_all {k : Nat} {S : ByteArray} (h : Wrote signs [] k S) : S.data.toList.all sgnC = true := by
  obtain ⟨ps, _, h2, h3⟩ := h
  rw [h3, List.nil_append, List.all_eq_true]
  intro x hx
  obtain ⟨p, hp, hxp⟩ := List.mem_flatten.1 hx
  exact List.all_eq_true.1 (signs_ok p (h2 p hp)).2.2 x hxp
theorem sign_mem (j : Nat) (h : j < 57) : signs.getD j [] ∈ signs := by
  rw [List.getD_eq_getElem?_getD, List.getElem?_eq_getElem (show j < signs.length from h)]
  exact List.getElem_mem _
theorem signs_take (j : Nat) (h : j < 57) : signs.take (j + 1) = signs.take j ++ [signs.getD j []] := by
  rw [List.take_add_one, List.getD_eq_getElem?_getD, List.getElem?_eq_getElem (show j < signs.length from h)]; rfl

end Lex
end Go.Proofs.YtfnilkhccomemaaDoor
