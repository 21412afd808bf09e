/-
  Texts one behind the other: their characters, where they go wrong, their widths: no program is named here.
-/
import Derived.Test.YtcalgpkcefccmaaDoorUniDecode
namespace Go.Proofs.YtcalgpkcefccmaaDoor
namespace Uni
open Go.RowKit

theorem byteN_out (t : ByteArray) (k : Nat) (h : ¬ k < t.size) : byteN t k = 0 := by
  unfold byteN
  have : t.get! k = default := by
    show (t.data[k]!) = _
    exact getElem!_neg t.data k (by simpa using h)
  rw [this]; rfl

theorem byteN_left (a b : ByteArray) (k : Nat) (h : k < a.size) : byteN (a ++ b) k = byteN a k := by
  have hs : (a ++ b).size = a.size + b.size := ByteArray.size_append
  rw [← byteN_at (a ++ b) k (by omega), ← byteN_at a k h, ByteArray.getElem_append_left h]

theorem byteN_right (a b : ByteArray) (k : Nat) : byteN (a ++ b) (a.size + k) = byteN b k := by
  have hs : (a ++ b).size = a.size + b.size := ByteArray.size_append
  by_cases h : k < b.size
  · rw [← byteN_at (a ++ b) (a.size + k) (by omega), ← byteN_at b k h, ByteArray.getElem_append_right (by omega)]
    congr 2
    omega
  · rw [byteN_out _ _ (by omega), byteN_out _ _ h]

theorem tailB_left (a b : ByteArray) (k : Nat) (h : tailB a k = true) : tailB (a ++ b) k = true := by
  have hs : (a ++ b).size = a.size + b.size := ByteArray.size_append
  simp only [tailB, decide_eq_true_eq] at h ⊢
  rw [byteN_left a b k h.1]
  omega

theorem tailB_right (a b : ByteArray) (k : Nat) : tailB (a ++ b) (a.size + k) = tailB b k := by
  have hs : (a ++ b).size = a.size + b.size := ByteArray.size_append
  rw [tailB, tailB, byteN_right]
  congr 1
  simp only [hs, eq_iff_iff]
  omega

theorem lenN_right (a b : ByteArray) (k : Nat) : lenN (a ++ b) (a.size + k) = lenN b k := by
  simp only [lenN, byteN_right, Nat.add_assoc, tailB_right]

theorem lenN_left (a b : ByteArray) (i : Nat) (hi : i < a.size) (h : lenN a i ≠ 0) : lenN (a ++ b) i = lenN a i := by
  have h0 := byteN_left a b i hi
  rw [lenN] at h ⊢
  rw [lenN, h0]
  by_cases a1 : byteN a i < 128
  · rw [if_pos a1, if_pos a1]
  rw [if_neg a1] at h ⊢
  rw [if_neg a1]
  by_cases a2 : 194 ≤ byteN a i ∧ byteN a i < 224 ∧ tailB a (i + 1) = true
  · rw [if_pos a2, if_pos ⟨a2.1, a2.2.1, tailB_left a b _ a2.2.2⟩]
  rw [if_neg a2] at h ⊢
  by_cases a3 : 224 ≤ byteN a i ∧ byteN a i < 240 ∧ tailB a (i + 1) = true ∧ tailB a (i + 2) = true
  · have t1 : i + 1 < a.size := by have := a3.2.2.1; simp [tailB] at this; omega
    rw [if_neg (by omega : ¬ (194 ≤ byteN a i ∧ _)), if_pos ⟨a3.1, a3.2.1, tailB_left a b _ a3.2.2.1, tailB_left a b _ a3.2.2.2⟩, if_pos a3, byteN_left a b _ t1]
  rw [if_neg a3] at h ⊢
  by_cases a4 : 240 ≤ byteN a i ∧ byteN a i < 245 ∧ tailB a (i + 1) = true ∧ tailB a (i + 2) = true ∧ tailB a (i + 3) = true
  · have t1 : i + 1 < a.size := by have := a4.2.2.1; simp [tailB] at this; omega
    rw [if_neg (by omega : ¬ (194 ≤ byteN a i ∧ _)), if_neg (by omega : ¬ (224 ≤ byteN a i ∧ _)), if_pos ⟨a4.1, a4.2.1, tailB_left a b _ a4.2.2.1, tailB_left a b _ a4.2.2.2.1, tailB_left a b _ a4.2.2.2.2⟩, if_pos a4, byteN_left a b _ t1]
  · rw [if_neg a4] at h
    exact absurd rfl h

theorem runeN_left (a b : ByteArray) (i : Nat) (hi : i < a.size) (h : lenN a i ≠ 0) : runeN (a ++ b) i = runeN a i := by
  have hl := lenN_le a i hi
  rw [runeN, runeN, lenN_left a b i hi h, byteN_left a b i hi]
  by_cases e2 : lenN a i = 2
  · rw [if_pos e2, if_pos e2, byteN_left a b (i + 1) (by omega)]
  rw [if_neg e2, if_neg e2]
  by_cases e3 : lenN a i = 3
  · rw [if_pos e3, if_pos e3, byteN_left a b (i + 1) (by omega), byteN_left a b (i + 2) (by omega)]
  rw [if_neg e3, if_neg e3]
  by_cases e4 : lenN a i = 4
  · rw [if_pos e4, if_pos e4, byteN_left a b (i + 1) (by omega), byteN_left a b (i + 2) (by omega), byteN_left a b (i + 3) (by omega)]
  rw [if_neg e4, if_neg e4]

theorem decode_left (a b : ByteArray) (i : Nat) (hi : i < a.size) (h : lenN a i ≠ 0) : Utf8.decode (a ++ b) i = Utf8.decode a i := by
  rw [decode_eq, decode_eq, lenN_left a b i hi h, runeN_left a b i hi h]

theorem decode_right (a b : ByteArray) (k : Nat) : Utf8.decode (a ++ b) (a.size + k) = Utf8.decode b k := by
  rw [decode_eq, decode_eq, runeN, runeN, lenN_right]
  simp only [byteN_right, Nat.add_assoc]

theorem bad_none_len (s : ByteArray) (i : Nat) (h : i < s.size) (hb : badFrom s i = none) : lenN s i ≠ 0 := by
  intro e
  rw [bad_here s i h e] at hb
  exact absurd hb (by simp)

theorem step_len (s : ByteArray) (i : Nat) (h : lenN s i ≠ 0) : (Utf8.decode s i).2 = lenN s i := by
  rw [decode_eq, if_neg h]

/-- From a place of b on. -/
theorem bad_right (a b : ByteArray) : ∀ n k, b.size - k ≤ n → badFrom (a ++ b) (a.size + k) = (badFrom b k).map (a.size + ·) := by
  have hs : (a ++ b).size = a.size + b.size := ByteArray.size_append
  intro n
  induction n with
  | zero =>
    intro k hk
    rw [bad_end _ _ (by omega), bad_end _ _ (by omega)]; rfl
  | succ n ih =>
    intro k hk
    by_cases h : k < b.size
    · by_cases e : lenN b k = 0
      · rw [bad_here b k h e, bad_here (a ++ b) (a.size + k) (by omega) (by rw [lenN_right]; exact e)]; rfl
      · rw [bad_step b k h e, bad_step (a ++ b) (a.size + k) (by omega) (by rw [lenN_right]; exact e), lenN_right, Nat.add_assoc]
        exact ih (k + lenN b k) (by omega)
    · rw [bad_end _ _ (by omega), bad_end _ _ (by omega)]; rfl

/-- From a place of a on, where a is well formed from there. -/
theorem bad_left (a b : ByteArray) : ∀ n i, a.size - i ≤ n → i ≤ a.size → badFrom a i = none → badFrom (a ++ b) i = (badFrom b 0).map (a.size + ·) := by
  have hs : (a ++ b).size = a.size + b.size := ByteArray.size_append
  intro n
  induction n with
  | zero =>
    intro i hn hi _
    obtain rfl : i = a.size := by omega
    exact bad_right a b b.size 0 (by omega)
  | succ n ih =>
    intro i hn hi hb
    by_cases h : i < a.size
    · have e := bad_none_len a i h hb
      have hl := lenN_le a i h
      rw [bad_step (a ++ b) i (by omega) (by rw [lenN_left a b i h e]; exact e), lenN_left a b i h e]
      rw [bad_step a i h e] at hb
      exact ih (i + lenN a i) (by omega) hl hb
    · obtain rfl : i = a.size := by omega
      exact bad_right a b b.size 0 (by omega)

theorem width_right (a b : ByteArray) : ∀ n k, b.size - k ≤ n → widthFrom (a ++ b) (a.size + k) = widthFrom b k := by
  have hs : (a ++ b).size = a.size + b.size := ByteArray.size_append
  intro n
  induction n with
  | zero =>
    intro k hk
    rw [width_end _ _ (by omega), width_end _ _ (by omega)]
  | succ n ih =>
    intro k hk
    by_cases h : k < b.size
    · have := step_pos b k
      rw [width_step b k h, width_step (a ++ b) (a.size + k) (by omega), wN, wN, decode_right, Nat.add_assoc, ih (k + (Utf8.decode b k).2) (by omega)]
    · rw [width_end _ _ (by omega), width_end _ _ (by omega)]

theorem width_left (a b : ByteArray) : ∀ n i, a.size - i ≤ n → i ≤ a.size → badFrom a i = none → widthFrom (a ++ b) i = widthFrom a i + widthFrom b 0 := by
  have hs : (a ++ b).size = a.size + b.size := ByteArray.size_append
  intro n
  induction n with
  | zero =>
    intro i hn hi _
    obtain rfl : i = a.size := by omega
    rw [width_end a _ (by omega), Nat.zero_add]
    exact width_right a b b.size 0 (by omega)
  | succ n ih =>
    intro i hn hi hb
    by_cases h : i < a.size
    · have e := bad_none_len a i h hb
      have hl := lenN_le a i h
      rw [width_step a i h, width_step (a ++ b) i (by omega), wN, wN, decode_left a b i h e, step_len a i e]
      rw [bad_step a i h e] at hb
      rw [ih (i + lenN a i) (by omega) hl hb]
      omega
    · obtain rfl : i = a.size := by omega
      rw [width_end a _ (by omega), Nat.zero_add]
      exact width_right a b b.size 0 (by omega)

theorem width_le (s : ByteArray) : ∀ n i, s.size - i ≤ n → i ≤ s.size → widthFrom s i ≤ s.size - i := by
  intro n
  induction n with
  | zero => intro i hn hi; rw [width_end s i (by omega)]; omega
  | succ n ih =>
    intro i hn hi
    by_cases h : i < s.size
    · have h1 := step_pos s i
      have h2 := step_le s i h
      have h3 := w_step s i
      have := ih (i + (Utf8.decode s i).2) (by omega) h2
      rw [width_step s i h]
      omega
    · rw [width_end s i h]; omega

theorem bad_lt (s : ByteArray) : ∀ n i p, s.size - i ≤ n → badFrom s i = some p → p < s.size := by
  intro n
  induction n with
  | zero => intro i p hn h; rw [bad_end s i (by omega)] at h; exact absurd h (by simp)
  | succ n ih =>
    intro i p hn h
    by_cases hi : i < s.size
    · by_cases e : lenN s i = 0
      · rw [bad_here s i hi e] at h
        simp at h; omega
      · rw [bad_step s i hi e] at h
        exact ih _ p (by omega) h
    · rw [bad_end s i hi] at h; exact absurd h (by simp)

/-! What the law asks. -/
theorem code_none (s : ByteArray) (h : badFrom s 0 = none) : badCode s = 0 ∧ badAt s = 0 := by rw [badCode, badAt, h]; exact ⟨rfl, rfl⟩
theorem code_some (s : ByteArray) (p : Nat) (h : badFrom s 0 = some p) : badCode s = 100 ∧ badAt s = p ∧ p < s.size := by
  refine ⟨?_, ?_, bad_lt s s.size 0 p (by omega) h⟩ <;> simp [badCode, badAt, h]
theorem join_code (a b : ByteArray) (h : badFrom a 0 = none) : badCode (a ++ b) = badCode b := by
  rw [badCode, badCode, bad_left a b a.size 0 (by omega) (by omega) h]
  cases badFrom b 0 <;> rfl
theorem join_width (a b : ByteArray) (h : badFrom a 0 = none) : widthFrom (a ++ b) 0 = widthFrom a 0 + widthFrom b 0 :=
  width_left a b a.size 0 (by omega) (by omega) h

end Uni
end Go.Proofs.YtcalgpkcefccmaaDoor
