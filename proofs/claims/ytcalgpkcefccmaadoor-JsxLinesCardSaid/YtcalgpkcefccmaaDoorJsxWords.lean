/-
  The words of a text: the program's, by fields of a function; the document's, in a row.
-/
import Derived.Test.YtcalgpkcefccmaaDoorJsxName
import Derived.Test.YtcalgpkcefccmaaDoorUniDecode
namespace Go.Proofs.YtcalgpkcefccmaaDoor
namespace Jsx
open Go.RowKit Go.Lib

/-- What stands between words, among runes. -/
def gapR (x : Nat) : Bool := x == 32 || x == 9 || x == 10 || x == 13
theorem gapR_high (x : Nat) (h : 128 ≤ x) : gapR x = false := by
  unfold gapR
  rw [beq_eq_false_iff_ne.2 (by omega), beq_eq_false_iff_ne.2 (by omega), beq_eq_false_iff_ne.2 (by omega), beq_eq_false_iff_ne.2 (by omega)]; rfl
theorem gapB_nat (c : UInt8) : gapB c = gapR c.toNat := by
  have key : ∀ (c n : UInt8), (c == n) = (c.toNat == n.toNat) := fun c n => by
    by_cases h : c = n
    · subst h; simp
    · rw [beq_eq_false_iff_ne.2 h, beq_eq_false_iff_ne.2 (fun e => h (UInt8.toNat_inj.1 e))]
  unfold gapB gapR
  rw [key c 32, key c 9, key c 10, key c 13]; rfl
theorem gapB_high (c : UInt8) (h : 128 ≤ c.toNat) : gapB c = false := by rw [gapB_nat]; exact gapR_high _ h

theorem words_plain : ∀ (a : List UInt8) (cur t : List UInt8), (∀ c ∈ a, gapB c = false) → wordsF cur (a ++ t) = wordsF (cur ++ a) t
  | [], cur, t, _ => by simp
  | c :: a, cur, t, h => by
    rw [List.cons_append, wordsF, h c (by simp), if_neg (by simp), words_plain a _ t (fun x hx => h x (by simp [hx]))]
    simp

/-- Where a character of more bytes begins. -/
theorem high_step (s : ByteArray) (i : Nat) (hi : i < s.size) (h : 128 ≤ Uni.byteN s i) : ∀ j, i ≤ j → j < i + (Utf8.decode s i).2 → 128 ≤ Uni.byteN s j := by
  intro j h1 h2
  rw [Uni.decode_eq] at h2
  have hl := Uni.lenN.eq_1 s i
  have t1 : Uni.tailB s (i + 1) = true → 128 ≤ Uni.byteN s (i + 1) := by intro h; simp [Uni.tailB] at h; omega
  have t2 : Uni.tailB s (i + 2) = true → 128 ≤ Uni.byteN s (i + 2) := by intro h; simp [Uni.tailB] at h; omega
  have t3 : Uni.tailB s (i + 3) = true → 128 ≤ Uni.byteN s (i + 3) := by intro h; simp [Uni.tailB] at h; omega
  rw [if_neg (by omega)] at hl
  have key : ∀ n, (n = if 194 ≤ Uni.byteN s i ∧ Uni.byteN s i < 224 ∧ Uni.tailB s (i + 1) = true then 2
    else if 224 ≤ Uni.byteN s i ∧ Uni.byteN s i < 240 ∧ Uni.tailB s (i + 1) = true ∧ Uni.tailB s (i + 2) = true then
      (if Uni.byteN s i = 224 ∧ Uni.byteN s (i + 1) < 160 ∨ Uni.byteN s i = 237 ∧ 160 ≤ Uni.byteN s (i + 1) then 0 else 3)
    else if 240 ≤ Uni.byteN s i ∧ Uni.byteN s i < 245 ∧ Uni.tailB s (i + 1) = true ∧ Uni.tailB s (i + 2) = true ∧ Uni.tailB s (i + 3) = true then
      (if Uni.byteN s i = 240 ∧ Uni.byteN s (i + 1) < 144 ∨ Uni.byteN s i = 244 ∧ 144 ≤ Uni.byteN s (i + 1) then 0 else 4)
    else 0) → j < i + (if n = 0 then (65533, 1) else (Uni.runeN s i, n)).2 → 128 ≤ Uni.byteN s j := by
    intro n hn hj
    by_cases hn0 : n = 0
    · rw [if_pos hn0] at hj
      obtain rfl : j = i := by simp at hj; omega
      exact h
    rw [if_neg hn0] at hj
    simp only at hj
    by_cases a2 : 194 ≤ Uni.byteN s i ∧ Uni.byteN s i < 224 ∧ Uni.tailB s (i + 1) = true
    · rw [if_pos a2] at hn
      rcases (by omega : j = i ∨ j = i + 1) with rfl | rfl
      · exact h
      · exact t1 a2.2.2
    rw [if_neg a2] at hn
    by_cases a3 : 224 ≤ Uni.byteN s i ∧ Uni.byteN s i < 240 ∧ Uni.tailB s (i + 1) = true ∧ Uni.tailB s (i + 2) = true
    · rw [if_pos a3] at hn
      have : n ≤ 3 := by split at hn <;> omega
      rcases (by omega : j = i ∨ j = i + 1 ∨ j = i + 2) with rfl | rfl | rfl
      · exact h
      · exact t1 a3.2.2.1
      · exact t2 a3.2.2.2
    rw [if_neg a3] at hn
    by_cases a4 : 240 ≤ Uni.byteN s i ∧ Uni.byteN s i < 245 ∧ Uni.tailB s (i + 1) = true ∧ Uni.tailB s (i + 2) = true ∧ Uni.tailB s (i + 3) = true
    · rw [if_pos a4] at hn
      have : n ≤ 4 := by split at hn <;> omega
      rcases (by omega : j = i ∨ j = i + 1 ∨ j = i + 2 ∨ j = i + 3) with rfl | rfl | rfl | rfl
      · exact h
      · exact t1 a4.2.2.1
      · exact t2 a4.2.2.2.1
      · exact t3 a4.2.2.2.2
    · rw [if_neg a4] at hn; exact absurd hn hn0
  exact key _ hl h2
theorem low_step (s : ByteArray) (i : Nat) (h : Uni.byteN s i < 128) : Utf8.decode s i = (Uni.byteN s i, 1) := by
  rw [Uni.decode_form, if_pos h]
theorem high_rune (s : ByteArray) (i : Nat) (hi : i < s.size) (h : 128 ≤ Uni.byteN s i) : 128 ≤ (Utf8.decode s i).1 := by
  refine (decode_high s i hi ?_).1
  rw [Uni.byteN_at s i hi]; exact h

/-- The open word. -/
def openL (L : List UInt8) (pos : Nat) : Option Nat → List UInt8
  | some a => (L.drop a).take (pos - a)
  | none => []
theorem openL_grow (L : List UInt8) (pos n : Nat) (st : Option Nat) (h : ∀ a, st = some a → a < pos) : openL L (pos + n) (some (st.getD pos)) = openL L pos st ++ (L.drop pos).take n := by
  cases st with
  | none =>
    show (L.drop pos).take (pos + n - pos) = [] ++ _
    rw [Nat.add_sub_cancel_left, List.nil_append]
  | some a =>
    have ha := h a rfl
    show (L.drop a).take (pos + n - a) = (L.drop a).take (pos - a) ++ (L.drop pos).take n
    rw [show pos + n - a = (pos - a) + n by omega, List.take_add, List.drop_drop, show a + (pos - a) = pos by omega]

theorem byte_list (s : ByteArray) (j : Nat) (hj : j < s.size) : ∃ c, s.data.toList[j]? = some c ∧ c.toNat = Uni.byteN s j := by
  refine ⟨s[j], ?_, Uni.byteN_at s j hj⟩
  rw [List.getElem?_eq_getElem (by rw [list_size]; exact hj)]; rfl

theorem spans_words (s : ByteArray) : ∀ (f pos : Nat) (st : Option Nat) (acc : List (Nat × Nat)), s.size ≤ pos + f → pos ≤ s.size → (∀ a, st = some a → a < pos) →
    (closeSpans s (spansFromP gapR s f pos st acc)).map (fun x => (s.extract x.1 x.2).data.toList) = acc.map (fun x => (s.extract x.1 x.2).data.toList) ++ wordsF (openL s.data.toList pos st) (s.data.toList.drop pos) := by
  intro f
  have fin : ∀ (pos : Nat) (st : Option Nat) (acc : List (Nat × Nat)), pos = s.size → (∀ a, st = some a → a < pos) →
      (closeSpans s (acc, st)).map (fun x => (s.extract x.1 x.2).data.toList) = acc.map (fun x => (s.extract x.1 x.2).data.toList) ++ wordsF (openL s.data.toList pos st) (s.data.toList.drop pos) := by
    intro pos st acc hp hst
    subst hp
    rw [List.drop_eq_nil_of_le (by rw [list_size]; exact Nat.le_refl _), wordsF]
    cases st with
    | none => rw [show openL s.data.toList s.size none = [] from rfl, if_pos rfl]; simp [closeSpans]
    | some a =>
      have ha := hst a rfl
      have hne : openL s.data.toList s.size (some a) ≠ [] := by
        intro h
        have := congrArg List.length h
        simp only [openL, List.length_take, List.length_drop, list_size, List.length_nil] at this
        omega
      rw [if_neg hne]
      simp only [closeSpans, List.map_append, List.map_cons, List.map_nil]
      rw [mid_str, ofL_list]; rfl
  induction f with
  | zero => intro pos st acc h hp hst; exact fin pos st acc (by omega) hst
  | succ f ih =>
    intro pos st acc h hp hst
    by_cases hlt : pos < s.size
    · unfold spansFromP
      rw [if_pos hlt]
      by_cases hlow : Uni.byteN s pos < 128
      · rw [low_step s pos hlow]
        have hd := drop_at s pos hlt
        have hc : gapB (s[pos]'hlt) = gapR (Uni.byteN s pos) := by rw [gapB_nat, Uni.byteN_at s pos hlt]
        rw [hd, wordsF, hc]
        by_cases hg : gapR (Uni.byteN s pos) = true
        · simp only [hg, if_true]
          cases st with
          | none =>
            simp only
            rw [ih (pos + 1) none acc (by omega) (by omega) (fun a h => by cases h)]
            rw [show openL s.data.toList pos none = [] from rfl, if_pos rfl]; rfl
          | some a =>
            simp only
            have ha := hst a rfl
            rw [ih (pos + 1) none _ (by omega) (by omega) (fun a h => by cases h)]
            have hne : openL s.data.toList pos (some a) ≠ [] := by
              intro h
              have := congrArg List.length h
              simp only [openL, List.length_take, List.length_drop, list_size, List.length_nil] at this
              omega
            rw [if_neg hne, List.map_append, List.append_assoc]
            congr 1
            simp only [List.map_cons, List.map_nil, List.singleton_append]
            rw [mid_str, ofL_list]; rfl
        · have hg' : gapR (Uni.byteN s pos) = false := by simpa using hg
          have hgrow := openL_grow s.data.toList pos 1 st hst
          rw [hd, List.take_succ_cons, List.take_zero] at hgrow
          simp only [hg', Bool.false_eq_true, if_false]
          cases st with
          | none =>
            simp only
            rw [ih (pos + 1) (some pos) acc (by omega) (by omega) (fun a h => by cases h; omega)]
            rw [← hgrow]; rfl
          | some a =>
            simp only
            have ha := hst a rfl
            rw [ih (pos + 1) (some a) acc (by omega) (by omega) (fun b h => by cases h; omega)]
            rw [← hgrow]; rfl
      · have hh := high_step s pos hlt (by omega)
        have hr := gapR_high _ (high_rune s pos hlt (by omega))
        have hle := Uni.step_le s pos hlt
        have hpos := (Uni.step_pos s pos).1
        have hgrow := openL_grow s.data.toList pos (Utf8.decode s pos).2 st hst
        generalize (Utf8.decode s pos).2 = n at *
        simp only [hr, Bool.false_eq_true, if_false]
        have hsplit : s.data.toList.drop pos = (s.data.toList.drop pos).take n ++ s.data.toList.drop (pos + n) := by
          rw [← List.drop_drop, List.take_append_drop]
        have hpl : ∀ c ∈ (s.data.toList.drop pos).take n, gapB c = false := by
          intro c hc
          obtain ⟨j, hj⟩ := List.getElem?_of_mem hc
          rw [List.getElem?_take] at hj
          split at hj
          · rename_i hjn
            rw [List.getElem?_drop] at hj
            obtain ⟨x, hx, hx'⟩ := byte_list s (pos + j) (by omega)
            rw [hx] at hj
            cases hj
            exact gapB_high _ (by rw [hx']; exact hh (pos + j) (by omega) (by omega))
          · cases hj
        rw [hsplit, words_plain _ _ _ hpl, ← hgrow]
        cases st with
        | none =>
          simp only
          rw [ih (pos + n) (some pos) acc (by omega) (by omega) (fun a h => by cases h; omega)]; rfl
        | some a =>
          simp only
          have ha := hst a rfl
          rw [ih (pos + n) (some a) acc (by omega) (by omega) (fun b h => by cases h; omega)]; rfl
    · rw [spansFromP_end _ _ _ _ _ _ hlt]
      exact fin pos st acc (by omega) hst
theorem fields_words (s : ByteArray) : goFieldsP gapR s = (wordsF [] s.data.toList).map ofL := by
  have := spans_words s s.size 0 none [] (by omega) (by omega) (fun a h => by cases h)
  rw [List.map_nil, List.nil_append, List.drop_zero] at this
  unfold goFieldsP
  rw [show wordsF [] s.data.toList = wordsF (openL s.data.toList 0 none) s.data.toList from rfl, ← this, List.map_map]
  unfold spansOfP
  apply List.map_congr_left
  intro x _
  simp only [Function.comp, ofL_eq]

theorem own_base {w : World} {B B' e size n : Nat} {v : Value} {xs : List Value} (h : w.ownsRow B e size v n xs) (hb : B' ≤ B) : w.ownsRow B' e size v n xs := by
  refine ⟨h.1, ?_⟩
  rcases h.2 with h0 | ⟨g, cap, cur, h1, h2, rest⟩
  · exact .inl h0
  · exact .inr ⟨g, cap, cur, h1, Nat.le_trans hb h2, rest⟩
def textV (l : List UInt8) : Value := .string (ofL l)
/-- A row of texts. -/
abbrev Texts (B : Nat) (v : Value) (xs : List (List UInt8)) (w : World) : Prop := w.ownsRow B 9 1 v xs.length (xs.map textV)

set_option maxHeartbeats 1000000 in
theorem parts_any (x : Nat) (hx : x ≤ 1114111) (W : World) : FnGives Tryd.prog 32 #[] #[encR x] (.bool (gapR x)) W := by
  show Calls _ _ #[.int .i32 (x : Int)] W _
  have fin : ∀ (W : World) (b : Bool), b = gapR x → (Ending.returned (Value.bool b) = Ending.returned (Value.bool (gapR x)) ∧ ∃ q, W = W.drewN q) := fun W b h => ⟨by rw [h], 0, rfl⟩
  by_cases h1 : x = 32
  · subst h1
    go_enter Tryd.func32, Tryd.ntmps32
    go_wp2_with fail
    go_ret
    exact fin _ _ rfl
  by_cases h2 : x = 9
  · subst h2
    go_enter Tryd.func32, Tryd.ntmps32
    go_wp2_with fail
    go_ret
    exact fin _ _ rfl
  by_cases h3 : x = 10
  · subst h3
    go_enter Tryd.func32, Tryd.ntmps32
    go_wp2_with fail
    go_ret
    exact fin _ _ rfl
  by_cases h4 : x = 13
  · subst h4
    go_enter Tryd.func32, Tryd.ntmps32
    go_wp2_with fail
    go_ret
    exact fin _ _ rfl
  have Hf : Hid (gapR x = false) := Lib.hid (by
    unfold gapR
    rw [beq_eq_false_iff_ne.2 h1, beq_eq_false_iff_ne.2 h2, beq_eq_false_iff_ne.2 h3, beq_eq_false_iff_ne.2 h4]; rfl)
  have g1 : ((x : Int) == 32) = false := beq_eq_false_iff_ne.2 (by omega)
  have g2 : ((x : Int) == 9) = false := beq_eq_false_iff_ne.2 (by omega)
  have g3 : ((x : Int) == 10) = false := beq_eq_false_iff_ne.2 (by omega)
  have g4 : ((x : Int) == 13) = false := beq_eq_false_iff_ne.2 (by omega)
  clear h1 h2 h3 h4
  go_enter Tryd.func32, Tryd.ntmps32
  go_wp2_with fail
  go_ret
  exact fin _ _ Hf.out.symm

theorem clone_any (s : ByteArray) (w : World) (hs : s.size ≤ 140737488355328) :
    Calls Tryd.prog 31 #[.string s] w fun e w' => e = .returned (.string s) ∧ Below w.heap.size w w' := by
  go_enter Tryd.func31, Tryd.ntmps31
  go_wp2_with fail
  refine (Tryd.stringslite_Clone s w (by omega)).mono ?_
  rintro e w1 ⟨rfl, hb⟩
  go_wp2_with fail
  go_ret
  exact ⟨rfl, hb⟩

theorem words_any (s : ByteArray) (w : World) (hs : s.size ≤ 4294967296) :
    Calls Tryd.prog 13 #[.string s] w fun e w' => ∃ A, e = .returned (.slice (some ⟨A, 0, none⟩) (wordsF [] s.data.toList).length (wordsF [] s.data.toList).length) ∧ w.heap.size ≤ A ∧
      Texts w.heap.size (.slice (some ⟨A, 0, none⟩) (wordsF [] s.data.toList).length (wordsF [] s.data.toList).length) (wordsF [] s.data.toList) w' ∧ Below w.heap.size w w' := by
  go_enter Tryd.func13, Tryd.ntmps13
  go_wp2_with fail
  refine (clone_any s w (by omega)).mono ?_
  rintro e w1 ⟨rfl, hb⟩
  go_wp2_with fail
  refine (Tryd.strings_FieldsFunc_runes 32 #[] (enters_of Tryd.func32 (by kernel_rfl) rfl) gapR s w1 hs (fun W x hx _ => parts_any x hx W)).mono ?_
  rintro e w2 ⟨A, rfl, hA, hown, hb2⟩
  rw [fields_words, List.length_map] at hown ⊢
  have hm : ((wordsF [] s.data.toList).map ofL).map Value.string = (wordsF [] s.data.toList).map textV := by rw [List.map_map]; rfl
  rw [hm] at hown
  go_wp2_with fail
  go_ret
  refine ⟨A, rfl, Nat.le_trans hb.size hA, ?_, hb.trans (hb2.mono hb.size)⟩
  exact own_base hown hb.size

end Jsx
end Go.Proofs.YtcalgpkcefccmaaDoor
