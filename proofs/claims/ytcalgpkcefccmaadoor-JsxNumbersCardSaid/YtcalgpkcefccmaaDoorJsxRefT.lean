/-
  The document's way to read an entity, and the program's: one answer: no program is named here.
-/
import Derived.Test.YtcalgpkcefccmaaDoorJsxRefC
namespace Go.Proofs.YtcalgpkcefccmaaDoor
namespace Jsx

/-- What stands ahead of the first ; or &. -/
def ampF (t : List UInt8) : List UInt8 := t.takeWhile (fun c => c != 59 && c != 38)
theorem amp_free (t : List UInt8) : ∀ c ∈ ampF t, c ≠ 59 ∧ c ≠ 38 := by
  intro c hc
  induction t with
  | nil => simp [ampF] at hc
  | cons a r ih =>
    unfold ampF at ih hc
    by_cases h : (a != 59 && a != 38) = true
    · rw [List.takeWhile_cons_of_pos (p := fun c : UInt8 => c != 59 && c != 38) h] at hc
      rcases List.mem_cons.1 hc with e | e
      · subst e; simpa using h
      · exact ih e
    · rw [List.takeWhile_cons_of_neg (p := fun c : UInt8 => c != 59 && c != 38) h] at hc; cases hc
theorem amp_split (t : List UInt8) : t = ampF t ∨ (∃ r, t = ampF t ++ 59 :: r) ∨ (∃ r, t = ampF t ++ 38 :: r) := by
  induction t with
  | nil => exact .inl rfl
  | cons a r ih =>
    unfold ampF at ih ⊢
    by_cases h : (a != 59 && a != 38) = true
    · rw [List.takeWhile_cons_of_pos (p := fun c : UInt8 => c != 59 && c != 38) h]
      rcases ih with e | ⟨x, e⟩ | ⟨x, e⟩
      · exact .inl (by rw [← e])
      · exact .inr (.inl ⟨x, by rw [List.cons_append, ← e]⟩)
      · exact .inr (.inr ⟨x, by rw [List.cons_append, ← e]⟩)
    · rw [List.takeWhile_cons_of_neg (p := fun c : UInt8 => c != 59 && c != 38) h]
      have h' : a = 59 ∨ a = 38 := by
        by_cases h1 : a = 59
        · exact .inl h1
        · by_cases h2 : a = 38
          · exact .inr h2
          · exact absurd (by simp [h1, h2]) h
      rcases h' with e | e
      · subst e; exact .inr (.inl ⟨r, rfl⟩)
      · subst e; exact .inr (.inr ⟨r, rfl⟩)

theorem numF_none (hex : Bool) : ∀ (m : List UInt8) (v n : Nat), (59 : UInt8) ∉ m → numF hex v n m = none
  | [], _, _, _ => rfl
  | c :: m, v, n, h => by
    rw [numF]
    split
    · exact numF_none hex m _ _ (fun e => h (by simp [e]))
    · exact if_neg (fun e => h (by simp [e.1]))
theorem digH_amp (hex : Bool) : digH hex 38 = none := by cases hex <;> decide
theorem numF_amp (hex : Bool) (r : List UInt8) : ∀ (m : List UInt8) (v n : Nat), (59 : UInt8) ∉ m → numF hex v n (m ++ 38 :: r) = none
  | [], v, n, _ => by rw [List.nil_append, numF, digH_amp]; exact if_neg (fun e => absurd e.1 (by decide))
  | c :: m, v, n, h => by
    rw [List.cons_append, numF]
    split
    · exact numF_amp hex r m _ _ (fun e => h (by simp [e]))
    · exact if_neg (fun e => h (by simp [e.1]))
theorem digsF_ge (hex : Bool) : ∀ (m : List UInt8) (v : Nat), -1 ≤ digsF hex v m
  | [], v => by rw [digsF]; omega
  | c :: m, v => by
    rw [digsF]
    split
    · exact digsF_ge hex m _
    · omega
theorem numF_semi (hex : Bool) (r : List UInt8) : ∀ (m : List UInt8) (v n : Nat), (59 : UInt8) ∉ m →
    numF hex v n (m ++ 59 :: r) = if 0 ≤ digsF hex v m ∧ 0 < n + m.length then some ((digsF hex v m).toNat, n + m.length + 1) else none
  | [], v, n, _ => by
    rw [List.nil_append, numF, digH_semi]
    show (if (59 : UInt8) = 59 ∧ 0 < n then some (v, n + 1) else none) = if 0 ≤ digsF hex v [] ∧ 0 < n + 0 then some ((digsF hex v []).toNat, n + 0 + 1) else none
    rw [digsF]
    by_cases h : 0 < n
    · rw [if_pos ⟨rfl, h⟩, if_pos ⟨by omega, by omega⟩]; simp
    · rw [if_neg (fun e => h e.2), if_neg (fun e => h (by omega))]
  | c :: m, v, n, h => by
    rw [List.cons_append, numF, digsF]
    cases hd : digH hex c with
    | some d =>
      show numF hex (stepN hex v d) (n + 1) (m ++ 59 :: r) = _
      rw [numF_semi hex r m _ _ (fun e => h (by simp [e]))]
      simp only [List.length_cons]
      rw [show n + (m.length + 1) = n + 1 + m.length by omega]
    | none =>
      show (if c = 59 ∧ 0 < n then _ else none) = _
      rw [if_neg (fun e => h (by simp [e.1]))]
      exact (if_neg (fun e => absurd (show (0 : Int) ≤ -1 from e.1) (by decide))).symm

theorem entF_hash (t : List UInt8) : entF (35 :: t) = if t.head? = some 120 then (numF true 0 0 t.tail).map (fun x => (x.1, x.2 + 3)) else (numF false 0 0 t).map (fun x => (x.1, x.2 + 2)) := rfl
theorem entF_other (t : List UInt8) (h : t.head? ≠ some 35) : entF t = if (nameF t).length < t.length ∧ chrF (nameF t) ≠ 0 then some (chrF (nameF t), (nameF t).length + 2) else none := if_neg h

theorem free_tail {c : UInt8} {l : List UInt8} (h : ∀ x ∈ c :: l, x ≠ 59 ∧ x ≠ 38) : (59 : UInt8) ∉ l := fun e => (h 59 (by simp [e])).1 rfl

/-- No ; ends it. -/
theorem ent_open (t : List UInt8) (h : t = ampF t ∨ ∃ r, t = ampF t ++ 38 :: r) : entF t = none := by
  have hf := amp_free t
  rcases h with e | ⟨r, e⟩
  · rw [← e] at hf
    have h59 : (59 : UInt8) ∉ t := fun x => (hf 59 x).1 rfl
    by_cases hh : t.head? = some 35
    · obtain ⟨t', rfl⟩ : ∃ t', t = 35 :: t' := by cases t with | nil => cases hh | cons a b => simp at hh; exact ⟨b, by rw [hh]⟩
      have h1 : (59 : UInt8) ∉ t' := fun x => h59 (by simp [x])
      rw [entF_hash, numF_none _ _ _ _ h1, numF_none _ _ _ _ (fun x => h1 (List.mem_of_mem_tail x))]
      split <;> rfl
    · rw [entF_other t hh]
      have : nameF t = t := by
        have := List.takeWhile_append_of_pos (l₁ := t) (l₂ := []) (p := fun c : UInt8 => c != 59) (fun y hy => by simpa using (hf y hy).1)
        simpa [nameF] using this
      exact if_neg (fun x => by rw [this] at x; omega)
  · generalize ampF t = m at *
    subst e
    have h59 : (59 : UInt8) ∉ m := fun x => (hf 59 x).1 rfl
    cases m with
    | nil =>
      rw [entF_other _ (by simp)]
      exact if_neg (fun x => absurd rfl (chrF_plain _ x.2 38 (by rw [nameF]; simp)).1)
    | cons a m =>
      have h1 : (59 : UInt8) ∉ m := free_tail hf
      by_cases ha : a = 35
      · subst ha
        rw [List.cons_append, entF_hash, numF_amp _ _ _ _ _ h1]
        split
        · rename_i hx
          cases m with
          | nil => cases hx
          | cons b m =>
            rw [List.cons_append, List.tail_cons, numF_amp _ _ _ _ _ (fun x => h1 (by simp [x]))]; rfl
        · rfl
      · rw [entF_other _ (by simpa using ha)]
        refine if_neg (fun x => absurd rfl (chrF_plain _ x.2 38 ?_).1)
        unfold nameF
        rw [List.takeWhile_append_of_pos (fun y hy => by simpa using (hf y hy).1)]
        simp
theorem ent_empty (r : List UInt8) : entF (59 :: r) = none := by
  rw [entF_other _ (by simp)]
  exact if_neg (fun x => x.2 (by simp [nameF, chrF]))
theorem numV_nil : numV [] = -1 := rfl
theorem numV_hex (m : List UInt8) : numV (120 :: m) = if m = [] then -1 else digsF true 0 m := if_pos rfl
theorem numV_dec (a : UInt8) (m : List UInt8) (ha : a ≠ 120) : numV (a :: m) = digsF false 0 (a :: m) := (if_neg (by simpa using ha)).trans (if_neg (by simp))
/-- A number. -/
theorem ent_num (l r : List UInt8) (hf : ∀ c ∈ l, c ≠ 59 ∧ c ≠ 38) : entF (35 :: l ++ 59 :: r) = if 0 ≤ numV l then some ((numV l).toNat, l.length + 3) else none := by
  have h59 : (59 : UInt8) ∉ l := fun x => (hf 59 x).1 rfl
  rw [List.cons_append, entF_hash]
  cases l with
  | nil =>
    rw [numV_nil, if_neg (by simp), numF_semi _ _ _ _ _ h59, if_neg (fun x => absurd x.2 (by simp))]
    rfl
  | cons a m =>
    have h1 : (59 : UInt8) ∉ m := fun x => h59 (by simp [x])
    by_cases ha : a = 120
    · subst ha
      rw [numV_hex, if_pos (by simp), List.cons_append, List.tail_cons, numF_semi _ _ _ _ _ h1]
      by_cases hm : m = []
      · subst hm
        rw [if_pos rfl, if_neg (fun x => absurd x.2 (by simp)), if_neg (by omega)]; rfl
      · have hl : 0 < m.length := by cases m with | nil => exact absurd rfl hm | cons => simp
        rw [if_neg hm]
        by_cases hd : 0 ≤ digsF true 0 m
        · rw [if_pos ⟨hd, by omega⟩, if_pos hd]
          simp only [Option.map_some, List.length_cons, Option.some.injEq, Prod.mk.injEq, true_and]
          omega
        · rw [if_neg (fun x => hd x.1), if_neg hd]; rfl
    · rw [numV_dec a m ha, if_neg (by simpa using ha), numF_semi _ _ _ _ _ h59]
      by_cases hd : 0 ≤ digsF false 0 (a :: m)
      · rw [if_pos ⟨hd, by simp⟩, if_pos hd]
        simp only [Option.map_some, Option.some.injEq, Prod.mk.injEq, true_and]
        omega
      · rw [if_neg (fun x => hd x.1), if_neg hd]; rfl
/-- A name. -/
theorem ent_word (m r : List UInt8) (hm : m.head? ≠ some 35) (hne : m ≠ []) (hf : ∀ c ∈ m, c ≠ 59 ∧ c ≠ 38) : entF (m ++ 59 :: r) = if chrF m ≠ 0 then some (chrF m, m.length + 2) else none := by
  have hh : (m ++ 59 :: r).head? ≠ some 35 := by cases m with | nil => exact absurd rfl hne | cons a b => simpa using hm
  rw [entF_other _ hh]
  have hn : nameF (m ++ 59 :: r) = m := by
    unfold nameF
    rw [List.takeWhile_append_of_pos (fun y hy => by simpa using (hf y hy).1)]
    simp
  rw [hn]
  by_cases hc : chrF m ≠ 0
  · rw [if_pos ⟨by simp, hc⟩, if_pos hc]
  · rw [if_neg (fun x => hc x.2), if_neg hc]
theorem chr_hash (l : List UInt8) : chrF (35 :: l) = 0 := by
  by_cases h : chrF (35 :: l) = 0
  · exact h
  · exact absurd rfl (chrF_plain _ h 35 (by simp)).2.2
theorem numV_ge (l : List UInt8) : -1 ≤ numV l := by
  unfold numV
  split
  · split
    · omega
    · exact digsF_ge _ _ _
  · split
    · omega
    · exact digsF_ge _ _ _

end Jsx
end Go.Proofs.YtcalgpkcefccmaaDoor
