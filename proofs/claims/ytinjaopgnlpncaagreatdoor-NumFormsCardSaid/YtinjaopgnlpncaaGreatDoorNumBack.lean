/-
  Plain mathematics of numeric literals: what is printed is the same number, and printed again it stays.
-/
import Derived.Test.YtinjaopgnlpncaaGreatDoorNumPieces
namespace Go.Proofs.YtinjaopgnlpncaaGreatDoor
namespace Num

theorem all_bytes (P : UInt8 → Prop) (h : ∀ n : Fin 256, P (UInt8.ofNat n.val)) (c : UInt8) : P c := by
  have := h ⟨c.toNat, c.toNat_lt⟩
  simpa only [UInt8.ofNat_toNat] using this

theorem up_val (c : UInt8) : valN (Lib.upperB c) = valN c := all_bytes (fun c => valN (Lib.upperB c) = valN c) (by decide +kernel) c
theorem up_under (c : UInt8) : (Lib.upperB c = 95) ↔ c = 95 := all_bytes (fun c => (Lib.upperB c = 95) ↔ c = 95) (by decide +kernel) c
theorem up_low (c : UInt8) : lowN (Lib.upperB c) = lowN c := all_bytes (fun c => lowN (Lib.upperB c) = lowN c) (by decide +kernel) c
theorem up_up (c : UInt8) : Lib.upperB (Lib.upperB c) = Lib.upperB c := all_bytes (fun c => Lib.upperB (Lib.upperB c) = Lib.upperB c) (by decide +kernel) c

theorem head_up (b : Nat) (l : List UInt8) : headDig b (l.map Lib.upperB) = headDig b l := by
  cases l with
  | nil => rfl
  | cons c t => simp [headDig, up_val]
theorem run_up (b : Nat) : ∀ (l : List UInt8) (prev : Bool), runL b prev (l.map Lib.upperB) = runL b prev l := by
  intro l
  induction l with
  | nil => intro prev; rfl
  | cons c t ih =>
    intro prev
    rw [List.map_cons, runL, runL, up_val, ih, ih, head_up]
    by_cases h : c = 95
    · rw [if_pos ((up_under c).2 h), if_pos h]
    · rw [if_neg (fun x => h ((up_under c).1 x)), if_neg h]
theorem plain_up (l : List UInt8) : plainL (l.map Lib.upperB) = (plainL l).map Lib.upperB := by
  unfold plainL
  rw [List.filter_map]
  congr 1
  refine List.filter_congr (fun c _ => ?_)
  by_cases h : c = 95
  · have := (up_under c).2 h; simp [h, Function.comp] at *; exact this
  · have h2 : Lib.upperB c ≠ 95 := fun x => h ((up_under c).1 x)
    have e1 : (Lib.upperB c != 95) = true := bne_iff_ne.2 h2
    have e2 : (c != 95) = true := bne_iff_ne.2 h
    show (Lib.upperB c != 95) = (c != 95)
    rw [e1, e2]
theorem collect_up (l : List UInt8) : collectL (l.map Lib.upperB) = collectL l := by
  unfold collectL
  rw [plain_up, List.map_map]
  refine List.map_congr_left (fun c _ => up_low c)

theorem let_rad (b : Nat) (h : b = 16 ∨ b = 8 ∨ b = 2) : radN (lowN (letN b)) = b := by
  rcases h with rfl | rfl | rfl <;> decide

/-- A literal with a base, printed. -/
theorem back_bas (p : Parts) (d : Bas p) : ∃ q, ofL (printL p) = some q ∧ canonL q = canonL p ∧ printL q = printL p ∧ (printL p).length = p.whole.length + 2 + (nT p.big).length := by
  have hb : p.base ≠ 10 := by have := d.base; omega
  have d' : Bas ⟨p.base, Lib.toUpperA p.whole, false, [], false, [], [], p.big⟩ :=
    ⟨d.base, by unfold Run Lib.toUpperA; simp only [run_up, List.length_map]; exact d.whole, by simp [Lib.toUpperA]; exact d.ne, rfl, rfl, rfl, rfl, rfl⟩
  refine ⟨⟨p.base, Lib.toUpperA p.whole, false, [], false, [], [], p.big⟩, ?_, ?_, ?_, ?_⟩
  · have := of_bas _ d' (letN p.base) (let_rad _ d.base)
    rw [← this, printL, if_neg hb]
    rfl
  · rw [canonL, canonL, if_neg hb, if_neg hb, Lib.toUpperA, collect_up]
  · rw [printL, printL, if_neg hb, if_neg hb]
    simp only [Lib.toUpperA, List.map_map]
    congr 3
    refine List.map_congr_left (fun c _ => up_up c)
  · rw [printL, if_neg hb]
    simp [Lib.toUpperA]
    omega

/-! ### Decimals -/

theorem dropWhile_all {α : Type} (f : α → Bool) : ∀ (l r : List α), (∀ x ∈ l, f x = true) → (l ++ r).dropWhile f = r.dropWhile f := by
  intro l
  induction l with
  | nil => intro r _; rfl
  | cons a t ih =>
    intro r h
    rw [List.cons_append, List.dropWhile_cons, if_pos (h a (by simp))]
    exact ih r (fun x hx => h x (by simp [hx]))
theorem takeWhile_split {α : Type} (f : α → Bool) (l : List α) : l = l.takeWhile f ++ l.dropWhile f ∧ ∀ x ∈ l.takeWhile f, f x = true :=
  ⟨(List.takeWhile_append_dropWhile).symm, fun x hx => by
    induction l with
    | nil => cases hx
    | cons a t ih =>
      rw [List.takeWhile_cons] at hx
      split at hx
      · rcases List.mem_cons.1 hx with rfl | hx
        · assumption
        · exact ih hx
      · cases hx⟩

theorem trimZ_zeros (d z : List UInt8) (hz : ∀ c ∈ z, c = 48) : trimZ (d ++ z) = trimZ d := by
  unfold trimZ
  rw [List.reverse_append, dropWhile_all]
  intro c hc
  rw [hz c (by simpa using hc)]
  rfl
theorem trimZ_cons (d : List UInt8) : trimZ (48 :: d) = if trimZ d = [] then [] else 48 :: trimZ d := by
  unfold trimZ
  rw [List.reverse_cons]
  have h := takeWhile_split (fun c : UInt8 => c == 48) d.reverse
  generalize d.reverse.takeWhile (fun c => c == 48) = t at h
  generalize hx : d.reverse.dropWhile (fun c => c == 48) = x at h
  rw [h.1, List.append_assoc, dropWhile_all _ t _ h.2]
  cases x with
  | nil => simp
  | cons c u =>
    have hc : (c == 48) = false := by
      have := List.head_dropWhile_not (fun c : UInt8 => c == 48) (l := d.reverse) (by rw [hx]; simp)
      simpa [hx] using this
    rw [List.cons_append, List.dropWhile_cons, if_neg (by rw [hc]; decide)]
    simp

theorem norm_zeros (d z : List UInt8) (f : Nat) (pw : Int) (hz : ∀ c ∈ z, c = 48) : normDec (d ++ z) (f + z.length) pw = normDec d f pw := by
  unfold normDec
  rw [trimZ_zeros d z hz]
  split
  · rfl
  · congr 2
    rw [List.length_append]
    congr 1
    omega
theorem norm_lead (d : List UInt8) (f : Nat) (pw : Int) : normDec (48 :: d) f pw = normDec d f pw := by
  unfold normDec
  rw [trimZ_cons]
  by_cases h : trimZ d = []
  · rw [if_pos h, h]; rfl
  · rw [if_neg h, show aheadL (48 :: trimZ d) = aheadL (trimZ d) from rfl]
    split
    · rfl
    · congr 2
      simp only [List.length_cons]
      congr 1
      omega

/-- What goes from the end of a fraction. -/
theorem frac_split (f : List UInt8) : ∃ t, f = fracL f ++ t ∧ ∀ c ∈ t, c = 48 ∨ c = 95 := by
  have h := takeWhile_split (fun c : UInt8 => c == 48 || c == 95) f.reverse
  refine ⟨(f.reverse.takeWhile (fun c => c == 48 || c == 95)).reverse, ?_, fun c hc => ?_⟩
  · unfold fracL
    rw [← List.reverse_append, ← h.1, List.reverse_reverse]
  · have := h.2 c (by simpa using hc)
    simpa using this
theorem frac_idem (f : List UInt8) : fracL (fracL f) = fracL f := by
  unfold fracL
  rw [List.reverse_reverse]
  congr 1
  cases h : f.reverse.dropWhile (fun c : UInt8 => c == 48 || c == 95) with
  | nil => rfl
  | cons c t =>
    have := List.head_dropWhile_not (fun c : UInt8 => c == 48 || c == 95) (l := f.reverse) (by rw [h]; simp)
    simp only [h, List.head_cons] at this
    rw [List.dropWhile_cons, if_neg (by rw [this]; decide)]
theorem frac_last (f : List UInt8) : fracL f = [] ∨ ∃ a c, fracL f = a ++ [c] ∧ c ≠ 48 ∧ c ≠ 95 := by
  unfold fracL
  cases h : f.reverse.dropWhile (fun c : UInt8 => c == 48 || c == 95) with
  | nil => exact Or.inl rfl
  | cons c t =>
    have := List.head_dropWhile_not (fun c : UInt8 => c == 48 || c == 95) (l := f.reverse) (by rw [h]; simp)
    simp only [h, List.head_cons, Bool.or_eq_false_iff, beq_eq_false_iff_ne] at this
    exact Or.inr ⟨t.reverse, c, by simp, this.1, this.2⟩

theorem run_prefix (b : Nat) (t : List UInt8) : ∀ (a : List UInt8) (c : UInt8) (prev : Bool), c ≠ 95 → runL b prev (a ++ [c] ++ t) = some (a ++ [c] ++ t).length → runL b prev (a ++ [c]) = some (a ++ [c]).length := by
  intro a
  induction a with
  | nil =>
    intro c prev hc h
    simp only [List.nil_append, List.cons_append] at h ⊢
    rw [runL] at h ⊢
    by_cases h1 : valN c < b
    · rw [if_pos h1]; rfl
    · rw [if_neg h1, if_neg hc] at h
      simp at h
  | cons x a ih =>
    intro c prev hc h
    simp only [List.cons_append] at h ⊢
    rw [runL] at h ⊢
    by_cases h1 : valN x < b
    · rw [if_pos h1] at h ⊢
      obtain ⟨j, hj, e⟩ := Option.map_eq_some_iff.1 h
      simp only [List.length_cons, Nat.add_right_cancel_iff] at e
      rw [ih c true hc (by rw [hj, e])]
      rfl
    · rw [if_neg h1] at h ⊢
      by_cases h2 : x = 95
      · rw [if_pos h2] at h ⊢
        split at h
        · rename_i h3
          obtain ⟨j, hj, e⟩ := Option.map_eq_some_iff.1 h
          simp only [List.length_cons, Nat.add_right_cancel_iff] at e
          have hh : headDig b (a ++ [c]) = true := by
            have := h3.2
            cases a with
            | nil => exact this
            | cons y z => exact this
          rw [if_pos ⟨h3.1, hh⟩, ih c false hc (by rw [hj, e])]
          rfl
        · cases h
      · rw [if_neg h2] at h
        simp at h
theorem run_frac (f : List UInt8) (h : Run 10 f) : Run 10 (fracL f) := by
  rcases frac_last f with e | ⟨a, c, e, _, hc⟩
  · rw [e]; rfl
  · obtain ⟨t, ht, _⟩ := frac_split f
    rw [e] at ht ⊢
    unfold Run at h
    rw [ht] at h
    exact run_prefix 10 t a c false hc h

theorem collect_app (a b : List UInt8) : collectL (a ++ b) = collectL a ++ collectL b := by simp [collectL, plainL]
theorem collect_zeros (t : List UInt8) (h : ∀ c ∈ t, c = 48 ∨ c = 95) : ∀ c ∈ collectL t, c = 48 := by
  intro c hc
  unfold collectL plainL at hc
  obtain ⟨x, hx, rfl⟩ := List.mem_map.1 hc
  obtain ⟨h1, h2⟩ := List.mem_filter.1 hx
  rcases h x h1 with rfl | rfl
  · rfl
  · simp at h2

/-- A decimal, printed. -/
def backD (p : Parts) : Parts := ⟨10, if p.whole = [] then [48] else p.whole, decide (fracL p.frac ≠ []), fracL p.frac, p.exp, if p.sgn = [45] then [45] else [], p.pow, p.big⟩

theorem back_dec_ok (p : Parts) (d : Dec p) : Dec (backD p) := by
  refine ⟨rfl, ?_, fun h => ?_, fun h => ?_, run_frac _ d.frac, fun h => ?_, fun h => ?_, fun h => ?_, fun h => ?_⟩
  · show Run 10 (if p.whole = [] then [48] else p.whole)
    split
    · rfl
    · exact d.whole
  · have h : (if p.whole = [] then [48] else p.whole) = [] := h
    split at h
    · cases h
    · contradiction
  · have h : 1 < (if p.whole = [] then [48] else p.whole).length := h
    show (if p.whole = [] then [48] else p.whole).head? ≠ some 48
    split at h
    · simp at h
    · rename_i hn
      rw [if_neg hn]
      exact d.lead h
  · have h : decide (fracL p.frac ≠ []) = false := h
    show fracL p.frac = []
    simpa using h
  · have hb := d.big h
    refine ⟨?_, hb.2⟩
    show decide (fracL p.frac ≠ []) = false
    rw [d.dot hb.1]
    rfl
  · obtain ⟨a1, a2, a3, _⟩ := d.pow h
    refine ⟨a1, a2, a3, ?_⟩
    show (if p.sgn = [45] then [45] else []) = [] ∨ (if p.sgn = [45] then [45] else []) = [43] ∨ (if p.sgn = [45] then [45] else []) = [45]
    split
    · exact Or.inr (Or.inr rfl)
    · exact Or.inl rfl
  · obtain ⟨a1, a2⟩ := d.exp h
    refine ⟨?_, a2⟩
    show (if p.sgn = [45] then [45] else []) = []
    rw [a1]
    rfl

theorem sgn_idem (p : Parts) : ((backD p).sgn = [45]) ↔ p.sgn = [45] := by
  show (if p.sgn = [45] then [45] else []) = [45] ↔ _
  split <;> simp [*]

theorem print_text (p : Parts) : printDec p ++ nT p.big = decText 101 (backD p) := by
  unfold printDec decText dotT expT' backD
  simp only []
  by_cases h1 : p.whole = [] <;> by_cases h2 : fracL p.frac = [] <;> cases p.exp <;> simp [h1, h2]

theorem back_print (p : Parts) : printDec (backD p) = printDec p := by
  have hs := sgn_idem p
  unfold printDec
  by_cases h : p.sgn = [45]
  · rw [if_pos (hs.2 h), if_pos h]
    unfold backD
    simp only [frac_idem]
    by_cases h1 : p.whole = [] <;> simp [h1]
  · rw [if_neg (fun x => h (hs.1 x)), if_neg h]
    unfold backD
    simp only [frac_idem]
    by_cases h1 : p.whole = [] <;> simp [h1]

theorem back_pow (p : Parts) : powI (backD p) = powI p := by
  have hs := sgn_idem p
  unfold powI
  by_cases h : p.sgn = [45]
  · rw [if_pos (hs.2 h), if_pos h]; rfl
  · rw [if_neg (fun x => h (hs.1 x)), if_neg h]; rfl

theorem back_norm (p : Parts) : normDec (collectL (backD p).whole ++ collectL (backD p).frac) (collectL (backD p).frac).length (powI (backD p)) = normDec (collectL p.whole ++ collectL p.frac) (collectL p.frac).length (powI p) := by
  rw [back_pow]
  obtain ⟨t, ht, hz⟩ := frac_split p.frac
  have e1 : collectL p.frac = collectL (fracL p.frac) ++ collectL t := by
    have := congrArg collectL ht
    rw [collect_app] at this
    exact this
  show normDec (collectL (if p.whole = [] then [48] else p.whole) ++ collectL (fracL p.frac)) (collectL (fracL p.frac)).length (powI p) = _
  rw [e1, List.length_append, ← List.append_assoc, norm_zeros _ _ _ _ (collect_zeros t hz)]
  by_cases h : p.whole = []
  · rw [if_pos h, h]
    exact norm_lead _ _ _
  · rw [if_neg h]

theorem back_dec (p : Parts) (d : Dec p) : ∃ q, ofL (printL p) = some q ∧ canonL q = canonL p ∧ printL q = printL p := by
  refine ⟨backD p, ?_, ?_, ?_⟩
  · rw [printL, if_pos d.base, print_text]
    exact of_dec 101 _ (Or.inl rfl) (back_dec_ok p d)
  · rw [canonL, canonL, if_pos d.base, if_pos (show (backD p).base = 10 from rfl), back_norm]
    rfl
  · rw [printL, printL, if_pos d.base, if_pos (show (backD p).base = 10 from rfl), back_print]
    rfl

theorem print_len_dec (p : Parts) (e : UInt8) (d : Dec p) : (printL p).length ≤ (decText e p).length + 1 := by
  rw [printL, if_pos d.base]
  have hf : (fracL p.frac).length ≤ p.frac.length := by unfold fracL; rw [List.length_reverse]; exact Nat.le_trans (List.dropWhile_sublist _).length_le (by simp)
  unfold printDec decText dotT expT'
  have a : ((if p.whole = [] then [48] else []) ++ p.whole : List UInt8).length ≤ p.whole.length + 1 := by rw [List.length_append]; split <;> simp <;> omega
  have b : (if fracL p.frac = [] then [] else 46 :: fracL p.frac : List UInt8).length ≤ (if p.dot then 46 :: p.frac else []).length := by
    split
    · simp
    · rename_i hn
      cases hd : p.dot with
      | false => exact absurd (by rw [d.dot hd]; rfl) hn
      | true => simp; exact hf
  have c : (if p.exp then 101 :: ((if p.sgn = [45] then [45] else []) ++ p.pow) else [] : List UInt8).length ≤ (if p.exp then e :: (p.sgn ++ p.pow) else []).length := by
    cases p.exp with
    | false => simp
    | true =>
      simp only [if_true, List.length_cons, List.length_append]
      split
      · rename_i h; rw [h]; exact Nat.le_refl _
      · simp
  simp only [List.length_append] at *
  omega

/-- P2.4's first half. -/
theorem back_any (l : List UInt8) (p : Parts) (h : ofL l = some p) : (∃ q, ofL (printL p) = some q ∧ canonL q = canonL p ∧ printL q = printL p) ∧ (printL p).length ≤ l.length + 1 := by
  rcases ofL_of _ _ h with ⟨d, b, _, hl⟩ | ⟨d, e, _, hl⟩
  · obtain ⟨q, h1, h2, h3, h4⟩ := back_bas p d
    refine ⟨⟨q, h1, h2, h3⟩, ?_⟩
    rw [h4, hl, basText]
    simp
    omega
  · refine ⟨back_dec p d, ?_⟩
    rw [hl]
    exact print_len_dec p e d

end Num
end Go.Proofs.YtinjaopgnlpncaaGreatDoor
