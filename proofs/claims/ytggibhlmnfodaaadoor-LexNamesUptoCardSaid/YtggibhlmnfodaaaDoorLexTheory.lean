/-
  A numeric literal, a string literal is just what is read of it.
-/
import Derived.Test.YtggibhlmnfodaaaDoorLexSuf
import Derived.Test.YtggibhlmnfodaaaDoorStrTheory
namespace Go.Proofs.YtggibhlmnfodaaaDoor
namespace Lex
open Go.RowKit
open Str (lenL runeL)

/-! Where a number reaches to. -/
/-- Letters, digits, _. -/
def AN (c : UInt8) : Prop := digC c.toNat = true ∨ c = 95 ∨ ¬ ((c ||| 32) < 97 ∨ 122 < (c ||| 32))
def DU (c : UInt8) : Prop := digC c.toNat = true ∨ c = 95
theorem digs_an (l r : List UInt8) (h : ∀ c ∈ l, AN c) : (digsP (l ++ r)).2 = (digsP r).2 := by
  induction l with
  | nil => rfl
  | cons x l ih =>
    have hx := h x (List.mem_cons_self)
    have hl := ih (fun c hc => h c (List.mem_cons_of_mem _ hc))
    rw [List.cons_append, digsP]
    by_cases c1 : digC x.toNat = true ∨ x = 95
    · rw [if_pos c1]; exact hl
    · rw [if_neg c1, if_neg (hx.elim (fun h => absurd (Or.inl h) c1) (fun h => h.elim (fun h => absurd (Or.inr h) c1) id))]
      exact hl
theorem digs_du (l r : List UInt8) (h : ∀ c ∈ l, DU c) : digsP (l ++ r) = digsP r := by
  induction l with
  | nil => rfl
  | cons x l ih =>
    rw [List.cons_append, digsP, if_pos (show digC x.toNat = true ∨ x = 95 from h x (List.mem_cons_self))]
    exact ih (fun c hc => h c (List.mem_cons_of_mem _ hc))
theorem digs_stop (x : UInt8) (r : List UInt8) (h1 : ¬ (digC x.toNat = true ∨ x = 95)) (h2 : (x ||| 32) < 97 ∨ 122 < (x ||| 32)) : digsP (x :: r) = (true, x :: r) := by rw [digsP, if_neg h1, if_pos h2]
theorem digs_all (l : List UInt8) (h : ∀ c ∈ l, AN c) : (digsP l).2 = [] := by
  have := digs_an l [] h
  rwa [List.append_nil] at this
theorem du_an {c : UInt8} (h : DU c) : AN c := h.elim Or.inl (fun h => Or.inr (Or.inl h))

theorem all256 (P : UInt8 → Prop) (h : ∀ n : Fin 256, P (UInt8.ofNat n.val)) (c : UInt8) : P c := by
  have := h ⟨c.toNat, c.toNat_lt⟩
  rwa [UInt8.ofNat_toNat] at this
instance (c : UInt8) : Decidable (AN c) := by unfold AN; infer_instance
instance (c : UInt8) : Decidable (DU c) := by unfold DU; infer_instance

/-- The machine's moves, a byte's worth of facts each. -/
theorem val_an (c : UInt8) : Num.valN c < 16 → AN c := all256 (fun c => Num.valN c < 16 → AN c) (by decide +kernel) c
theorem val_du (c : UInt8) : Num.valN c < 10 → DU c := all256 (fun c => Num.valN c < 10 → DU c) (by decide +kernel) c

/-- Behind the letter of an exponent: a sign and digits, or digits. -/
def Tail8 (l : List UInt8) : Prop := (∀ c ∈ l, AN c) ∨ ∃ s d, (s = 43 ∨ s = 45) ∧ l = s :: d ∧ ∀ c ∈ d, AN c
/-- Digits, maybe an exponent. -/
def Tail6 (l : List UInt8) : Prop := (∀ c ∈ l, AN c) ∨ ∃ a e s d, (∀ c ∈ a, DU c) ∧ (e = 101 ∨ e = 69) ∧ (s = 43 ∨ s = 45) ∧ l = a ++ e :: s :: d ∧ ∀ c ∈ d, AN c
theorem tail8_6 {c : UInt8} {l : List UInt8} (he : c = 101 ∨ c = 69) (h : Tail8 l) : Tail6 (c :: l) := by
  have hc : AN c := by rcases he with rfl | rfl <;> decide
  rcases h with h | ⟨s, d, h1, rfl, h3⟩
  · exact Or.inl (fun x hx => (List.mem_cons.1 hx).elim (fun h => h ▸ hc) (h x))
  · exact Or.inr ⟨[], c, s, d, fun _ h => absurd h List.not_mem_nil, he, h1, rfl, h3⟩
theorem tail6_cons {c : UInt8} {l : List UInt8} (hc : DU c) (h : Tail6 l) : Tail6 (c :: l) := by
  rcases h with h | ⟨a, e, s, d, h1, h2, h3, rfl, h5⟩
  · exact Or.inl (fun x hx => (List.mem_cons.1 hx).elim (fun h => h ▸ du_an hc) (h x))
  · exact Or.inr ⟨c :: a, e, s, d, fun x hx => (List.mem_cons.1 hx).elim (fun h => h ▸ hc) (h1 x), h2, h3, rfl, h5⟩

def Whole (l : List UInt8) : Prop := Tail6 l ∨ ∃ w r, (∀ c ∈ w, DU c) ∧ l = w ++ 46 :: r ∧ Tail6 r
theorem whole_cons {c : UInt8} {l : List UInt8} (hc : DU c) (h : Whole l) : Whole (c :: l) := by
  rcases h with h | ⟨w, r, h1, rfl, h3⟩
  · exact Or.inl (tail6_cons hc h)
  · exact Or.inr ⟨c :: w, r, fun x hx => (List.mem_cons.1 hx).elim (fun h => h ▸ hc) (h1 x), rfl, h3⟩

theorem acc_step {st : Nat} {b c : UInt8} {p : Nat} {t : List UInt8} (h : Num.accL st b p (c :: t) = true) : ∃ n b' p', Num.nextN st b c = n ∧ n ≠ 16 ∧ Num.accL n b' p' t = true := by
  rw [Num.acc_cons] at h
  by_cases e : Num.stN (Num.nextN st b c) (Num.plN (Num.nextN st b c) p c) = 16
  · rw [if_pos e] at h; cases h
  · rw [if_neg e] at h
    have hn : Num.stN (Num.nextN st b c) (Num.plN (Num.nextN st b c) p c) = Num.nextN st b c := by
      unfold Num.stN at e ⊢
      split
      · rename_i h2; rw [if_pos h2] at e; exact absurd rfl e
      · rfl
    rw [hn] at h e
    exact ⟨_, _, _, rfl, e, h⟩
theorem next_low (st : Nat) (b c : UInt8) (h : st < 12) : Num.nextN st b c = Num.nextN st 0 c := by
  unfold Num.nextN
  simp only [if_neg (show ¬ 12 ≤ st by omega)]
theorem next_bas {st : Nat} {b c : UInt8} (h : 12 ≤ st) (hn : Num.nextN st b c ≠ 16) : AN c ∧ 12 ≤ Num.nextN st b c := by
  unfold Num.nextN at hn ⊢
  rw [if_pos h] at hn ⊢
  unfold Num.basN at hn ⊢
  by_cases h1 : st = 13 ∧ c = 95
  · rw [if_pos h1]; exact ⟨by rw [h1.2]; decide, by omega⟩
  rw [if_neg h1] at hn ⊢
  by_cases h2 : st = 13 ∧ c = 110
  · rw [if_pos h2]; exact ⟨by rw [h2.2]; decide, by omega⟩
  rw [if_neg h2] at hn ⊢
  by_cases h3 : (st = 13 ∨ st = 12 ∨ st = 14) ∧ Num.valN c < Num.radN b
  · rw [if_pos h3]; exact ⟨val_an c (by have := Num.rad_le b; omega), by omega⟩
  · rw [if_neg h3] at hn; exact absurd rfl hn
theorem n10 (c : UInt8) : Num.nextN 10 0 c ≠ 16 → AN c ∧ 9 ≤ Num.nextN 10 0 c := all256 (fun c => Num.nextN 10 0 c ≠ 16 → AN c ∧ 9 ≤ Num.nextN 10 0 c) (by decide +kernel) c
theorem n11 (c : UInt8) : Num.nextN 11 0 c ≠ 16 → AN c ∧ 9 ≤ Num.nextN 11 0 c := all256 (fun c => Num.nextN 11 0 c ≠ 16 → AN c ∧ 9 ≤ Num.nextN 11 0 c) (by decide +kernel) c
theorem n9 (c : UInt8) : Num.nextN 9 0 c ≠ 16 → AN c ∧ 9 ≤ Num.nextN 9 0 c := all256 (fun c => Num.nextN 9 0 c ≠ 16 → AN c ∧ 9 ≤ Num.nextN 9 0 c) (by decide +kernel) c
theorem n8 (c : UInt8) : Num.nextN 8 0 c ≠ 16 → (c = 43 ∨ c = 45 ∨ AN c) ∧ 9 ≤ Num.nextN 8 0 c := all256 (fun c => Num.nextN 8 0 c ≠ 16 → (c = 43 ∨ c = 45 ∨ AN c) ∧ 9 ≤ Num.nextN 8 0 c) (by decide +kernel) c
/-- To an exponent's letter, or a digit or _. -/
def to6 (st : Nat) (c : UInt8) : Prop := Num.nextN st 0 c ≠ 16 → (Num.nextN st 0 c = 8 ∧ (c = 101 ∨ c = 69)) ∨ (DU c ∧ 4 ≤ Num.nextN st 0 c ∧ Num.nextN st 0 c ≤ 7)
instance (st : Nat) (c : UInt8) : Decidable (to6 st c) := by unfold to6; infer_instance
theorem n4 (c : UInt8) : to6 4 c := all256 (to6 4) (by decide +kernel) c
theorem n5 (c : UInt8) : to6 5 c := all256 (to6 5) (by decide +kernel) c
theorem n6 (c : UInt8) : to6 6 c := all256 (to6 6) (by decide +kernel) c
theorem n7 (c : UInt8) : to6 7 c := all256 (to6 7) (by decide +kernel) c
def to3 (st : Nat) (c : UInt8) : Prop := Num.nextN st 0 c ≠ 16 → (Num.nextN st 0 c = 8 ∧ (c = 101 ∨ c = 69)) ∨ (DU c ∧ 1 ≤ Num.nextN st 0 c ∧ Num.nextN st 0 c ≤ 3) ∨ (c = 46 ∧ Num.nextN st 0 c = 5) ∨ (AN c ∧ 9 ≤ Num.nextN st 0 c)
instance (st : Nat) (c : UInt8) : Decidable (to3 st c) := by unfold to3; infer_instance
theorem n1 (c : UInt8) : to3 1 c := all256 (to3 1) (by decide +kernel) c
theorem n2 (c : UInt8) : to3 2 c := all256 (to3 2) (by decide +kernel) c
theorem n3 (c : UInt8) : to3 3 c := all256 (to3 3) (by decide +kernel) c
theorem n0 (c : UInt8) : Num.nextN 0 0 c ≠ 16 → (digC c.toNat = true ∧ 1 ≤ Num.nextN 0 0 c ∧ Num.nextN 0 0 c ≤ 3) ∨ (c = 46 ∧ Num.nextN 0 0 c = 4) :=
  all256 (fun c => Num.nextN 0 0 c ≠ 16 → (digC c.toNat = true ∧ 1 ≤ Num.nextN 0 0 c ∧ Num.nextN 0 0 c ≤ 3) ∨ (c = 46 ∧ Num.nextN 0 0 c = 4)) (by decide +kernel) c

theorem shape : ∀ (l : List UInt8) (st : Nat) (b : UInt8) (p : Nat), Num.accL st b p l = true → (9 ≤ st → ∀ c ∈ l, AN c) ∧ (st = 8 → Tail8 l) ∧ (4 ≤ st → st ≤ 7 → Tail6 l) ∧ (1 ≤ st → st ≤ 3 → Whole l)
  | [], st, b, p, _ => ⟨fun _ _ h => absurd h List.not_mem_nil, fun _ => Or.inl (fun _ h => absurd h List.not_mem_nil), fun _ _ => Or.inl (fun _ h => absurd h List.not_mem_nil), fun _ _ => Or.inl (Or.inl (fun _ h => absurd h List.not_mem_nil))⟩
  | c :: t, st, b, p, h => by
    obtain ⟨n, b', p', hn, h16, ha⟩ := acc_step h
    obtain ⟨i1, i2, i3, i4⟩ := shape t n b' p' ha
    refine ⟨fun h9 => ?_, fun h8 => ?_, fun h4 h7 => ?_, fun h1 h3 => ?_⟩
    · have hc : AN c ∧ 9 ≤ n := by
        by_cases h12 : 12 ≤ st
        · have := next_bas (b := b) (c := c) h12 (by rw [hn]; exact h16)
          exact ⟨this.1, by rw [hn] at this; omega⟩
        · rw [next_low st b c (by omega)] at hn
          obtain rfl | rfl | rfl : st = 9 ∨ st = 10 ∨ st = 11 := by omega
          · have := n9 c (by rw [hn]; exact h16); rwa [hn] at this
          · have := n10 c (by rw [hn]; exact h16); rwa [hn] at this
          · have := n11 c (by rw [hn]; exact h16); rwa [hn] at this
      exact fun x hx => (List.mem_cons.1 hx).elim (fun h => h ▸ hc.1) (i1 hc.2 x)
    · subst h8
      rw [next_low 8 b c (by omega)] at hn
      have hc := n8 c (by rw [hn]; exact h16)
      rw [hn] at hc
      have it := i1 hc.2
      rcases hc.1 with h | h | h
      · exact Or.inr ⟨c, t, Or.inl h, rfl, it⟩
      · exact Or.inr ⟨c, t, Or.inr h, rfl, it⟩
      · exact Or.inl (fun x hx => (List.mem_cons.1 hx).elim (fun e => e ▸ h) (it x))
    · rw [next_low st b c (by omega)] at hn
      have hc : (n = 8 ∧ (c = 101 ∨ c = 69)) ∨ (DU c ∧ 4 ≤ n ∧ n ≤ 7) := by
        obtain rfl | rfl | rfl | rfl : st = 4 ∨ st = 5 ∨ st = 6 ∨ st = 7 := by omega
        · have := n4 c (by rw [hn]; exact h16); rwa [hn] at this
        · have := n5 c (by rw [hn]; exact h16); rwa [hn] at this
        · have := n6 c (by rw [hn]; exact h16); rwa [hn] at this
        · have := n7 c (by rw [hn]; exact h16); rwa [hn] at this
      rcases hc with ⟨h8, he⟩ | ⟨hd, ha, hb⟩
      · exact tail8_6 he (i2 h8)
      · exact tail6_cons hd (i3 ha hb)
    · rw [next_low st b c (by omega)] at hn
      have hc : (n = 8 ∧ (c = 101 ∨ c = 69)) ∨ (DU c ∧ 1 ≤ n ∧ n ≤ 3) ∨ (c = 46 ∧ n = 5) ∨ (AN c ∧ 9 ≤ n) := by
        obtain rfl | rfl | rfl : st = 1 ∨ st = 2 ∨ st = 3 := by omega
        · have := n1 c (by rw [hn]; exact h16); rwa [hn] at this
        · have := n2 c (by rw [hn]; exact h16); rwa [hn] at this
        · have := n3 c (by rw [hn]; exact h16); rwa [hn] at this
      rcases hc with ⟨h8, he⟩ | ⟨hd, ha, hb⟩ | ⟨rfl, h5⟩ | ⟨hd, ha⟩
      · exact Or.inl (tail8_6 he (i2 h8))
      · exact whole_cons hd (i4 ha hb)
      · exact Or.inr ⟨[], t, fun _ h => absurd h List.not_mem_nil, rfl, i3 (by omega) (by omega)⟩
      · exact Or.inl (Or.inl (fun x hx => (List.mem_cons.1 hx).elim (fun e => e ▸ hd) (i1 ha x)))

theorem du_x (c : UInt8) (h : DU c) : (c ||| 32) ≠ 120 := all256 (fun c => DU c → (c ||| 32) ≠ 120) (by decide +kernel) c h
theorem hex_no (l : List UInt8) (h : ∀ c ∈ l, (c ||| 32) ≠ 120) : hexQ l = false := by
  unfold hexQ
  by_cases h1 : 1 < l.length
  · rw [decide_eq_true h1, Bool.true_and, beq_eq_false_iff_ne, Str.getD_lt _ _ h1]
    exact h _ (List.getElem_mem h1)
  · rw [decide_eq_false h1]; rfl
theorem reach_exp (M : List UInt8) (e s : UInt8) (d : List UInt8) (hM : ∀ c ∈ M, (c ||| 32) ≠ 120) (he : e = 101 ∨ e = 69) (hs : s = 43 ∨ s = 45) (hd : ∀ c ∈ d, AN c) : reachQ (M ++ [e]) (s :: d) = [] := by
  have hx : hexQ (M ++ [e]) = false := hex_no _ (fun c hc => (List.mem_append.1 hc).elim (hM c) (fun h => by
    obtain rfl := List.mem_singleton.1 h
    rcases he with rfl | rfl <;> decide))
  have hl : ((M ++ [e]).getD ((M ++ [e]).length - 1) 0 ||| 32) = 101 := by
    rw [List.length_append, List.length_singleton, Nat.add_sub_cancel, show (M ++ [e]).getD M.length 0 = e by simp]
    rcases he with rfl | rfl <;> decide
  unfold reachQ
  rw [hx, hl, if_neg (by decide), if_pos (by rcases hs with rfl | rfl <;> simp [pre])]
  exact digs_all d hd
theorem reach_nil (t : List UInt8) : reachQ t [] = [] := List.suffix_nil.1 (reachQ_suf t [])
theorem digs_e (e s : UInt8) (d : List UInt8) (he : e = 101 ∨ e = 69) (hs : s = 43 ∨ s = 45) : digsP (e :: s :: d) = (false, s :: d) := by
  have h1 : digsP (s :: d) = (true, s :: d) := digs_stop s d (by rcases hs with rfl | rfl <;> decide) (by rcases hs with rfl | rfl <;> decide)
  rw [digsP, if_neg (by rcases he with rfl | rfl <;> decide), if_neg (by rcases he with rfl | rfl <;> decide), h1]
theorem upTo_cut (a m : List UInt8) : upTo (a ++ m) m = a := upTo_app a m
theorem reach_dot (w r : List UInt8) (hw : ∀ c ∈ w, DU c) (hr : Tail6 r) : reachP (w ++ 46 :: r) = [] := by
  have hd : digsP (w ++ 46 :: r) = (true, 46 :: r) := by rw [digs_du w _ hw]; exact digs_stop 46 r (by decide) (by decide)
  have hW : reachW (w ++ 46 :: r) = (digsP r).2 := by unfold reachW; rw [hd, if_pos ⟨rfl, by simp [pre]⟩]; rfl
  unfold reachP
  rw [hW]
  rcases hr with h | ⟨a, e, s, d, h1, h2, h3, rfl, h5⟩
  · rw [digs_all r h]; exact reach_nil _
  · rw [digs_du a _ h1, digs_e e s d h2 h3]
    have : upTo (w ++ 46 :: (a ++ e :: s :: d)) (s :: d) = (w ++ 46 :: a) ++ [e] := by
      rw [show w ++ 46 :: (a ++ e :: s :: d) = ((w ++ 46 :: a) ++ [e]) ++ (s :: d) by simp]
      exact upTo_app _ _
    simp only
    rw [this]
    refine reach_exp _ e s d (fun c hc => ?_) h2 h3 h5
    rcases List.mem_append.1 hc with h | h
    · exact du_x c (hw c h)
    · rcases List.mem_cons.1 h with h | h
      · subst h; decide
      · exact du_x c (h1 c h)
theorem reach_all (l : List UInt8) (h : numB l = true) : reachP l = [] ∧ ∃ c t, l = c :: t ∧ (digC c.toNat = true ∨ (c = 46 ∧ digAt t = true)) := by
  match l with
  | [] => cases h
  | c :: t =>
    obtain ⟨n, b', p', hn, h16, ha⟩ := acc_step (show Num.accL 0 0 0 (c :: t) = true from h)
    obtain ⟨_, _, i3, i4⟩ := shape t n b' p' ha
    have hc := n0 c (by rw [hn]; exact h16)
    rw [hn] at hc
    rcases hc with ⟨hd, h1, h3⟩ | ⟨rfl, h4⟩
    · refine ⟨?_, c, t, rfl, Or.inl hd⟩
      rcases whole_cons (Or.inl hd) (i4 h1 h3) with hT | ⟨w, r, hw, hl, hr⟩
      · rcases hT with hT | ⟨a, e, s, d, h1, h2, h3, hl, h5⟩
        · have hW : reachW (c :: t) = [] := by
            unfold reachW; rw [digs_all _ hT, if_neg (by simp [pre])]
          unfold reachP; rw [hW]; exact reach_nil _
        · rw [hl]
          have hd2 : digsP (a ++ e :: s :: d) = (false, s :: d) := by rw [digs_du a _ h1]; exact digs_e e s d h2 h3
          have hW : reachW (a ++ e :: s :: d) = s :: d := by unfold reachW; rw [hd2, if_neg (by simp)]
          unfold reachP
          rw [hW, show a ++ e :: s :: d = (a ++ [e]) ++ (s :: d) by simp, upTo_app]
          exact reach_exp a e s d (fun c hc => du_x c (h1 c hc)) h2 h3 h5
      · rw [hl]; exact reach_dot w r hw hr
    · subst h4
      refine ⟨reach_dot [] t (fun _ h => absurd h List.not_mem_nil) (i3 (by omega) (by omega)), 46, t, rfl, Or.inr ⟨rfl, ?_⟩⟩
      match t with
      | [] => cases ha
      | d :: u =>
        obtain ⟨n2, _, _, hn2, h162, _⟩ := acc_step ha
        rw [next_low 4 b' d (by omega)] at hn2
        exact all256 (fun d => Num.nextN 4 0 d ≠ 16 → digC d.toNat = true) (by decide +kernel) d (by rw [hn2]; exact h162)

end Lex
end Go.Proofs.YtggibhlmnfodaaaDoor
