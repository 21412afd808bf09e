/-
  A string literal is read to its end, whatever stands behind it.
-/
import Derived.Test.YtggibhlmnfodaaaDoorLexTheory
namespace Go.Proofs.YtggibhlmnfodaaaDoor
namespace Lex
open Go.RowKit
open Str (lenL runeL)

/-- A byte that a quote's reader passes. -/
theorem toq_byte (q : Int) (x : UInt8) (m : List UInt8) (h : x.toNat < 128) (h1 : x ≠ 10 ∧ x ≠ 13 ∧ x ≠ 92) (hq : (x.toNat : Int) ≠ q) : toq q (x :: m) = toq q m := by
  obtain ⟨c1, c2, _⟩ := ch_asc x m h
  have hx : ∀ n : Nat, n < 256 → x ≠ UInt8.ofNat n → x.toNat ≠ n := fun n hn hne e => hne (UInt8.toNat_inj.1 (by rw [UInt8.toNat_ofNat_of_lt' hn]; exact e))
  have a1 := hx 10 (by decide) h1.1
  have a2 := hx 13 (by decide) h1.2.1
  have a3 := hx 92 (by decide) h1.2.2
  refine loop_go (falls_toq q) _ ?_
  unfold toqS
  rw [c1, c2, if_neg (by omega), if_neg (by omega), if_neg hq]
theorem hex_byte (x : UInt8) (h : 0 ≤ Str.hexV x.toNat) : x.toNat < 128 ∧ (x ≠ 10 ∧ x ≠ 13 ∧ x ≠ 92) ∧ x.toNat ≠ 34 ∧ x.toNat ≠ 39 :=
  all256 (fun x => 0 ≤ Str.hexV x.toNat → x.toNat < 128 ∧ (x ≠ 10 ∧ x ≠ 13 ∧ x ≠ 92) ∧ x.toNat ≠ 34 ∧ x.toNat ≠ 39) (by decide +kernel) x h
theorem toq_run (q : Int) (hq : q = 34 ∨ q = 39) : ∀ n v (u : List UInt8), (Str.runL n v u).2.isSome = true → toq q u = toq q (u.drop (Str.runL n v u).1)
  | 0, v, u, _ => by simp [Str.runL]
  | n + 1, v, [], h => by simp [Str.runL] at h
  | n + 1, v, x :: u, h => by
    rw [Str.runL] at h ⊢
    by_cases e : Str.hexV x.toNat < 0
    · rw [if_pos e] at h; simp at h
    · rw [if_neg e] at h ⊢
      obtain ⟨h1, h2, h3, h4⟩ := hex_byte x (by omega)
      rw [toq_byte q x u h1 h2 (by omega), toq_run q hq n _ u h]
      rfl
theorem toq_bra (q : Int) (hq : q = 34 ∨ q = 39) : ∀ f v (u : List UInt8), (Str.braL f v u).2.isSome = true → toq q u = toq q (u.drop (Str.braL f v u).1)
  | f, v, [], h => by simp [Str.braL] at h
  | f, v, x :: u, h => by
    rw [Str.braL] at h ⊢
    by_cases e : 0 ≤ Str.hexV x.toNat
    · rw [if_pos e] at h ⊢
      obtain ⟨h1, h2, h3, h4⟩ := hex_byte x e
      rw [toq_byte q x u h1 h2 (by omega), toq_bra q hq false _ u h]
      rfl
    · rw [if_neg e] at h ⊢
      by_cases e2 : x = 125 ∧ f = false ∧ v ≤ 1114111
      · rw [if_pos e2]
        obtain ⟨rfl, _⟩ := e2
        exact toq_byte q 125 u (by decide) (by decide) (by rcases hq with h | h <;> rw [h] <;> decide)
      · rw [if_neg e2] at h; simp at h
theorem ahead_some {k : Nat} {r : Nat × Option Nat} (h : (Str.ahead k r).2.isSome = true) : r.2.isSome = true ∧ (Str.ahead k r).1 = k + r.1 := by
  unfold Str.ahead at h ⊢
  exact ⟨by simpa using h, rfl⟩
theorem escN_asc (y : UInt8) (u : List UInt8) (h : y.toNat < 128) (h13 : y ≠ 13) : escN (y :: u) = 1 := by
  have hp : pre [13, 10] (y :: u) = false := by
    unfold pre
    rw [decide_eq_false_iff_not]
    intro e
    rw [List.length_cons, List.take_succ_cons] at e
    exact h13 (List.cons.inj e).1
  rw [escN, hp, if_neg (by decide)]
  exact (ch_asc y u h).2.2
/-- Behind a backslash. -/
theorem toq_esc (q : Int) (hq : q = 34 ∨ q = 39) (t : List UInt8) (h : (Str.escL t).2.isSome = true) : toq q (t.drop (escN t)) = toq q (t.drop (Str.escL t).1) := by
  match t with
  | [] => simp [Str.escL] at h
  | y :: u =>
    rw [Str.escL] at h ⊢
    by_cases c1 : y = 120
    · rw [if_pos c1] at h ⊢
      obtain ⟨h1, h2⟩ := ahead_some h
      subst c1
      rw [escN_asc _ u (by decide) (by decide), h2, Nat.add_comm 1, List.drop_succ_cons, List.drop_succ_cons, List.drop_zero]
      exact toq_run q hq 2 0 u h1
    rw [if_neg c1] at h ⊢
    by_cases c2 : y = 117
    · rw [if_pos c2] at h ⊢
      subst c2
      rw [escN_asc _ u (by decide) (by decide)]
      by_cases c3 : u.head? = some 123
      · rw [if_pos c3] at h ⊢
        obtain ⟨h1, h2⟩ := ahead_some h
        rw [h2]
        match u, c3 with
        | x :: u', c3 =>
          obtain rfl : x = 123 := by simpa using c3
          rw [List.drop_succ_cons, List.drop_zero, toq_byte q 123 u' (by decide) (by decide) (by rcases hq with h | h <;> rw [h] <;> decide), Nat.add_comm 2, List.drop_succ_cons, List.drop_succ_cons]
          exact toq_bra q hq true 0 u' h1
      · rw [if_neg c3] at h ⊢
        obtain ⟨h1, h2⟩ := ahead_some h
        rw [h2, Nat.add_comm 1, List.drop_succ_cons, List.drop_succ_cons, List.drop_zero]
        exact toq_run q hq 4 0 u h1
    rw [if_neg c2] at h ⊢
    by_cases c4 : y = 48
    · rw [if_pos c4]
      subst c4
      rw [escN_asc _ u (by decide) (by decide)]
    rw [if_neg c4] at h ⊢
    by_cases c5 : 49 ≤ y.toNat ∧ y.toNat ≤ 57
    · rw [if_pos c5] at h; simp at h
    rw [if_neg c5] at h ⊢
    by_cases c6 : y = 13
    · rw [if_pos c6]
      subst c6
      simp only
      match u with
      | [] => rfl
      | x :: u' =>
        by_cases c7 : x = 10
        · subst c7; rfl
        · have hp : pre [13, 10] (13 :: x :: u') = false := by
            unfold pre
            rw [decide_eq_false_iff_not]
            intro e
            simp only [List.length_cons, List.length_nil, List.take_succ_cons, List.take_zero] at e
            exact c7 (List.cons.inj (List.cons.inj e).2).1
          rw [escN, hp, if_neg (by decide), if_neg (by simpa using c7), (ch_asc 13 (x :: u') (by decide)).2.2]
    rw [if_neg c6] at h ⊢
    have hp : pre [13, 10] (y :: u) = false := by
      unfold pre
      rw [decide_eq_false_iff_not]
      intro e
      rw [List.length_cons, List.take_succ_cons] at e
      exact c6 (List.cons.inj e).1
    rw [escN, hp, if_neg (by decide)]
/-- A part. -/
theorem toq_part (q : UInt8) (hq : q = 34 ∨ q = 39) (l : List UInt8) (h : (Str.partL l).2.isSome = true) (hn : ¬ l.head? = some q) : toq q.toNat l = toq q.toNat (l.drop (Str.partL l).1) := by
  have hq' : (q.toNat : Int) = 34 ∨ (q.toNat : Int) = 39 := by rcases hq with rfl | rfl <;> simp
  match l with
  | [] => simp [Str.partL] at h
  | x :: t =>
    rw [Str.partL] at h ⊢
    by_cases c1 : x = 92
    · rw [if_pos c1] at h ⊢
      subst c1
      obtain ⟨a1, a2, _⟩ := ch_asc 92 t (by decide)
      rw [List.drop_succ_cons, ← toq_esc q.toNat hq' t h]
      refine loop_go (falls_toq q.toNat) _ ?_
      unfold toqS
      rw [a1, a2, if_neg (by decide), if_pos (by decide)]
    rw [if_neg c1] at h ⊢
    by_cases c2 : x = 10 ∨ x = 13
    · rw [if_pos c2] at h; simp at h
    rw [if_neg c2] at h ⊢
    by_cases c3 : lenL (x :: t) = 0
    · simp only [if_pos c3] at h; simp at h
    have hne : (x :: t) ≠ [] := List.cons_ne_nil _ _
    have hch : chL (x :: t) = (runeL (x :: t) : Int) := by rw [chL, if_neg hne, if_neg c3]
    have hx : ∀ n : Nat, n < 128 → x ≠ UInt8.ofNat n → runeL (x :: t) ≠ n := by
      intro n hn hne
      rcases Str.lenL_cons x t with ⟨e, _⟩ | ⟨_, h2, h3⟩ | ⟨_, _, h3, _⟩
      · exact absurd e c3
      · rw [h3]; exact fun e => hne (UInt8.toNat_inj.1 (by rw [UInt8.toNat_ofNat_of_lt' (by show n < 256; omega)]; exact e))
      · omega
    have b1 := hx 10 (by decide) (fun e => c2 (Or.inl e))
    have b2 := hx 13 (by decide) (fun e => c2 (Or.inr e))
    have b3 := hx 92 (by decide) c1
    have b4 : runeL (x :: t) ≠ q.toNat := by
      have := hx q.toNat (by rcases hq with rfl | rfl <;> decide) (by rw [UInt8.ofNat_toNat]; exact fun e => hn (by rw [e]; rfl))
      exact this
    refine loop_go (falls_toq q.toNat) _ ?_
    unfold toqS
    rw [hch, if_neg (by omega), if_neg (by omega), if_neg (by omega)]
    rfl
theorem toq_scan (q : UInt8) (hq : q = 34 ∨ q = 39) : ∀ n l, l.length ≤ n → (Str.scanL q l).2.isSome = true → toq q.toNat l = ((q.toNat : Int), l.drop ((Str.scanL q l).1 + 1))
  | n, l, hl, h => by
    have hq8 : q.toNat < 128 ∧ (q.toNat : Int) ≠ 92 ∧ ¬ ((q.toNat : Int) = -1 ∨ (q.toNat : Int) = -2 ∨ (q.toNat : Int) = 10 ∨ (q.toNat : Int) = 13) := by rcases hq with rfl | rfl <;> decide
    by_cases c1 : l.head? = some q
    · rw [Str.scan_close q l c1]
      match l, c1 with
      | x :: t, c1 =>
        obtain rfl : x = q := by simpa using c1
        obtain ⟨a1, a2, _⟩ := ch_asc x t hq8.1
        refine loop_in _ ?_
        unfold toqS
        rw [a1, a2, if_neg hq8.2.2, if_neg hq8.2.1, if_pos rfl]
        rfl
    · cases hp : (Str.partL l).2 with
      | none => rw [Str.scan_bad q l c1 hp] at h; simp at h
      | some v =>
        have hs := Str.scan_step q l v c1 hp
        have hpos := Str.part_pos l v hp
        have hlt : (l.drop (Str.partL l).1).length < l.length := by rw [List.length_drop]; omega
        rw [hs] at h ⊢
        rw [toq_part q hq l (by rw [hp]; rfl) c1]
        match n, hl with
        | 0, hl => omega
        | n + 1, hl =>
          rw [toq_scan q hq n _ (by omega) (by simpa using h)]
          rw [List.drop_drop]
          rfl
theorem row_more {q : UInt8} (T : List UInt8) : ∀ ps, Str.Row ps [q] → Str.Row ps (q :: T)
  | [], _ => trivial
  | p :: ps, ⟨h1, h2, h3⟩ => ⟨h1, by
      unfold Str.follows at h2 ⊢
      cases hb : Str.bytesP ps with
      | nil => rw [hb] at h2; exact h2
      | cons x t => rw [hb] at h2; exact h2, row_more T ps h3⟩
/-- A LITERAL IS READ TO ITS END. -/
theorem lit_ok (l : List UInt8) (h : Str.codeL (Str.litL l) = 0) : ∃ q u, (q = 34 ∨ q = 39) ∧ l = q :: u ∧ ∀ T, toq q.toNat (u ++ T) = ((q.toNat : Int), T) := by
  have hs : (Str.litL l).2.isSome = true := by
    unfold Str.codeL at h
    by_cases e : (Str.litL l).2.isSome = true
    · exact e
    · rw [if_neg e] at h; omega
  obtain ⟨ps, hps⟩ := Option.isSome_iff_exists.1 hs
  obtain ⟨_, q, hq, rfl, hr, hf⟩ := Str.lit_inv l ps hps
  refine ⟨q, Str.bytesP ps ++ [q], hq.symm, rfl, fun T => ?_⟩
  have hsc := Str.row_scan q T ps (row_more T ps hr) hf
  have := toq_scan q hq.symm _ (Str.bytesP ps ++ q :: T) (Nat.le_refl _) (by rw [hsc]; rfl)
  rw [hsc] at this
  rw [List.append_assoc, List.singleton_append, this]
  simp
theorem litP_ok (l T : List UInt8) (h : Str.codeL (Str.litL l) = 0) : litP (l ++ T) = (4, 0, T) ∧ (chL (l ++ T) = 34 ∨ chL (l ++ T) = 39) := by
  obtain ⟨q, u, hq, rfl, hT⟩ := lit_ok l h
  have hq8 : q.toNat < 128 := by rcases hq with rfl | rfl <;> decide
  obtain ⟨a1, a2, _⟩ := ch_asc q (u ++ T) hq8
  rw [List.cons_append]
  have hR : litR (q :: (u ++ T)) = ((q.toNat : Int), T) := by rw [litR, a1, a2]; exact hT T
  refine ⟨?_, ?_⟩
  · rw [litP, hR]
    simp only
    rw [show q :: (u ++ T) = (q :: u) ++ T from rfl, upTo_app, if_pos h]
  · rw [a1]; rcases hq with rfl | rfl <;> simp

end Lex
end Go.Proofs.YtggibhlmnfodaaaDoor
