/-
  What is read of a text is read of a longer one, where a bar or a closing bracket stands behind it.
-/
import Derived.Test.YtjoohpdohdehgaaGreatDoorRegRead
namespace Go.Proofs.YtjoohpdohdehgaaGreatDoor
namespace Reg
open Str (lenL runeL hexV)

/-- Nothing, a closing bracket or a bar. -/
def Stop (T : List UInt8) : Prop := hd T = -1 ∨ hd T = 41 ∨ hd T = 124

/-- What l comes to, and what it comes to with T behind it. -/
def Loc {α : Type} (T l : List UInt8) (x y : Out α) : Prop := match x with
  | .error e => e.2 ≠ 0
  | .ok r => r.2 <:+ l ∧ y = .ok (r.1, r.2 ++ T)
def LocL (T l : List UInt8) (x y : Except (Nat × Nat) (List UInt8)) : Prop := match x with
  | .error e => e.2 ≠ 0
  | .ok m => m <:+ l ∧ y = .ok (m ++ T)

theorem hd_ne {l : List UInt8} (h : l ≠ []) (T : List UInt8) : hd (l ++ T) = hd l := by
  cases l with
  | nil => exact absurd rfl h
  | cons x l => rfl
theorem tail_ne {l : List UInt8} (h : l ≠ []) (T : List UInt8) : (l ++ T).tail = l.tail ++ T := by
  cases l with
  | nil => exact absurd rfl h
  | cons x l => rfl
theorem ne_of_hd {l : List UInt8} {c : Int} (h : hd l = c) (hc : 0 ≤ c) : l ≠ [] := by
  rintro rfl
  have : hd [] = -1 := rfl
  omega
section
variable {T : List UInt8} (hT : Stop T)
include hT
theorem hd_q (l : List UInt8) (p : Int → Prop) (h1 : ¬ p (-1)) (h2 : ¬ p 41) (h3 : ¬ p 124) : p (hd (l ++ T)) ↔ p (hd l) := by
  by_cases e : l = []
  · subst e
    rw [List.nil_append]
    show _ ↔ p (-1)
    rcases hT with h | h | h <;> rw [h] <;> simp_all
  · rw [hd_ne e]
theorem hd_is (c : Int) (hc : c ≠ -1 ∧ c ≠ 41 ∧ c ≠ 124) (l : List UInt8) : hd (l ++ T) = c ↔ hd l = c :=
  hd_q hT l (fun x => x = c) (fun h => hc.1 h.symm) (fun h => hc.2.1 h.symm) (fun h => hc.2.2 h.symm)
theorem dig_app (l : List UInt8) : digB (hd (l ++ T)) = digB (hd l) := by
  rw [Bool.eq_iff_iff]
  exact hd_q hT l (fun x => digB x = true) (by decide) (by decide) (by decide)
theorem hex_app (l : List UInt8) : hexB (hd (l ++ T)) = hexB (hd l) := by
  rw [Bool.eq_iff_iff]
  exact hd_q hT l (fun x => hexB x = true) (by decide) (by decide) (by decide)
theorem while_app (p : Int → Bool) (h2 : p 41 = false) (h3 : p 124 = false) : ∀ l : List UInt8, (l ++ T).takeWhile (fun x => p x.toNat) = l.takeWhile (fun x => p x.toNat)
  | [] => by
    cases T with
    | nil => rfl
    | cons x t =>
      have e : p (x.toNat : Int) = false := by
        rcases hT with h | h | h
        · exact absurd h (by show ¬ (x.toNat : Int) = -1; omega)
        · rw [show (x.toNat : Int) = 41 from h]; exact h2
        · rw [show (x.toNat : Int) = 124 from h]; exact h3
      show (x :: t).takeWhile _ = []
      rw [List.takeWhile_cons, if_neg (by rw [e]; decide)]
  | x :: l => by
    rw [List.cons_append, List.takeWhile_cons, List.takeWhile_cons, while_app p h2 h3 l]
end

theorem while_le (p : UInt8 → Bool) (l : List UInt8) : (l.takeWhile p).length ≤ l.length := (List.takeWhile_sublist _).length_le
theorem drop_app {l T : List UInt8} {k : Nat} (h : k ≤ l.length) : (l ++ T).drop k = l.drop k ++ T := List.drop_append_of_le_length h
theorem tak_app {T : List UInt8} (hT : Stop T) (c : Int) (hc : c ≠ -1 ∧ c ≠ 41 ∧ c ≠ 124) (h0 : 0 ≤ c) (l : List UInt8) : tak c (l ++ T) = tak c l ++ T := by
  unfold tak
  by_cases e : hd l = c
  · rw [if_pos e, if_pos ((hd_is hT c hc l).2 e), tail_ne (ne_of_hd e h0)]
  · rw [if_neg e, if_neg (fun h => e ((hd_is hT c hc l).1 h))]

theorem chr_loc (T : List UInt8) (p : Int → Bool) (l : List UInt8) : Loc T l (chrP p l) (chrP p (l ++ T)) := by
  unfold chrP
  by_cases h : lenL l = 0 ∨ Uni.endsB (runeL l) = true ∨ p (runeL l) = false
  · rw [if_pos h]; exact (by decide : (400 : Nat) ≠ 0)
  · rw [if_neg h]
    have h0 : lenL l ≠ 0 := fun e => h (.inl e)
    have hle := Str.lenL_le l
    have hl : l.take (lenL l) ++ l.drop (lenL l) = l := List.take_append_drop _ _
    have hlen : (l.take (lenL l)).length = lenL l := by rw [List.length_take]; omega
    have hne : l.take (lenL l) ≠ [] := by intro e; rw [e] at hlen; exact h0 hlen.symm
    have hk := Str.lenL_keep (l.take (lenL l)) (l.drop (lenL l)) (l.drop (lenL l) ++ T) (by rw [hl, hlen]) hne
    rw [← List.append_assoc, hl, hlen] at hk
    rw [hk.1, hk.2, if_neg h, drop_app hle]
    exact ⟨List.drop_suffix _ _, rfl⟩
theorem exp_loc (T : List UInt8) {c : Int} (h0 : 0 ≤ c) (l : List UInt8) : LocL T l (expP c l) (expP c (l ++ T)) := by
  unfold expP
  by_cases e : hd l = c
  · have hne := ne_of_hd e h0
    rw [if_pos e, hd_ne hne, if_pos e, tail_ne hne]
    exact ⟨tail_suf l, rfl⟩
  · rw [if_neg e]; exact (by decide : (400 : Nat) ≠ 0)
theorem till_loc {T : List UInt8} (hT : Stop T) (p : Int → Bool) (c : Int) (hc : c ≠ -1 ∧ c ≠ 41 ∧ c ≠ 124) : ∀ (n n' : Nat) (l : List UInt8), n ≤ n' → LocL T l (tillP p c n l) (tillP p c n' (l ++ T))
  | 0, _, _, _ => (by decide : (999 : Nat) ≠ 0)
  | n + 1, n', l, hn => by
    obtain ⟨k, rfl⟩ : ∃ k, n' = k + 1 := ⟨n' - 1, by omega⟩
    rw [tillP, tillP]
    by_cases e : hd l = c
    · rw [if_pos e, if_pos ((hd_is hT c hc l).2 e)]; exact ⟨List.suffix_refl _, rfl⟩
    · rw [if_neg e, if_neg (fun h => e ((hd_is hT c hc l).1 h))]
      have h1 := chr_loc T p l
      cases hx : chrP p l with
      | error x => rw [hx] at h1; exact h1
      | ok r =>
        rw [hx] at h1
        rw [h1.2]
        have h2 := till_loc hT p c hc n k r.2 (by omega)
        show LocL T l (tillP p c n r.2) (tillP p c k (r.2 ++ T))
        cases hy : tillP p c n r.2 with
        | error x => rw [hy] at h2; exact h2
        | ok m => rw [hy] at h2; exact ⟨h2.1.trans h1.1, h2.2⟩
theorem num_loc {T : List UInt8} (hT : Stop T) (l : List UInt8) : Loc T l (numP l) (numP (l ++ T)) := by
  unfold numP
  rw [dig_app hT l]
  by_cases e : digB (hd l) = true
  · rw [if_pos e, if_pos e]
    have h1 : digsL (l ++ T) = digsL l := while_app hT digB (by decide) (by decide) l
    rw [h1, drop_app (show (digsL l).length ≤ l.length from while_le _ l)]
    exact ⟨List.drop_suffix _ _, rfl⟩
  · rw [if_neg e]; exact (by decide : (400 : Nat) ≠ 0)
theorem hex_loc (T : List UInt8) : ∀ (n v : Nat) (l : List UInt8), Loc T l (hexP n v l) (hexP n v (l ++ T))
  | 0, _, _ => ⟨List.suffix_refl _, rfl⟩
  | n + 1, v, l => by
    rw [hexP, hexP]
    have h1 := chr_loc T hexB l
    cases hx : chrP hexB l with
    | error x => rw [hx] at h1; exact h1
    | ok r =>
      rw [hx] at h1
      rw [h1.2]
      have h2 := hex_loc T n (v * 16 + (hexV r.1).toNat) r.2
      show Loc T l (hexP n (v * 16 + (hexV r.1).toNat) r.2) (hexP n (v * 16 + (hexV r.1).toNat) (r.2 ++ T))
      cases hy : hexP n (v * 16 + (hexV r.1).toNat) r.2 with
      | error x => rw [hy] at h2; exact h2
      | ok m => rw [hy] at h2; exact ⟨h2.1.trans h1.1, h2.2⟩
theorem bra_loc {T : List UInt8} (hT : Stop T) (l : List UInt8) : Loc T l (braP l) (braP (l ++ T)) := by
  unfold braP
  have e1 : hexsL (l ++ T) = hexsL l := while_app hT hexB (by decide) (by decide) l
  rw [hex_app hT, e1, drop_app (show (hexsL l).length ≤ l.length from while_le _ l)]
  by_cases e : hexB (hd l) = false ∨ 1114111 < valL 0 (hexsL l)
  · rw [if_pos e]; exact (by decide : (400 : Nat) ≠ 0)
  · rw [if_neg e, if_neg e]
    have h1 := exp_loc T (c := 125) (by decide) (l.drop (hexsL l).length)
    cases hx : expP 125 (l.drop (hexsL l).length) with
    | error x => rw [hx] at h1; exact h1
    | ok m =>
      rw [hx] at h1
      rw [h1.2]
      exact ⟨h1.1.trans (List.drop_suffix _ _), rfl⟩
theorem till_end {p : Int → Bool} {c : Int} : ∀ (n : Nat) (l m : List UInt8), tillP p c n l = .ok m → hd m = c
  | 0, _, _, h => by cases h
  | n + 1, l, m, h => by
    rw [tillP] at h
    by_cases e : hd l = c
    · rw [if_pos e] at h; cases h; exact e
    · rw [if_neg e] at h
      cases hx : chrP p l with
      | error x => rw [hx] at h; cases h
      | ok r => rw [hx] at h; exact till_end n _ _ h
theorem suf_len {m l : List UInt8} (h : m <:+ l) : m.length ≤ l.length := h.length_le
theorem prop_loc {T : List UInt8} (hT : Stop T) (l : List UInt8) : LocL T l (propP l) (propP (l ++ T)) := by
  unfold propP
  have h1 := exp_loc T (c := 123) (by decide) l
  cases hx : expP 123 l with
  | error x => rw [hx] at h1; exact h1
  | ok m =>
    rw [hx] at h1
    rw [h1.2]
    simp only
    have h2 := till_loc hT anyP 125 (by decide) (m.length + 1) ((m ++ T).length + 1) m (by rw [List.length_append]; omega)
    cases hy : tillP anyP 125 (m.length + 1) m with
    | error x => rw [hy] at h2; exact h2
    | ok r =>
      rw [hy] at h2
      rw [h2.2]
      simp only
      have hl := suf_len h2.1
      have e : (m ++ T).take ((m ++ T).length - (r ++ T).length) = m.take (m.length - r.length) := by
        rw [List.length_append, List.length_append, show m.length + T.length - (r.length + T.length) = m.length - r.length from by omega, List.take_append_of_le_length (by omega)]
      rw [e]
      by_cases k : knownB (m.take (m.length - r.length)) = true
      · rw [if_pos k, if_pos k]
        have hr : hd r = 125 := till_end _ _ _ hy
        rw [tail_ne (ne_of_hd hr (by decide))]
        exact ⟨(tail_suf r).trans (h2.1.trans h1.1), rfl⟩
      · rw [if_neg k]; exact (by decide : (404 : Nat) ≠ 0)

theorem escQ_loc {T : List UInt8} (hT : Stop T) (u : Bool) (k k' : List UInt8) (c : Nat) (l : List UInt8) : Loc T l (escQ u k c l) (escQ u k' c (l ++ T)) := by
  unfold escQ
  have e4 : (400 : Nat) ≠ 0 := by decide
  have ok : ∀ v : Int, Loc T l (.ok (v, l)) (.ok (v, l ++ T)) := fun v => ⟨List.suffix_refl _, rfl⟩
  by_cases c1 : c = 100 ∨ c = 68 ∨ c = 115 ∨ c = 83 ∨ c = 119 ∨ c = 87
  · rw [if_pos c1, if_pos c1]; exact ok _
  rw [if_neg c1, if_neg c1]
  by_cases c2 : c = 102
  · rw [if_pos c2, if_pos c2]; exact ok _
  rw [if_neg c2, if_neg c2]
  by_cases c3 : c = 110
  · rw [if_pos c3, if_pos c3]; exact ok _
  rw [if_neg c3, if_neg c3]
  by_cases c4 : c = 114
  · rw [if_pos c4, if_pos c4]; exact ok _
  rw [if_neg c4, if_neg c4]
  by_cases c5 : c = 116
  · rw [if_pos c5, if_pos c5]; exact ok _
  rw [if_neg c5, if_neg c5]
  by_cases c6 : c = 118
  · rw [if_pos c6, if_pos c6]; exact ok _
  rw [if_neg c6, if_neg c6]
  by_cases c7 : c = 99
  · rw [if_pos c7, if_pos c7]
    have h1 := chr_loc T letB l
    cases hx : chrP letB l with
    | error x => rw [hx] at h1; exact h1
    | ok r => rw [hx] at h1; rw [h1.2]; exact ⟨h1.1, rfl⟩
  rw [if_neg c7, if_neg c7]
  by_cases c8 : c = 48
  · rw [if_pos c8, if_pos c8, dig_app hT]
    by_cases d : digB (hd l) = true
    · rw [if_pos d]; exact e4
    · rw [if_neg d, if_neg d]; exact ok _
  rw [if_neg c8, if_neg c8]
  by_cases c9 : c = 120
  · rw [if_pos c9, if_pos c9]
    have h1 := hex_loc T 2 0 l
    cases hx : hexP 2 0 l with
    | error x => rw [hx] at h1; exact h1
    | ok r => rw [hx] at h1; rw [h1.2]; exact ⟨h1.1, rfl⟩
  rw [if_neg c9, if_neg c9]
  by_cases c10 : c = 117
  · rw [if_pos c10, if_pos c10]
    by_cases d : u = true ∧ hd l = 123
    · have d' : u = true ∧ hd (l ++ T) = 123 := ⟨d.1, (hd_is hT 123 (by decide) l).2 d.2⟩
      rw [if_pos d, if_pos d', tail_ne (ne_of_hd d.2 (by decide))]
      have h1 := bra_loc hT l.tail
      cases hx : braP l.tail with
      | error x => rw [hx] at h1; exact h1
      | ok r => rw [hx] at h1; rw [h1.2]; exact ⟨h1.1.trans (tail_suf l), rfl⟩
    · have d' : ¬ (u = true ∧ hd (l ++ T) = 123) := fun h => d ⟨h.1, (hd_is hT 123 (by decide) l).1 h.2⟩
      rw [if_neg d, if_neg d']
      have h1 := hex_loc T 4 0 l
      cases hx : hexP 4 0 l with
      | error x => rw [hx] at h1; exact h1
      | ok r => rw [hx] at h1; rw [h1.2]; exact ⟨h1.1, rfl⟩
  rw [if_neg c10, if_neg c10]
  by_cases c11 : u = true ∧ (c = 112 ∨ c = 80)
  · rw [if_pos c11, if_pos c11]
    have h1 := prop_loc hT l
    cases hx : propP l with
    | error x => rw [hx] at h1; exact h1
    | ok r => rw [hx] at h1; rw [h1.2]; exact ⟨h1.1, rfl⟩
  rw [if_neg c11, if_neg c11]
  by_cases c12 : escapB u c = true
  · rw [if_pos c12, if_pos c12]; exact ok _
  · rw [if_neg c12]; exact e4
theorem Loc.up {α : Type} {T l m : List UInt8} {x y : Out α} (h : Loc T m x y) (hm : m <:+ l) : Loc T l x y := by
  cases x with
  | error e => exact h
  | ok r => exact ⟨h.1.trans hm, h.2⟩
theorem LocL.up {T l m : List UInt8} {x y : Except (Nat × Nat) (List UInt8)} (h : LocL T m x y) (hm : m <:+ l) : LocL T l x y := by
  cases x with
  | error e => exact h
  | ok r => exact ⟨h.1.trans hm, h.2⟩
theorem esc_loc {T : List UInt8} (hT : Stop T) (u : Bool) (l : List UInt8) : Loc T l (escP u l) (escP u (l ++ T)) := by
  unfold escP
  have h1 := chr_loc T anyP l
  cases hx : chrP anyP l with
  | error x => rw [hx] at h1; exact h1
  | ok r =>
    rw [hx] at h1; rw [h1.2]
    exact (escQ_loc hT u l (l ++ T) r.1 r.2).up h1.1
theorem pe_loc {T : List UInt8} (hT : Stop T) (u : Bool) (l : List UInt8) : Loc T l (peP u l) (peP u (l ++ T)) := by
  unfold peP
  by_cases c1 : hd l = 98
  · rw [if_pos c1, if_pos ((hd_is hT 98 (by decide) l).2 c1), tail_ne (ne_of_hd c1 (by decide))]; exact ⟨tail_suf l, rfl⟩
  rw [if_neg c1, if_neg (fun h => c1 ((hd_is hT 98 (by decide) l).1 h))]
  by_cases c2 : u = true ∧ hd l = 45
  · rw [if_pos c2, if_pos ⟨c2.1, (hd_is hT 45 (by decide) l).2 c2.2⟩, tail_ne (ne_of_hd c2.2 (by decide))]; exact ⟨tail_suf l, rfl⟩
  rw [if_neg c2, if_neg (fun h => c2 ⟨h.1, (hd_is hT 45 (by decide) l).1 h.2⟩)]
  exact esc_loc hT u l
theorem pt_loc {T : List UInt8} (hT : Stop T) (u : Bool) (l : List UInt8) : Loc T l (ptP u l) (ptP u (l ++ T)) := by
  unfold ptP
  by_cases c1 : hd l = 92
  · rw [if_pos c1, if_pos ((hd_is hT 92 (by decide) l).2 c1), tail_ne (ne_of_hd c1 (by decide))]
    have h1 := pe_loc hT u l.tail
    cases hx : peP u l.tail with
    | error x => rw [hx] at h1; exact h1
    | ok r => rw [hx] at h1; rw [h1.2]; exact ⟨h1.1.trans (tail_suf l), rfl⟩
  · rw [if_neg c1, if_neg (fun h => c1 ((hd_is hT 92 (by decide) l).1 h))]
    have h1 := chr_loc T anyP l
    cases hx : chrP anyP l with
    | error x => rw [hx] at h1; exact h1
    | ok r => rw [hx] at h1; rw [h1.2]; exact ⟨h1.1, rfl⟩
theorem pt_nil (u : Bool) : ∃ e, ptP u [] = .error e ∧ e.2 ≠ 0 := ⟨(0, 400), rfl, by decide⟩
theorem range_loc {T : List UInt8} (hT : Stop T) (u : Bool) : ∀ (n n' a a' : Nat) (p : Int × Int) (l : List UInt8), n ≤ n' → LocL T l (rangeP u n a p l) (rangeP u n' a' p (l ++ T))
  | 0, _, _, _, _, _, _ => (by decide : (999 : Nat) ≠ 0)
  | n + 1, n', a, a', p, l, hn => by
    obtain ⟨k, rfl⟩ : ∃ k, n' = k + 1 := ⟨n' - 1, by omega⟩
    rw [rangeP, rangeP]
    by_cases c1 : hd l = 45 ∧ hd l.tail ≠ 93
    · have hne := ne_of_hd c1.1 (by decide)
      rw [if_pos c1]
      by_cases ht : l.tail = []
      · obtain ⟨e, he, h0⟩ := pt_nil u
        rw [ht, he]; exact h0
      · rw [if_pos (by rw [hd_ne hne, tail_ne hne, hd_ne ht]; exact c1), tail_ne hne]
        have h1 := pt_loc hT u l.tail
        cases hx : ptP u l.tail with
        | error x => rw [hx] at h1; exact h1
        | ok r =>
          rw [hx] at h1; rw [h1.2]
          simp only
          by_cases c2 : p.2 = -1 ∨ r.1.1 = -1 ∨ r.1.1 < p.2
          · rw [if_pos c2]; exact (by decide : (403 : Nat) ≠ 0)
          rw [if_neg c2, if_neg c2]
          by_cases c3 : r.1.1 = r.1.2
          · rw [if_pos c3, if_pos c3]; exact ⟨h1.1.trans (tail_suf l), rfl⟩
          · rw [if_neg c3, if_neg c3]
            exact (range_loc hT u n k _ _ r.1 r.2 (by omega)).up (h1.1.trans (tail_suf l))
    · rw [if_neg c1]
      have c1' : ¬ (hd (l ++ T) = 45 ∧ hd (l ++ T).tail ≠ 93) := by
        rintro ⟨h1, h2⟩
        have h3 := (hd_is hT 45 (by decide) l).1 h1
        rw [tail_ne (ne_of_hd h3 (by decide))] at h2
        exact c1 ⟨h3, fun h => h2 ((hd_is hT 93 (by decide) l.tail).2 h)⟩
      rw [if_neg c1']; exact ⟨List.suffix_refl _, rfl⟩
theorem items_loc {T : List UInt8} (hT : Stop T) (u : Bool) : ∀ (n n' : Nat) (l : List UInt8), n ≤ n' → LocL T l (itemsP u n l) (itemsP u n' (l ++ T))
  | 0, _, _, _ => (by decide : (999 : Nat) ≠ 0)
  | n + 1, n', l, hn => by
    obtain ⟨k, rfl⟩ : ∃ k, n' = k + 1 := ⟨n' - 1, by omega⟩
    rw [itemsP, itemsP]
    by_cases c1 : hd l = 93
    · rw [if_pos c1, if_pos ((hd_is hT 93 (by decide) l).2 c1), tail_ne (ne_of_hd c1 (by decide))]; exact ⟨tail_suf l, rfl⟩
    rw [if_neg c1, if_neg (fun h => c1 ((hd_is hT 93 (by decide) l).1 h))]
    have h1 := pt_loc hT u l
    cases hx : ptP u l with
    | error x => rw [hx] at h1; exact h1
    | ok r =>
      rw [hx] at h1; rw [h1.2]
      simp only
      have h2 := range_loc hT u (r.2.length + 1) ((r.2 ++ T).length + 1) l.length (l ++ T).length r.1 r.2 (by rw [List.length_append]; omega)
      cases hy : rangeP u (r.2.length + 1) l.length r.1 r.2 with
      | error x => rw [hy] at h2; exact h2
      | ok m =>
        rw [hy] at h2; rw [h2.2]
        exact (items_loc hT u n k m (by omega)).up (h2.1.trans h1.1)
theorem class_loc {T : List UInt8} (hT : Stop T) (u : Bool) (l : List UInt8) : LocL T l (classP u l) (classP u (l ++ T)) := by
  unfold classP
  rw [tak_app hT 94 (by decide) (by decide)]
  exact (items_loc hT u _ _ (tak 94 l) (by rw [List.length_append]; omega)).up (tak_suf 94 l)
theorem num_ne {l : List UInt8} {r : List UInt8 × List UInt8} (h : numP l = .ok r) : l ≠ [] := by
  rintro rfl
  cases h
theorem exp_ne {c : Int} (hc : 0 ≤ c) {l m : List UInt8} (h : expP c l = .ok m) : l ≠ [] := by
  rintro rfl
  unfold expP at h
  rw [if_neg (by show ¬ (-1 : Int) = c; omega)] at h
  cases h
theorem rep_loc {T : List UInt8} (hT : Stop T) {l : List UInt8} (hl : l ≠ []) : LocL T l (repP l) (repP (l ++ T)) := by
  unfold repP
  rw [tail_ne hl]
  have h1 := num_loc hT l.tail
  cases hx : numP l.tail with
  | error x => rw [hx] at h1; exact h1
  | ok r =>
    rw [hx] at h1; rw [h1.2]
    simp only
    have hs := h1.1.trans (tail_suf l)
    have hend : ∀ (b : List UInt8 × List UInt8) (y : Out (List UInt8)), b.2 <:+ l → y = .ok (b.1, b.2 ++ T) → LocL T l (match expP 125 b.2 with
        | .error e => .error e
        | .ok m => if lessB b.1 r.1 = true then .error (l.length, 403) else .ok m) (match y with
        | .error e => .error e
        | .ok b => match expP 125 b.2 with
          | .error e => .error e
          | .ok m => if lessB b.1 r.1 = true then .error ((l ++ T).length, 403) else .ok m) := by
      intro b y hb hy
      rw [hy]
      have h3 := exp_loc T (c := 125) (by decide) b.2
      cases hz : expP 125 b.2 with
      | error x => rw [hz] at h3; exact h3
      | ok m =>
        rw [hz] at h3
        show LocL T l (if lessB b.1 r.1 = true then .error (l.length, 403) else .ok m) (match expP 125 (b.2 ++ T) with
          | .error e => .error e
          | .ok m => if lessB b.1 r.1 = true then .error ((l ++ T).length, 403) else .ok m)
        rw [h3.2]
        simp only
        by_cases c : lessB b.1 r.1 = true
        · rw [if_pos c]; exact (by decide : (403 : Nat) ≠ 0)
        · rw [if_neg c, if_neg c]; exact ⟨h3.1.trans hb, rfl⟩
    by_cases c1 : hd r.2 = 44 ∧ hd r.2.tail ≠ 125
    · have hne := ne_of_hd c1.1 (by decide)
      rw [if_pos c1]
      by_cases ht : r.2.tail = []
      · rw [ht]; exact (by decide : (400 : Nat) ≠ 0)
      · rw [if_pos (by rw [hd_ne hne, tail_ne hne, hd_ne ht]; exact c1), tail_ne hne]
        have h2 := num_loc hT r.2.tail
        cases hy : numP r.2.tail with
        | error x => rw [hy] at h2; exact h2
        | ok b =>
          rw [hy] at h2
          exact hend b _ (h2.1.trans ((tail_suf _).trans hs)) h2.2
    · rw [if_neg c1]
      by_cases hr : r.2 = []
      · rw [hr]; exact (by decide : (400 : Nat) ≠ 0)
      · have c1' : ¬ (hd (r.2 ++ T) = 44 ∧ hd (r.2 ++ T).tail ≠ 125) := by
          rintro ⟨h4, h5⟩
          rw [hd_ne hr] at h4
          rw [tail_ne hr] at h5
          exact c1 ⟨h4, fun h => h5 ((hd_is hT 125 (by decide) r.2.tail).2 h)⟩
        rw [if_neg c1', tak_app hT 44 (by decide) (by decide)]
        exact hend (r.1, tak 44 r.2) _ ((tak_suf _ _).trans hs) rfl
theorem quan_loc {T : List UInt8} (hT : Stop T) (l : List UInt8) : LocL T l (quanP l) (quanP (l ++ T)) := by
  unfold quanP
  by_cases c1 : hd l = 42 ∨ hd l = 43 ∨ hd l = 63
  · have hne : l ≠ [] := by rcases c1 with h | h | h <;> exact ne_of_hd h (by decide)
    rw [if_pos c1, hd_ne hne, if_pos c1, tail_ne hne, tak_app hT 63 (by decide) (by decide)]
    exact ⟨(tak_suf _ _).trans (tail_suf _), rfl⟩
  rw [if_neg c1, if_neg (fun h => c1 ((hd_q hT l (fun x => x = 42 ∨ x = 43 ∨ x = 63) (by decide) (by decide) (by decide)).1 h))]
  by_cases c2 : hd l = 123
  · have hne := ne_of_hd c2 (by decide)
    rw [if_pos c2, hd_ne hne, if_pos c2]
    have h1 := rep_loc hT hne
    cases hx : repP l with
    | error x => rw [hx] at h1; exact h1
    | ok m =>
      rw [hx] at h1; rw [h1.2]
      simp only
      rw [tak_app hT 63 (by decide) (by decide)]
      exact ⟨(tak_suf _ _).trans h1.1, rfl⟩
  · rw [if_neg c2, if_neg (fun h => c2 ((hd_is hT 123 (by decide) l).1 h))]
    exact ⟨List.suffix_refl _, rfl⟩

end Reg
end Go.Proofs.YtjoohpdohdehgaaGreatDoor
