/-
  What is read is left shorter: no program is named here.
-/
import Derived.Test.YtjoohpdohdehgaaGreatDoorRegNum
namespace Go.Proofs.YtjoohpdohdehgaaGreatDoor
namespace Reg
open Go.RowKit
open Str (lenL runeL hexV)

theorem chr_len {p : Int → Bool} {l : List UInt8} {r : Nat × List UInt8} (h : chrP p l = .ok r) : r.2.length < l.length := by
  obtain ⟨c, hc, hn⟩ := chr_ok h
  have := Str.pos_of_ne hn
  have e := congrArg List.length hc
  rw [List.length_append] at e; omega
theorem tail_len (l : List UInt8) : l.tail.length ≤ l.length := by simp
theorem tail_lt {l : List UInt8} {c : Int} (h : hd l = c) (hc : 0 ≤ c) : l.tail.length < l.length := by
  obtain ⟨x, t, rfl, _⟩ := hd_cons h hc
  simp
theorem tak_len (c : Int) (l : List UInt8) : (tak c l).length ≤ l.length := (tak_suf c l).length_le
theorem exp_len {c : Int} {l m : List UInt8} (hc : 0 ≤ c) (h : expP c l = .ok m) : m.length < l.length := by
  unfold expP at h
  by_cases e : hd l = c
  · rw [if_pos e] at h; cases h; exact tail_lt e hc
  · rw [if_neg e] at h; cases h
theorem till_len {p : Int → Bool} {c : Int} : ∀ (n : Nat) (l m : List UInt8), tillP p c n l = .ok m → m.length ≤ l.length
  | 0, _, _, h => by cases h
  | n + 1, l, m, h => by
    rw [tillP] at h
    by_cases e : hd l = c
    · rw [if_pos e] at h; cases h; exact Nat.le_refl _
    · rw [if_neg e] at h
      cases hc : chrP p l with
      | error x => rw [hc] at h; cases h
      | ok r =>
        rw [hc] at h
        have h1 := chr_len hc
        have h2 := till_len n _ _ h
        omega
theorem num_len {l : List UInt8} {r : List UInt8 × List UInt8} (h : numP l = .ok r) : r.2.length < l.length := by
  unfold numP at h
  by_cases e : digB (hd l) = true
  · rw [if_pos e] at h; cases h
    obtain ⟨x, t, rfl, hx⟩ := dig_head e
    have : digsL (x :: t) = x :: digsL t := by unfold digsL; rw [List.takeWhile_cons_of_pos (p := fun x : UInt8 => digB x.toNat) hx]
    rw [this]
    simp only [List.length_cons, List.drop_succ_cons, List.length_drop]; omega
  · rw [if_neg e] at h; cases h
theorem name_len {l : List UInt8} {r : List UInt8 × List UInt8} (h : nameP l = .ok r) : r.2.length < l.length := by
  unfold nameP at h
  cases hc : chrP Uni.startB l with
  | error x => rw [hc] at h; cases h
  | ok q =>
    rw [hc] at h
    have h1 := chr_len hc
    cases ht : tillP Uni.partB 62 (q.2.length + 1) q.2 with
    | error x => simp only [ht] at h; cases h
    | ok m =>
      simp only [ht] at h
      cases h
      have h2 := till_len _ _ _ ht
      have := tail_len m
      show m.tail.length < l.length
      omega
theorem hex_len : ∀ (n v : Nat) (l : List UInt8) (r : Nat × List UInt8), hexP n v l = .ok r → r.2.length ≤ l.length
  | 0, _, _, _, h => by cases h; exact Nat.le_refl _
  | n + 1, v, l, r, h => by
    rw [hexP] at h
    cases hc : chrP hexB l with
    | error x => rw [hc] at h; cases h
    | ok q =>
      rw [hc] at h
      have h1 := chr_len hc
      have h2 := hex_len n _ _ _ h
      omega
theorem bra_len {l : List UInt8} {r : Nat × List UInt8} (h : braP l = .ok r) : r.2.length ≤ l.length := by
  unfold braP at h
  split at h
  · cases h
  · cases he : expP 125 (l.drop (hexsL l).length) with
    | error x => rw [he] at h; cases h
    | ok m =>
      rw [he] at h; cases h
      have h1 := exp_len (by decide) he
      rw [List.length_drop] at h1
      show m.length ≤ l.length
      omega
theorem prop_len {l m : List UInt8} (h : propP l = .ok m) : m.length ≤ l.length := by
  unfold propP at h
  cases he : expP 123 l with
  | error x => rw [he] at h; cases h
  | ok k =>
    rw [he] at h
    have h1 := exp_len (by decide) he
    cases ht : tillP anyP 125 (k.length + 1) k with
    | error x => simp only [ht] at h; cases h
    | ok r =>
      simp only [ht] at h
      have h2 := till_len _ _ _ ht
      split at h
      · cases h
        have := tail_len r
        omega
      · cases h
theorem escQ_len {u : Bool} {k : List UInt8} {c : Nat} {l : List UInt8} {r : Int × List UInt8} (h : escQ u k c l = .ok r) : r.2.length ≤ l.length := by
  unfold escQ at h
  by_cases e0 : c = 100 ∨ c = 68 ∨ c = 115 ∨ c = 83 ∨ c = 119 ∨ c = 87
  · rw [if_pos e0] at h; cases h; exact Nat.le_refl _
  rw [if_neg e0] at h
  by_cases e1 : c = 102
  · rw [if_pos e1] at h; cases h; exact Nat.le_refl _
  rw [if_neg e1] at h
  by_cases e2 : c = 110
  · rw [if_pos e2] at h; cases h; exact Nat.le_refl _
  rw [if_neg e2] at h
  by_cases e3 : c = 114
  · rw [if_pos e3] at h; cases h; exact Nat.le_refl _
  rw [if_neg e3] at h
  by_cases e4 : c = 116
  · rw [if_pos e4] at h; cases h; exact Nat.le_refl _
  rw [if_neg e4] at h
  by_cases e5 : c = 118
  · rw [if_pos e5] at h; cases h; exact Nat.le_refl _
  rw [if_neg e5] at h
  by_cases e6 : c = 99
  · rw [if_pos e6] at h
    cases hc : chrP letB l with
    | error x => rw [hc] at h; cases h
    | ok q => rw [hc] at h; cases h; have := chr_len hc; show q.2.length ≤ l.length; omega
  rw [if_neg e6] at h
  by_cases e7 : c = 48
  · rw [if_pos e7] at h
    split at h
    · cases h
    · cases h; exact Nat.le_refl _
  rw [if_neg e7] at h
  by_cases e8 : c = 120
  · rw [if_pos e8] at h
    cases hc : hexP 2 0 l with
    | error x => rw [hc] at h; cases h
    | ok q => rw [hc] at h; cases h; exact hex_len _ _ _ _ hc
  rw [if_neg e8] at h
  by_cases e9 : c = 117
  · rw [if_pos e9] at h
    by_cases hb : u = true ∧ hd l = 123
    · rw [if_pos hb] at h
      cases hc : braP l.tail with
      | error x => rw [hc] at h; cases h
      | ok q => rw [hc] at h; cases h; have := bra_len hc; have := tail_len l; show q.2.length ≤ l.length; omega
    · rw [if_neg hb] at h
      cases hc : hexP 4 0 l with
      | error x => rw [hc] at h; cases h
      | ok q => rw [hc] at h; cases h; exact hex_len _ _ _ _ hc
  rw [if_neg e9] at h
  by_cases e10 : u = true ∧ (c = 112 ∨ c = 80)
  · rw [if_pos e10] at h
    cases hc : propP l with
    | error x => rw [hc] at h; cases h
    | ok q => rw [hc] at h; cases h; exact prop_len hc
  rw [if_neg e10] at h
  by_cases e11 : escapB u c = true
  · rw [if_pos e11] at h
    cases h; exact Nat.le_refl _
  · rw [if_neg e11] at h; cases h
theorem esc_len {u : Bool} {l : List UInt8} {r : Int × List UInt8} (h : escP u l = .ok r) : r.2.length < l.length := by
  unfold escP at h
  cases hc : chrP anyP l with
  | error x => rw [hc] at h; cases h
  | ok q =>
    rw [hc] at h
    have h1 := chr_len hc
    have h2 := escQ_len h
    omega
theorem pe_len {u : Bool} {l : List UInt8} {r : Int × List UInt8} (h : peP u l = .ok r) : r.2.length < l.length := by
  unfold peP at h
  split at h
  · rename_i e; cases h; exact tail_lt e (by decide)
  split at h
  · rename_i e; cases h; exact tail_lt e.2 (by decide)
  · exact esc_len h
theorem pt_len {u : Bool} {l : List UInt8} {r : (Int × Int) × List UInt8} (h : ptP u l = .ok r) : r.2.length < l.length := by
  unfold ptP at h
  split at h
  · rename_i e
    cases hc : peP u l.tail with
    | error x => rw [hc] at h; cases h
    | ok q =>
      rw [hc] at h; cases h
      have h1 := pe_len hc
      have h2 := tail_len l
      show q.2.length < l.length
      omega
  · cases hc : chrP anyP l with
    | error x => rw [hc] at h; cases h
    | ok q => rw [hc] at h; cases h; exact chr_len hc
theorem range_len {u : Bool} : ∀ (n a : Nat) (p : Int × Int) (l m : List UInt8), rangeP u n a p l = .ok m → m.length ≤ l.length
  | 0, _, _, _, _, h => by cases h
  | n + 1, a, p, l, m, h => by
    rw [rangeP] at h
    split at h
    · rename_i e
      cases hc : ptP u l.tail with
      | error x => rw [hc] at h; cases h
      | ok q =>
        rw [hc] at h
        simp only at h
        have h1 := pt_len hc
        have h2 := tail_len l
        split at h
        · cases h
        split at h
        · cases h; omega
        · have h3 := range_len n _ _ _ _ h
          omega
    · cases h; exact Nat.le_refl _
theorem items_len {u : Bool} : ∀ (n : Nat) (l m : List UInt8), itemsP u n l = .ok m → m.length ≤ l.length
  | 0, _, _, h => by cases h
  | n + 1, l, m, h => by
    rw [itemsP] at h
    split at h
    · cases h; exact tail_len l
    · cases hc : ptP u l with
      | error x => rw [hc] at h; cases h
      | ok q =>
        rw [hc] at h
        simp only at h
        have h1 := pt_len hc
        cases hr : rangeP u (q.2.length + 1) l.length q.1 q.2 with
        | error x => rw [hr] at h; cases h
        | ok k =>
          rw [hr] at h
          have h2 := range_len _ _ _ _ _ hr
          have h3 := items_len n _ _ h
          omega
theorem class_len {u : Bool} {l m : List UInt8} (h : classP u l = .ok m) : m.length ≤ l.length := by
  have h1 := items_len _ _ _ h
  have h2 := tak_len 94 l
  omega
theorem rep_len {l m : List UInt8} (h : repP l = .ok m) : m.length ≤ l.length := by
  unfold repP at h
  cases hn : numP l.tail with
  | error x => rw [hn] at h; cases h
  | ok a =>
    rw [hn] at h
    simp only at h
    have h1 := num_len hn
    have h2 := tail_len l
    have h0 := tail_len a.2
    have h3 : ∀ b, (if hd a.2 = 44 ∧ hd a.2.tail ≠ 125 then numP a.2.tail else .ok (a.1, tak 44 a.2)) = .ok b → b.2.length ≤ a.2.length := by
      intro b hb
      split at hb
      · have := num_len hb; omega
      · cases hb; exact tak_len 44 a.2
    cases hb : (if hd a.2 = 44 ∧ hd a.2.tail ≠ 125 then numP a.2.tail else .ok (a.1, tak 44 a.2)) with
    | error x => rw [hb] at h; cases h
    | ok b =>
      rw [hb] at h
      simp only at h
      have h4 := h3 b hb
      cases he : expP 125 b.2 with
      | error x => rw [he] at h; cases h
      | ok k =>
        rw [he] at h
        simp only at h
        have h5 := exp_len (by decide) he
        split at h
        · cases h
        · cases h; omega
theorem quan_len {l m : List UInt8} (h : quanP l = .ok m) : m.length ≤ l.length := by
  unfold quanP at h
  split at h
  · cases h
    have h1 := tak_len 63 l.tail
    have h2 := tail_len l
    omega
  split at h
  · cases hr : repP l with
    | error x => rw [hr] at h; cases h
    | ok k =>
      rw [hr] at h; cases h
      have h1 := rep_len hr
      have h2 := tak_len 63 k
      omega
  · cases h; exact Nat.le_refl _

end Reg
end Go.Proofs.YtjoohpdohdehgaaGreatDoor
