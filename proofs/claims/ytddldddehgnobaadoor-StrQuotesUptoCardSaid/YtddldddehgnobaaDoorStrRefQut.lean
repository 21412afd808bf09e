/-
  The document's own Quote: what its count and its parts say.
-/
import Derived.Test.YtddldddehgnobaaDoorStrLawB
namespace Go.Proofs.YtddldddehgnobaaDoor
namespace Str
open Go.RowKit

theorem one_table : ∀ n : Nat, n < 256 → n ≠ 39 → n ≠ 34 → (match (partL [UInt8.ofNat n]).2 with | none => true | some v => !(uOf v == [39]) && !(uOf v == [34])) = true := by decide +kernel
theorem one_units (x : UInt8) (h1 : x ≠ 39) (h2 : x ≠ 34) (v : Int) (h : (partL [x]).2 = some v) : uOf v ≠ [39] ∧ uOf v ≠ [34] := by
  have h3 := one_table x.toNat x.toNat_lt (fun e => h1 (UInt8.toNat_inj.1 e)) (fun e => h2 (UInt8.toNat_inj.1 e))
  rw [UInt8.ofNat_toNat, h] at h3
  simpa using h3
/-- A part, as the count sees it. -/
theorem facts_39 (p : Piece) (h : partL p.1 = (p.1.length, some p.2)) (ch : Int) (hq : ch = 39 ↔ p.1 = [92, 39]) (ho : ch = 34 ↔ p.1 = [92, 34]) :
    (p.1.length = 1 ∧ uOf p.2 = [39] ∧ ch ≠ 39 ∧ ch ≠ 34 ∧ oneIf 39 p.1 = 1 ∧ oneIf 34 p.1 = 0) ∨
    (p.1.length = 1 ∧ uOf p.2 = [34] ∧ ch ≠ 39 ∧ ch ≠ 34 ∧ oneIf 39 p.1 = 0 ∧ oneIf 34 p.1 = 1) ∨
    (p.1.length ≠ 1 ∧ ch = 39 ∧ oneIf 39 p.1 = 1 ∧ oneIf 34 p.1 = 0) ∨
    (p.1.length ≠ 1 ∧ ch = 34 ∧ oneIf 39 p.1 = 0 ∧ oneIf 34 p.1 = 1) ∨
    (p.1.length ≠ 1 ∧ ch ≠ 39 ∧ ch ≠ 34 ∧ oneIf 39 p.1 = 0 ∧ oneIf 34 p.1 = 0) ∨
    (p.1.length = 1 ∧ (uOf p.2).length ≠ 1 ∧ ch ≠ 39 ∧ ch ≠ 34 ∧ oneIf 39 p.1 = 0 ∧ oneIf 34 p.1 = 0) ∨
    (p.1.length = 1 ∧ (∃ u, uOf p.2 = [u] ∧ u ≠ 39 ∧ u ≠ 34) ∧ ch ≠ 39 ∧ ch ≠ 34 ∧ oneIf 39 p.1 = 0 ∧ oneIf 34 p.1 = 0) := by
  obtain ⟨l, v⟩ := p
  simp only at *
  by_cases e1 : l = [39]
  · subst e1
    have h2 : partL [39] = (1, some 39) := by decide +kernel
    rw [h2] at h
    injection h with _ h; injection h with h; subst h
    exact Or.inl ⟨rfl, by decide +kernel, fun e => by simpa using hq.1 e, fun e => by simpa using ho.1 e, by decide, by decide⟩
  by_cases e2 : l = [34]
  · subst e2
    have h2 : partL [34] = (1, some 34) := by decide +kernel
    rw [h2] at h
    injection h with _ h; injection h with h; subst h
    exact Or.inr (Or.inl ⟨rfl, by decide +kernel, fun e => by simpa using hq.1 e, fun e => by simpa using ho.1 e, by decide, by decide⟩)
  by_cases e3 : l = [92, 39]
  · have := hq.2 e3
    subst e3
    exact Or.inr (Or.inr (Or.inl ⟨by simp, this, by decide, by decide⟩))
  by_cases e4 : l = [92, 34]
  · have := ho.2 e4
    subst e4
    exact Or.inr (Or.inr (Or.inr (Or.inl ⟨by simp, this, by decide, by decide⟩)))
  have n1 : ch ≠ 39 := fun e => e3 (hq.1 e)
  have n2 : ch ≠ 34 := fun e => e4 (ho.1 e)
  have o1 : oneIf 39 l = 0 := by unfold oneIf; rw [if_neg]; rintro (e | e); exact e1 e; exact e3 e
  have o2 : oneIf 34 l = 0 := by unfold oneIf; rw [if_neg]; rintro (e | e); exact e2 e; exact e4 e
  by_cases hl : l.length = 1
  · by_cases hu : (uOf v).length = 1
    · match l, hl with
      | [x], _ =>
        match hw : uOf v, hu with
        | [u], _ =>
          have h3 := one_units x (fun e => e1 (by rw [e])) (fun e => e2 (by rw [e])) v (by rw [h])
          rw [hw] at h3
          exact Or.inr (Or.inr (Or.inr (Or.inr (Or.inr (Or.inr ⟨rfl, ⟨u, rfl, fun e => h3.1 (by rw [e]), fun e => h3.2 (by rw [e])⟩, n1, n2, o1, o2⟩)))))
    · exact Or.inr (Or.inr (Or.inr (Or.inr (Or.inr (Or.inl ⟨hl, hu, n1, n2, o1, o2⟩)))))
  · exact Or.inr (Or.inr (Or.inr (Or.inr (Or.inl ⟨hl, n1, n2, o1, o2⟩))))
/-- A part, as the count sees it. -/
theorem facts_34 (p : Piece) (h : partL p.1 = (p.1.length, some p.2)) (ch : Int) (hq : ch = 34 ↔ p.1 = [92, 34]) (ho : ch = 39 ↔ p.1 = [92, 39]) :
    (p.1.length = 1 ∧ uOf p.2 = [34] ∧ ch ≠ 34 ∧ ch ≠ 39 ∧ oneIf 34 p.1 = 1 ∧ oneIf 39 p.1 = 0) ∨
    (p.1.length = 1 ∧ uOf p.2 = [39] ∧ ch ≠ 34 ∧ ch ≠ 39 ∧ oneIf 34 p.1 = 0 ∧ oneIf 39 p.1 = 1) ∨
    (p.1.length ≠ 1 ∧ ch = 34 ∧ oneIf 34 p.1 = 1 ∧ oneIf 39 p.1 = 0) ∨
    (p.1.length ≠ 1 ∧ ch = 39 ∧ oneIf 34 p.1 = 0 ∧ oneIf 39 p.1 = 1) ∨
    (p.1.length ≠ 1 ∧ ch ≠ 34 ∧ ch ≠ 39 ∧ oneIf 34 p.1 = 0 ∧ oneIf 39 p.1 = 0) ∨
    (p.1.length = 1 ∧ (uOf p.2).length ≠ 1 ∧ ch ≠ 34 ∧ ch ≠ 39 ∧ oneIf 34 p.1 = 0 ∧ oneIf 39 p.1 = 0) ∨
    (p.1.length = 1 ∧ (∃ u, uOf p.2 = [u] ∧ u ≠ 34 ∧ u ≠ 39) ∧ ch ≠ 34 ∧ ch ≠ 39 ∧ oneIf 34 p.1 = 0 ∧ oneIf 39 p.1 = 0) := by
  obtain ⟨l, v⟩ := p
  simp only at *
  by_cases e1 : l = [34]
  · subst e1
    have h2 : partL [34] = (1, some 34) := by decide +kernel
    rw [h2] at h
    injection h with _ h; injection h with h; subst h
    exact Or.inl ⟨rfl, by decide +kernel, fun e => by simpa using hq.1 e, fun e => by simpa using ho.1 e, by decide, by decide⟩
  by_cases e2 : l = [39]
  · subst e2
    have h2 : partL [39] = (1, some 39) := by decide +kernel
    rw [h2] at h
    injection h with _ h; injection h with h; subst h
    exact Or.inr (Or.inl ⟨rfl, by decide +kernel, fun e => by simpa using hq.1 e, fun e => by simpa using ho.1 e, by decide, by decide⟩)
  by_cases e3 : l = [92, 34]
  · have := hq.2 e3
    subst e3
    exact Or.inr (Or.inr (Or.inl ⟨by simp, this, by decide, by decide⟩))
  by_cases e4 : l = [92, 39]
  · have := ho.2 e4
    subst e4
    exact Or.inr (Or.inr (Or.inr (Or.inl ⟨by simp, this, by decide, by decide⟩)))
  have n1 : ch ≠ 34 := fun e => e3 (hq.1 e)
  have n2 : ch ≠ 39 := fun e => e4 (ho.1 e)
  have o1 : oneIf 34 l = 0 := by unfold oneIf; rw [if_neg]; rintro (e | e); exact e1 e; exact e3 e
  have o2 : oneIf 39 l = 0 := by unfold oneIf; rw [if_neg]; rintro (e | e); exact e2 e; exact e4 e
  by_cases hl : l.length = 1
  · by_cases hu : (uOf v).length = 1
    · match l, hl with
      | [x], _ =>
        match hw : uOf v, hu with
        | [u], _ =>
          have h3 := one_units x (fun e => e2 (by rw [e])) (fun e => e1 (by rw [e])) v (by rw [h])
          rw [hw] at h3
          exact Or.inr (Or.inr (Or.inr (Or.inr (Or.inr (Or.inr ⟨rfl, ⟨u, rfl, fun e => h3.2 (by rw [e]), fun e => h3.1 (by rw [e])⟩, n1, n2, o1, o2⟩)))))
    · exact Or.inr (Or.inr (Or.inr (Or.inr (Or.inr (Or.inl ⟨hl, hu, n1, n2, o1, o2⟩)))))
  · exact Or.inr (Or.inr (Or.inr (Or.inr (Or.inl ⟨hl, n1, n2, o1, o2⟩))))
theorem shape_head (p : List UInt8) (v : Int) (h : Shape p v) : ∃ x l, p = x :: l := by
  cases h with
  | one x _ _ => exact ⟨x, [], rfl⟩
  | wide x t _ _ _ => exact ⟨x, t, rfl⟩
  | esc y t _ _ _ _ => exact ⟨92, y :: t, rfl⟩
theorem shape_ne (p : List UInt8) (v : Int) (h : Shape p v) : p ≠ [] := by
  obtain ⟨x, l, rfl⟩ := shape_head p v h
  simp
theorem head_ne (p : List UInt8) (v : Int) (h : Shape p v) (q : UInt8) (hq : q = 39 ∨ q = 34) (hne : p ≠ [q]) (x : UInt8) (l : List UInt8) (hp : p = x :: l) : x ≠ q := by
  rintro rfl
  cases h with
  | one y _ _ => injection hp with h1 h2; subst h1; exact hne rfl
  | wide y t _ h2 _ => injection hp with h1 _; subst h1; rcases hq with rfl | rfl <;> exact absurd h2 (by decide)
  | esc y t _ _ _ _ => injection hp with h1 _; subst h1; rcases hq with e | e <;> exact absurd e (by decide)
theorem at_head (s : ByteArray) (q0 : UInt8) (qs : List Piece) (p : Piece) (rs : List Piece) (x : UInt8) (l : List UInt8) (h : s.data.toList = q0 :: (bytesP (qs ++ p :: rs) ++ [q0])) (hp : p.1 = x :: l) :
    s.data.toList[1 + (bytesP qs).length]? = some x := by
  rw [h, bytesP_app, bytesP_cons, hp, Nat.add_comm, List.getElem?_cons_succ, List.append_assoc, List.getElem?_append_right (Nat.le_refl _)]
  simp
theorem ext_list (s : ByteArray) (q0 : UInt8) (qs : List Piece) (p : Piece) (rs : List Piece) (h : s.data.toList = q0 :: (bytesP (qs ++ p :: rs) ++ [q0])) :
    (s.extract (1 + (bytesP qs).length) (1 + (bytesP qs).length + p.1.length)).data.toList = p.1 := by
  simp only [ByteArray.data_extract, Array.toList_extract, List.extract_eq_take_drop]
  rw [h, bytesP_app, bytesP_cons, Nat.add_comm 1, List.drop_succ_cons, List.append_assoc, List.drop_left', show (bytesP qs).length + 1 + p.1.length - ((bytesP qs).length + 1) = p.1.length by omega, List.append_assoc, List.take_left']
  · rfl
  · rfl
theorem cell_one_at (w : World) (o : Obj) (a : Value) (t : TypeId) : ∀ j u, [a][j]? = some u → ((w.alloc o).alloc (.cells #[a] t)).cell? ((⟨w.heap.size + 1, 0, none⟩ : Addr).add j) = some u := by
  have := cell_one_new (w.alloc o) a t
  rwa [show (w.alloc o).heap.size = w.heap.size + 1 by simp] at this
theorem cell_two_at (w : World) (o : Obj) (a b : Value) (t : TypeId) : ∀ j u, [a, b][j]? = some u → ((w.alloc o).alloc (.cells #[a, b] t)).cell? ((⟨w.heap.size + 1, 0, none⟩ : Addr).add j) = some u := by
  have := cell_two_new (w.alloc o) a b t
  rwa [show (w.alloc o).heap.size = w.heap.size + 1 by simp] at this
theorem strCells_is (s : ByteArray) : Lib.strCells s = byteC s.data.toList := rfl
theorem ov_of {B m b : Nat} {w : World} {v : Value} {xs ys zs : List Value} (h : w.ownsRow B 5 1 v (xs.length + m) (xs ++ ys)) (hm : ys.length = m) (e : zs = xs ++ ys) (hz : zs.length ≤ b) (hB : B ≤ w.heap.size) : OV B w v zs b := by
  subst e
  exact ⟨by rw [List.length_append, hm]; exact h, hz, hB⟩
theorem row_each : ∀ ps m, Row ps m → ∀ p ∈ ps, partL p.1 = (p.1.length, some p.2)
  | _ :: ps, m, ⟨h1, _, h3⟩, p', hp => by
    rcases List.mem_cons.1 hp with e | e
    · subst e; exact h1
    · exact row_each ps m h3 p' e
theorem sumIf_le (q : UInt8) : ∀ ps : List Piece, sumIf q ps ≤ ps.length
  | [] => Nat.le_refl _
  | p :: ps => by
    have h1 := sumIf_le q ps
    have h2 : sumIf q (p :: ps) = oneIf q p.1 + sumIf q ps := rfl
    have h3 : oneIf q p.1 ≤ 1 := by unfold oneIf; split <;> omega
    rw [h2, List.length_cons]; omega
end Str
end Go.Proofs.YtddldddehgnobaaDoor
