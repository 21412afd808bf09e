/-
  The contracts of the functions that make a literal's normal form and its print.
-/
import Derived.Test.YtinjaopgnlpncaaGreatDoorNumItoa
import Derived.Test.YtinjaopgnlpncaaGreatDoorNumSplit
namespace Go.Proofs.YtinjaopgnlpncaaGreatDoor
namespace Num
open Go.RowKit

/-- A row that has just been built. -/
theorem Seg.built (w : World) (B g : Nat) (hg : g = w.heap.size) (hB : B ≤ g) (l : List UInt8) (n : Nat) (hn : l.length = n) (h0 : n ≤ 1000) :
    Seg (w.alloc (.cells (cellsOf l).toArray 5)) B (.slice (some ⟨g, 0, none⟩) n n) l := by
  subst hg; subst hn
  refine Or.inr ⟨w.heap.size, 0, l.length, _, rfl, hB, heap_alloc_new w _, Nat.le_refl _, by unfold maxLen; omega, by simp [cellsOf_len], fun j hj => ?_⟩
  simp

/-- The box of a struct that came in. -/
def boxW (w : World) (p : Parts) : World := w.alloc (.cells #[.int .u8 ((letN p.base).toNat : Int), .string ⟨p.whole.toArray⟩, .string ⟨p.frac.toArray⟩, .string ⟨(p.sgn ++ p.pow).toArray⟩, .bool p.big] 40)
theorem box_size (w : World) (p : Parts) : (boxW w p).heap.size = w.heap.size + 1 := by simp [boxW]
theorem box_below (w : World) (p : Parts) : Below w.heap.size w (boxW w p) := (Below.refl _ _).alloc (Nat.le_refl _) _
theorem box_cell (w w1 : World) (p : Parts) (h : Below (w.heap.size + 1) (boxW w p) w1) :
    w1.cell? ⟨w.heap.size, 0, none⟩ = some (.int .u8 ((letN p.base).toNat : Int)) ∧ w1.cell? ⟨w.heap.size, 1, none⟩ = some (.string ⟨p.whole.toArray⟩) ∧
    w1.cell? ⟨w.heap.size, 2, none⟩ = some (.string ⟨p.frac.toArray⟩) ∧ w1.cell? ⟨w.heap.size, 3, none⟩ = some (.string ⟨(p.sgn ++ p.pow).toArray⟩) := by
  have e : ∀ o, w1.cell? ⟨w.heap.size, o, none⟩ = (boxW w p).cell? ⟨w.heap.size, o, none⟩ := fun o => h.cell (p := ⟨w.heap.size, o, none⟩) (by simp)
  rw [e, e, e, e]
  unfold boxW
  rw [World.cell?_alloc_at _ _ _ _ rfl, World.cell?_alloc_at _ _ _ _ rfl, World.cell?_alloc_at _ _ _ _ rfl, World.cell?_alloc_at _ _ _ _ rfl]
  exact ⟨rfl, rfl, rfl, rfl⟩

theorem collect_lit (l : List UInt8) : collectL (⟨l.toArray⟩ : ByteArray).data.toList = collectL l := rfl

theorem two_cells (c : UInt8) : (#[.int .u8 48, .int .u8 (c.toNat : Int)] : Array Value) = (cellsOf [48, c]).toArray := rfl
theorem one_cells : (#[.int .u8 48] : Array Value) = (cellsOf [48]).toArray := rfl

set_option maxHeartbeats 4000000 in
set_option maxRecDepth 100000 in
theorem canonBased_any (p : Parts) (w : World) (hlim : p.whole.length + 100 ≤ 140737488355328) :
    Calls Tryz.prog 20 #[litV p] w (SegPost w.heap.size w (normBas p.base (collectL p.whole))) := by
  have hl := collect_le p.whole
  have hsz := size_of p.whole
  have Hc0 := Lib.hid (collect_any (w.heap.size + 1) (.slice none 0 0) [] ⟨p.whole.toArray⟩ (boxW w p) (Seg.nil _ _) (by rw [box_size]; exact Nat.le_refl _) (by rw [hsz]; simp; omega))
  unfold boxW at Hc0
  have Hb0 := Lib.hid (box_below w p)
  unfold litV
  have hsz1 := box_size w p
  have hal : (aheadL (collectL p.whole)).length ≤ (collectL p.whole).length := (List.dropWhile_sublist _).length_le
  clear hsz
  go_enter Tryz.func20, Tryz.ntmps20
  go_wp2_with fail
  refine Hc0.out.mono ?_
  clear Hc0
  rintro e w1 ⟨v1, rfl, hs1, hb1⟩
  have hb1' : Below (w.heap.size + 1) (boxW w p) w1 := hb1
  have hbc := (box_cell w w1 p hb1').1
  have hz1 : w.heap.size + 1 ≤ w1.heap.size := by have := hb1'.size; rw [hsz1] at this; exact this
  have hz1s : w.heap.size < w1.heap.size := by omega
  have Hb1 := Lib.hid hb1'
  clear hb1 hb1'
  have Hs1 : Hid (Seg w1 (w.heap.size + 1) v1 (collectL p.whole)) := Lib.hid (by simpa [collect_lit] using hs1)
  clear hs1
  go_wp2_with fail
  refine (trimLeft_any _ v1 _ w1 Hs1.out).mono ?_
  rintro e w2 ⟨⟨v2, rfl, hs2⟩, rfl⟩
  cases hx : aheadL (collectL p.whole) with
  | nil =>
    rw [hx] at hs2
    obtain ⟨a2, cap2, rfl, _, _⟩ := hs2.len
    have Hf : Hid (normBas p.base (collectL p.whole) = [48, letN p.base] ++ [48]) := Lib.hid (by rw [normBas, hx, if_pos rfl]; rfl)
    clear hs2 hx Hs1
    have Hr : Hid (Seg (w1.alloc (.cells #[.int .u8 48] 5)) w.heap.size (.slice (some ⟨w1.heap.size, 0, none⟩) 1 1) [48]) := Lib.hid (Seg.built w1 w.heap.size _ rfl (by omega) [48] 1 rfl (by decide))
    have Hq : Hid (Seg ((w1.alloc (.cells #[.int .u8 48] 5)).alloc (.cells #[.int .u8 48, .int .u8 ((letN p.base).toNat : Int)] 5)) w.heap.size (.slice (some ⟨w1.heap.size + 1, 0, none⟩) 2 2) [48, letN p.base]) := Lib.hid (Seg.built (w1.alloc _) w.heap.size _ (by simp) (by omega) [48, letN p.base] 2 rfl (by decide))
    go_wp2_with (at_builtin; refine wpList_append_seg _ rfl _ _ 42 rfl rfl Hq.out _ rfl 1 [48] rfl (Hr.out.keep ((Below.refl _ _).alloc (Nat.le_refl _) _)).src ?c1 ?c2 ?_)
    case c1 => simp only [List.length_cons, List.length_nil]; omega
    case c2 => simp; omega
    intro v3 w3 hs3 hb3
    have Hs3 := Lib.hid hs3; clear hs3
    go_wp2_with fail
    go_ret
    exact ⟨_, rfl, by rw [Hf.out]; exact Hs3.out, Hb0.out.trans (((Hb1.out.mono (by omega)).alloc (by omega) _).alloc (by simp; omega) _ |>.trans hb3)⟩
  | cons d t =>
    rw [hx] at hs2 hal
    have Hf : Hid (normBas p.base (collectL p.whole) = [48, letN p.base] ++ (d :: t)) := Lib.hid (by rw [normBas, hx, if_neg (by simp)]; rfl)
    obtain ⟨g, off, cap, rfl, k1, k2, _⟩ := hs2.cons
    have hn : (((t.length : Int) + 1) == 0) = false := beq_eq_false_iff_ne.2 (by omega)
    have Hs2 := Lib.hid hs2
    have Hq : Hid (Seg (w1.alloc (.cells #[.int .u8 48, .int .u8 ((letN p.base).toNat : Int)] 5)) w.heap.size (.slice (some ⟨w1.heap.size, 0, none⟩) 2 2) [48, letN p.base]) := Lib.hid (Seg.built w1 w.heap.size _ rfl (by omega) [48, letN p.base] 2 rfl (by decide))
    clear hs2 hx Hs1
    go_wp2_with (at_builtin; refine wpList_append_seg _ rfl _ _ 42 rfl rfl Hq.out _ rfl (t.length + 1) (d :: t) rfl (Hs2.out.keep ((Below.refl _ _).alloc (Nat.le_refl _) _)).src ?c1 ?c2 ?_)
    case c1 => simp only [List.length_cons, List.length_nil] at *; omega
    case c2 => simp; omega
    intro v3 w3 hs3 hb3
    have Hs3 := Lib.hid hs3; clear hs3
    go_wp2_with fail
    go_ret
    exact ⟨_, rfl, by rw [Hf.out]; exact Hs3.out, Hb0.out.trans (((Hb1.out.mono (by omega)).alloc (by omega) _).trans hb3)⟩

/-- What raise is handed, of a decimal. -/
theorem pow_text (p : Parts) (d : Dec p) : ∃ u, Lib.trimPrefix (p.sgn ++ p.pow) [45] = u ∧ Lib.hasPrefix (p.sgn ++ p.pow) [45] = decide (p.sgn = [45]) ∧ numL 0 u = numL 0 p.pow ∧ numL 0 p.pow < 1000000000 := by
  have nb : numL 0 p.pow < 1000000000 := by
    cases hx : p.exp with
    | false => rw [(d.exp hx).2]; decide
    | true => exact num_small _ (d.pow hx).2.2.1
  have hd : (p.pow.head? == some 45) = false := by
    cases hp : p.pow with
    | nil => rfl
    | cons c t =>
      have hx : p.exp = true := by
        cases hx : p.exp with
        | true => rfl
        | false => rw [(d.exp hx).2] at hp; cases hp
      have := run_not 10 _ (d.pow hx).1 45 (by decide) (by decide)
      rw [hp] at this
      have hc : c ≠ 45 := fun e => this (by rw [e]; simp)
      simpa using hc
  have hs : p.sgn = [] ∨ p.sgn = [43] ∨ p.sgn = [45] := by
    cases hx : p.exp with
    | false => exact Or.inl (d.exp hx).1
    | true => exact (d.pow hx).2.2.2
  rcases hs with h | h | h
  · refine ⟨p.pow, ?_, ?_, rfl, nb⟩
    · rw [h, Lib.trimPrefix, neg_prefix, List.nil_append, hd, if_neg (by decide)]
    · rw [h, neg_prefix, List.nil_append, hd]; rfl
  · refine ⟨43 :: p.pow, ?_, ?_, numL_sign _ _, nb⟩
    · rw [h, Lib.trimPrefix, neg_prefix]; rfl
    · rw [h, neg_prefix]; rfl
  · refine ⟨p.pow, ?_, ?_, rfl, nb⟩
    · rw [h, Lib.trimPrefix, neg_prefix]; rfl
    · rw [h, neg_prefix]; rfl

theorem powI_of (p : Parts) : powI p = if decide (p.sgn = [45]) = true then -(numL 0 p.pow : Int) else (numL 0 p.pow : Int) := by
  unfold powI
  by_cases h : p.sgn = [45]
  · rw [if_pos h, if_pos (by simp [h])]
  · rw [if_neg h, if_neg (by simp [h])]

theorem trimZ_le (l : List UInt8) : (trimZ l).length ≤ l.length := by
  unfold trimZ; rw [List.length_reverse]; exact Nat.le_trans (List.dropWhile_sublist _).length_le (by simp)

set_option maxHeartbeats 8000000 in
set_option maxRecDepth 100000 in
theorem canonDecimal_any (p : Parts) (d : Dec p) (w : World) (hlim : p.whole.length + p.frac.length + 100 ≤ 140737488355328) (hpl : (p.sgn ++ p.pow).length ≤ maxLen) (ht : Tab w.heap.size w) :
    Calls Tryz.prog 21 #[litV p] w (SegPost w.heap.size w (normDec (collectL p.whole ++ collectL p.frac) (collectL p.frac).length (powI p))) := by
  obtain ⟨u, hu1, hu2, hu3, hu4⟩ := pow_text p d
  have Hpow : Hid ((if decide (p.sgn = [45]) = true then -(numL 0 u : Int) else (numL 0 u : Int)) = powI p) := Lib.hid (by rw [powI_of, hu3])
  have hpb : -1000000000 < powI p ∧ powI p < 1000000000 := by rw [powI_of]; split <;> omega
  have hl1 := collect_le p.whole
  have hl2 := collect_le p.frac
  have hsz1 := size_of p.whole
  have hsz2 := size_of p.frac
  have Hc1 := Lib.hid (collect_any (w.heap.size + 1) (.slice none 0 0) [] ⟨p.whole.toArray⟩ (boxW w p) (Seg.nil _ _) (by rw [box_size]; exact Nat.le_refl _) (by rw [hsz1]; simp; omega))
  have Hc2 := Lib.hid (fun (v : Value) (W : World) (hs : Seg W (w.heap.size + 1) v (collectL p.whole)) (hB : w.heap.size + 1 ≤ W.heap.size) =>
    collect_any (w.heap.size + 1) v (collectL p.whole) ⟨p.frac.toArray⟩ W hs hB (by rw [hsz2]; omega))
  have Hra := Lib.hid (fun (W : World) => raise_any ⟨(p.sgn ++ p.pow).toArray⟩ W (by rw [size_of]; exact hpl) u (decide (p.sgn = [45])) (Lib.hid hu1) (Lib.hid hu2) (by rw [hu3]; exact hu4))
  unfold boxW at Hc1
  have Hb0 := Lib.hid (box_below w p)
  have hbs := box_size w p
  have Ht := Lib.hid ht
  unfold litV
  clear hu1 hu2 hu3 hu4 hsz1 hsz2 hpl d ht
  go_enter Tryz.func21, Tryz.ntmps21
  go_wp2_with fail
  refine Hc1.out.mono ?_
  clear Hc1
  rintro e w1 ⟨v1, rfl, hs1, hb1⟩
  have hb1' : Below (w.heap.size + 1) (boxW w p) w1 := hb1
  have hbc1 := (box_cell w w1 p hb1').2.2.1
  have hz1 : w.heap.size + 1 ≤ w1.heap.size := by have := hb1'.size; rw [hbs] at this; exact this
  have hz1s : w.heap.size < w1.heap.size := by omega
  have Hb1 := Lib.hid hb1'
  have hs1' : Seg w1 (w.heap.size + 1) v1 (collectL p.whole) := by simpa [collect_lit] using hs1
  clear hb1 hb1' hs1
  generalize ha : collectL p.whole = a at *
  generalize hf : collectL p.frac = f at *
  have Ha := Lib.hid ha
  have Hf := Lib.hid hf
  obtain ⟨a1, cap1, rfl, k1, k2⟩ := hs1'.len
  have Hs1 := Lib.hid hs1'
  clear ha hf hs1'
  go_wp2_with fail
  refine (Hc2.out _ w1 Hs1.out hz1).mono ?_
  clear Hc2
  rintro e w2 ⟨v2, rfl, hs2, hb2⟩
  have hb2' : Below (w.heap.size + 1) (boxW w p) w2 := Hb1.out.trans hb2
  have hbc2 := (box_cell w w2 p hb2').2.2.2
  have hz2 : w.heap.size + 1 ≤ w2.heap.size := by have := hb2'.size; rw [hbs] at this; exact this
  have hz2s : w.heap.size < w2.heap.size := by omega
  have Hb2 := Lib.hid hb2'
  obtain ⟨a2, cap2, rfl, k3, k4⟩ := hs2.len
  have Hs2 := Lib.hid hs2
  have hlen : (a ++ f).length = a.length + f.length := List.length_append
  generalize hD : a ++ f = D at *
  have HD := Lib.hid hD
  have Hlen := Lib.hid hlen
  have hDl : D.length + 100 ≤ 140737488355328 := by omega
  have hDa : a.length ≤ D.length := by omega
  have hz := trimZ_le D
  have hal : (aheadL (trimZ D)).length ≤ (trimZ D).length := (List.dropWhile_sublist _).length_le
  clear hb2 hb2' hs2 hbc1 hD hlen
  go_wp2_with fail
  refine (Hra.out _).mono ?_
  clear Hra
  rintro e w3 ⟨rfl, rfl⟩
  rw [Hpow.out]
  generalize hP : powI p = P at *
  have HP := Lib.hid hP
  clear hP
  go_wp2_with fail
  refine (trimRight_any _ _ D w2 Hs2.out).mono ?_
  rintro e w3 ⟨⟨v3, rfl, hs3⟩, rfl⟩
  have hn : normDec D f.length P = if aheadL (trimZ D) = [] then [48] else aheadL (trimZ D) ++ 101 :: Lib.itoa (P - f.length + ((D.length : Int) - (trimZ D).length)) := rfl
  have Hn := Lib.hid hn; clear hn
  generalize trimZ D = Z at *
  obtain ⟨a3, cap3, rfl, k5, k6⟩ := hs3.len
  have Hs3 := Lib.hid hs3
  clear hs3
  go_wp2_with fail
  refine (trimLeft_any _ _ Z w2 Hs3.out).mono ?_
  rintro e w3 ⟨⟨v4, rfl, hs4⟩, rfl⟩
  have hyz : (aheadL Z).length ≤ Z.length := (List.dropWhile_sublist _).length_le
  generalize aheadL Z = Y at *
  cases Y with
  | nil =>
    obtain ⟨a4, cap4, rfl, _, _⟩ := hs4.len
    have Hr : Hid (Seg (w2.alloc (.cells #[.int .u8 48] 5)) w.heap.size (.slice (some ⟨w2.heap.size, 0, none⟩) 1 1) [48]) := Lib.hid (Seg.built w2 w.heap.size _ rfl (by omega) [48] 1 rfl (by decide))
    clear hs4
    go_wp2_with fail
    go_ret
    exact ⟨_, rfl, by
      try rw [Ha.out, Hf.out]
      try rw [HD.out]
      try rw [HP.out]
      rw [Hn.out]
      first | rw [if_pos trivial] | rw [if_pos rfl]
      exact Hr.out, Hb0.out.trans ((Hb2.out.mono (by omega)).alloc (by omega) _)⟩
  | cons c t =>
    obtain ⟨g, off, cap, rfl, k7, k8, _⟩ := hs4.cons
    have hn0 : (((t.length : Int) + 1) == 0) = false := beq_eq_false_iff_ne.2 (by omega)
    rw [List.length_cons] at hyz
    have Hs4 := Lib.hid hs4
    clear hs4
    unfold maxLen at k8 k6 k4 k2
    go_wp2_with (at_builtin; refine wpList_append_seg _ rfl _ _ 42 rfl rfl (Hs4.out.keep ((Below.refl _ _).alloc (Nat.le_refl _) _)) _ rfl 1 [101] rfl (src_one w2 _ rfl 101) ?c1 ?c2 ?_)
    case c1 => simp only [List.length_cons, List.length_nil]; omega
    case c2 => simp; omega
    intro v5 w5 hs5 hb5
    have hb5' : Below (w.heap.size + 1) w2 w5 := ((Below.refl _ _).alloc hz2 _).trans hb5
    have hz5 : w.heap.size + 1 ≤ w5.heap.size := Nat.le_trans hz2 hb5'.size
    have Hb5 := Lib.hid ((Hb2.out.trans hb5').mono (Nat.le_succ _))
    have Hs5 := Lib.hid hs5
    have Ht5 := Lib.hid (((Ht.out.on Hb0.out).on Hb5.out).up (Nat.le_succ _))
    clear hs5 hb5 hb5'
    go_wp2_with fail
    refine (appendInt_any (w.heap.size + 1) _ (by omega) (by omega) v5 _ w5 Hs5.out hz5 (by simp only [List.length_append, List.length_cons, List.length_nil]; omega) Ht5.out).mono ?_
    rintro e w6 ⟨v6, rfl, hs6, hb6⟩
    have Hs6 := Lib.hid (hs6.mono (Nat.le_succ w.heap.size))
    have Hb6 := Lib.hid (hb6.mono (Nat.le_succ w.heap.size))
    clear hs6 hb6
    go_wp2_with fail
    go_ret
    refine ⟨_, rfl, ?_, Hb0.out.trans (Hb5.out.trans Hb6.out)⟩
    try rw [Ha.out, Hf.out]
    try rw [HD.out]
    try rw [HP.out]
    rw [Hn.out, if_neg (by simp)]
    have h6 := Hs6.out
    have e1 : P - (f.length : Int) + ((D.length : Int) - Z.length) = P - ((D.length : Int) - a.length) + ((D.length : Int) - Z.length) := by have := Hlen.out; omega
    rw [e1]
    simpa using h6

end Num
end Go.Proofs.YtinjaopgnlpncaaGreatDoor
