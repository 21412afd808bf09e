/-
  The law's own helpers: are two rows of texts the same; a row spoiled.
-/
import Derived.Test.YtcalgpkcefccmaaDoorJsxRefW
import Derived.BigQuiet
import Derived.Deep.QuietTactic
namespace Go.Proofs.YtcalgpkcefccmaaDoor
namespace Jsx
open Go.RowKit Go.Maps

theorem ret_bool {a b : Bool} (h : a = b) : Ending.returned (.bool a) = .returned (.bool b) := by rw [h]
theorem cel_on {w w' : World} {a : Addr} {v : Value} (h : w.cell? a = some v) (hb : Below w.heap.size w w') : w'.cell? a = some v := (hb.cell (World.block_lt_of_cell? w _ h)).trans h
theorem texts_later {B : Nat} {v : Value} {xs : List (List UInt8)} {w w' : World} (h : Texts B v xs w) (hb : Below w.heap.size w w') : Texts B v xs w' := by
  refine ⟨h.1, ?_⟩
  rcases h.2 with h0 | ⟨g, cap, cur, h1, h2, h3, rest⟩
  · exact .inl h0
  · exact .inr ⟨g, cap, cur, h1, h2, by rw [hb.block _ (block_lt h3)]; exact h3, rest⟩
/-- A row as its slice. -/
theorem texts_form {B : Nat} {v : Value} {xs : List (List UInt8)} {w : World} (h : Texts B v xs w) : ∃ o c, v = .slice o xs.length c ∧ (xs ≠ [] → ∃ g, o = some ⟨g, 0, none⟩ ∧ ∀ j, j < xs.length → w.cell? ⟨g, j, none⟩ = some (textV (xs.getD j []))) := by
  have hc := h
  rcases h.2 with ⟨rfl, h0⟩ | ⟨g, cap, cur, rfl, -⟩
  · refine ⟨none, 0, by rw [h0], fun hx => absurd (List.eq_nil_of_length_eq_zero h0) hx⟩
  · refine ⟨_, _, rfl, fun _ => ⟨g, rfl, fun j hj => ?_⟩⟩
    have := hc.cells (g := g) rfl j (textV (xs.getD j [])) (by simp [List.getD, hj])
    rwa [show (⟨g, 0, none⟩ : Addr).add j = ⟨g, j, none⟩ by simp [Addr.add]; exact fun h => h.symm] at this
theorem same_step {xs ys : List (List UInt8)} (j : Nat) (h1 : j < xs.length) (h2 : j < ys.length) : decide (xs.drop j = ys.drop j) = (decide (xs.getD j [] = ys.getD j []) && decide (xs.drop (j + 1) = ys.drop (j + 1))) := by
  have key : ∀ (a b : List UInt8) (l m : List (List UInt8)), decide (a :: l = b :: m) = (decide (a = b) && decide (l = m)) := fun a b l m => by simp
  have e1 : xs.getD j [] = xs[j] := by simp [List.getD, h1]
  have e2 : ys.getD j [] = ys[j] := by simp [List.getD, h2]
  rw [List.drop_eq_getElem_cons h1, List.drop_eq_getElem_cons h2, e1, e2, key]

set_option maxRecDepth 20000 in
set_option maxHeartbeats 4000000 in
theorem same_any (B1 B2 : Nat) (v1 v2 : Value) (xs ys : List (List UInt8)) (w : World) (h1 : Texts B1 v1 xs w) (h2 : Texts B2 v2 ys w) (hx : xs.length ≤ 4294967296) (hy : ys.length ≤ 4294967296) :
    Calls Tryd.prog 15 #[v1, v2] w fun e w' => e = .returned (.bool (decide (xs = ys))) ∧ Below w.heap.size w w' := by
  obtain ⟨o1, c1, rfl, k1⟩ := texts_form h1
  obtain ⟨o2, c2, rfl, k2⟩ := texts_form h2
  clear h1 h2
  by_cases hlen : xs.length = ys.length
  · have hne : ((xs.length : Int) != (ys.length : Int)) = false := by rw [hlen]; simp
    by_cases h0 : xs = []
    · subst h0
      have h0' : ys = [] := List.eq_nil_of_length_eq_zero hlen.symm
      subst h0'
      clear k1 k2 hne
      go_enter Tryd.func15, Tryd.ntmps15
      go_wp2_with fail
      go_loop [5] (fun i => i = .int .i64 0) (fun _ => 1)
      case atStart => rfl
      case round =>
        obtain rfl := hrel
        go_wp2_with fail
        go_ret
        exact ⟨by simp, Below.refl _ _⟩
    · have h0' : ys ≠ [] := by intro e; subst e; exact h0 (List.eq_nil_of_length_eq_zero hlen)
      obtain ⟨g1, rfl, q1⟩ := k1 h0
      obtain ⟨g2, rfl, q2⟩ := k2 h0'
      have K1 := Lib.hid q1
      have K2 := Lib.hid q2
      have HL := Lib.hid hlen
      clear k1 k2 q1 q2 h0 h0' hlen
      go_enter Tryd.func15, Tryd.ntmps15
      go_wp2_with fail
      go_loopw [5] (fun i wr => ∃ k : Nat, i = .int .i64 k ∧ k ≤ xs.length ∧ Below w.heap.size w wr ∧ Hid (decide (xs = ys) = decide (xs.drop k = ys.drop k))) (fun i _ => xs.length - (intOf i).toNat)
      case atStart => exact ⟨0, rfl, by omega, Below.refl _ _, Lib.hid rfl⟩
      case round =>
        obtain ⟨k, rfl, hk, hbw, Hs⟩ := hrel
        have HB := Lib.hid hbw
        by_cases hlt : k < xs.length
        · have hly : k < ys.length := by have := HL.out; omega
          have e1 := cel_on (K1.out k hlt) hbw
          have e2 := cel_on (K2.out k hly) hbw
          have Hd := Lib.hid (same_step (xs := xs) (ys := ys) k hlt hly)
          clear hbw
          unfold textV at e1 e2
          generalize xs.getD k [] = x at e1 Hd
          generalize ys.getD k [] = y at e2 Hd
          have hx1 : (ofL x).toList = x := by rw [Lib.toList_data, ofL_list]
          have hy1 : (ofL y).toList = y := by rw [Lib.toList_data, ofL_list]
          generalize ofL x = xa at *
          generalize ofL y = ya at *
          by_cases he : x = y
          · have b1 : (xa.toList == ya.toList) = true := by rw [hx1, hy1, he]; simp
            have b2 : (xa.toList != ya.toList) = false := by rw [bne, b1]; rfl
            have Hn : Hid (decide (xs = ys) = decide (xs.drop (k + 1) = ys.drop (k + 1))) := Lib.hid (by rw [Hs.out, Hd.out, decide_eq_true he]; simp)
            clear he hx1 hy1
            go_wp2_with fail
            go_quiet (fail)
            go_wp2_with fail
            go_roundw
            case rel => exact ⟨k + 1, by go_num, by omega, below_drewN' HB.out _, Hn⟩
            case measure => simp [intOf]; omega
          · have b1 : (xa.toList == ya.toList) = false := by rw [hx1, hy1]; exact beq_eq_false_iff_ne.2 he
            have b2 : (xa.toList != ya.toList) = true := by rw [bne, b1]; rfl
            have Hn : Hid (decide (xs = ys) = false) := Lib.hid (by rw [Hs.out, Hd.out, decide_eq_false he]; rfl)
            clear he hx1 hy1
            go_wp2_with fail
            go_quiet (fail)
            go_wp2_with fail
            go_ret
            exact ⟨ret_bool Hn.out.symm, below_drewN' HB.out _⟩
        · have Hn : Hid (decide (xs = ys) = true) := Lib.hid (by rw [Hs.out, List.drop_eq_nil_of_le (by omega), List.drop_eq_nil_of_le (by have := HL.out; omega)]; rfl)
          clear hbw
          go_wp2_with fail
          go_ret
          exact ⟨ret_bool Hn.out.symm, HB.out⟩
  · have Hf : Hid (decide (xs = ys) = false) := Lib.hid (decide_eq_false (fun e => hlen (by rw [e])))
    have hne : ((xs.length : Int) != (ys.length : Int)) = true := bne_iff_ne.2 (by omega)
    clear k1 k2
    generalize xs.length = n1 at *
    generalize ys.length = n2 at *
    clear hlen
    go_enter Tryd.func15, Tryd.ntmps15
    go_wp2_with fail
    go_ret
    exact ⟨ret_bool Hf.out.symm, Below.refl _ _⟩

/-! A row spoiled. -/
theorem words_len : ∀ (l cur : List UInt8), ∀ x ∈ wordsF cur l, x.length ≤ cur.length + l.length
  | [], cur, x, h => by
    rw [wordsF] at h
    split at h
    · cases h
    · rw [List.mem_singleton.1 h]; omega
  | c :: t, cur, x, h => by
    rw [wordsF] at h
    simp only [List.length_cons]
    split at h
    · split at h
      · have := words_len t [] x h; simp only [List.length_nil] at this; omega
      · rcases List.mem_cons.1 h with e | e
        · rw [e]; omega
        · have := words_len t [] x e; simp only [List.length_nil] at this; omega
    · have := words_len t _ x h
      rw [List.length_append, List.length_singleton] at this; omega
theorem words_count : ∀ (l cur : List UInt8), (wordsF cur l).length ≤ l.length + 1
  | [], cur => by rw [wordsF]; split <;> simp
  | c :: t, cur => by
    rw [wordsF]
    have h1 := words_count t []
    have h2 := words_count t (cur ++ [c])
    simp only [List.length_cons]
    split
    · split
      · omega
      · rw [List.length_cons]; omega
    · omega
theorem grown_set {w v : World} {A : Nat} (h : w.grownBy v (some A)) (j : Nat) (u : Value) : w.grownBy (v.setCell ⟨A, j, none⟩ u) (some A) :=
  ⟨h.os, h.tape, h.output, by have := h.size; simpa [World.setCell] using this, fun k hk hne => (Below.heap_setCell _ _ _ _ (fun e => hne (by simp [e]))).trans (h.block k hk hne)⟩
theorem own_frozen {w : World} {B A n c : Nat} {xs : List (List UInt8)} (h : Texts B (.slice (some ⟨A, 0, none⟩) n c) xs w) : ∀ j, w.frozen? ⟨A, j, none⟩ = false := by
  intro j
  rcases h.2 with ⟨h0, _⟩ | ⟨g, cap, cur, h1, _, h3, _⟩
  · cases h0
  · simp only [Value.slice.injEq, Option.some.injEq, Addr.mk.injEq] at h1
    obtain ⟨⟨rfl, _⟩, _⟩ := h1
    exact Lib.frozen_of_heap h3 j

set_option maxRecDepth 20000 in
set_option maxHeartbeats 4000000 in
theorem spoil_any (B A n : Nat) (xs : List (List UInt8)) (w : World) (hn : n = xs.length) (h1 : Texts B (.slice (some ⟨A, 0, none⟩) n n) xs w) (hlen : n ≤ 4294967296) (hall : ∀ x ∈ xs, x.length ≤ 4294967296) :
    Calls Tryd.prog 18 #[.slice (some ⟨A, 0, none⟩) n n] w fun e w' => e = .returned (.tuple #[]) ∧ w.grownBy w' (some A) := by
  have hfz := own_frozen h1
  obtain ⟨o, c, hv, hk⟩ := texts_form h1
  have hcell : ∀ j, j < n → w.cell? ⟨A, j, none⟩ = some (textV (xs.getD j [])) := by
    intro j hj
    have hne : xs ≠ [] := fun e => by subst e; simp at hn; omega
    obtain ⟨g, hg, hc⟩ := hk hne
    rw [hg] at hv
    simp only [Value.slice.injEq, Option.some.injEq, Addr.mk.injEq] at hv
    obtain ⟨⟨rfl, _⟩, _⟩ := hv
    exact hc j (by omega)
  have hsz : ∀ j, (xs.getD j []).length ≤ 4294967296 := by
    intro j
    by_cases hj : j < xs.length
    · rw [show xs.getD j [] = xs[j] by simp [List.getD, hj]]; exact hall _ (List.getElem_mem hj)
    · rw [show xs.getD j [] = [] by simp [List.getD, hj]]; simp
  clear hv hk h1 hall
  have HC := Lib.hid hcell
  have HF := Lib.hid hfz
  have HS := Lib.hid hsz
  clear hcell hfz hsz
  go_enter Tryd.func18, Tryd.ntmps18
  go_wp2_with fail
  go_loopw [2] (fun i wr => ∃ k : Nat, i = .int .i64 k ∧ k ≤ n ∧ w.grownBy wr (some A) ∧ Hid (∀ j, k ≤ j → j < n → wr.cell? ⟨A, j, none⟩ = some (textV (xs.getD j []))) ∧ Hid (∀ j, wr.frozen? ⟨A, j, none⟩ = false)) (fun i _ => n - (intOf i).toNat)
  case atStart => exact ⟨0, rfl, by omega, World.grownBy.refl _ _, Lib.hid (fun j _ hj => HC.out j hj), HF⟩
  case round =>
    obtain ⟨k, rfl, hk, hg, Hc, Hf⟩ := hrel
    have HG := Lib.hid hg; clear hg
    by_cases hlt : k < n
    · have e1 := Hc.out k (Nat.le_refl _) hlt
      have f1 := Hf.out k
      have e2 := HS.out k
      unfold textV at e1
      generalize xs.getD k [] = x at e1 e2
      have hxs : (ofL x).size = x.length := ofL_size x
      rw [← hxs] at e2
      clear hxs
      generalize ofL x = xa at *
      go_wp2_with fail
      go_roundw
      case rel =>
        refine ⟨k + 1, by go_num, by omega, grown_set HG.out _ _, Lib.hid (fun j hj hjn => ?_), Lib.hid (fun j => ?_)⟩
        · rw [World.cell?_setCell_other _ _ _ _ (by intro h; injection h with _ h2 _; omega)]
          exact Hc.out j (by omega) hjn
        · rw [World.frozen?_setCell]; exact Hf.out j
      case measure => simp [intOf]; omega
    · go_wp2_with fail
      go_end0
      exact ⟨rfl, HG.out⟩

end Jsx
end Go.Proofs.YtcalgpkcefccmaaDoor
