/-
  The document's own next part.
-/
import Derived.Test.YtddldddehgnobaaDoorStrRefEsg
import Derived.Test.YtddldddehgnobaaDoorStrRow
namespace Go.Proofs.YtddldddehgnobaaDoor
namespace Str
open Go.RowKit

/-- The byte behind a backslash that stands first; 0: none does. -/
def qL (l : List UInt8) : Int := if headV l = 92 then headV l.tail else 0

theorem qL_iff (p m : List UInt8) (v : Int) (hs : Shape p v) (n : UInt8) (hn : n = 39 ∨ n = 34) : qL (p ++ m) = n.toNat ↔ p = [92, n] := by
  have hn0 : (n.toNat : Int) = 39 ∨ (n.toNat : Int) = 34 := by rcases hn with rfl | rfl <;> simp
  unfold qL
  cases hs with
  | one x hx h2 =>
    have : ¬ headV ([x] ++ m) = 92 := fun e => hx (byte_of (n := 92) e (by decide))
    rw [if_neg this]
    constructor
    · intro h; omega
    · intro h; cases h
  | wide x t _ hx ht =>
    have : ¬ headV (x :: t ++ m) = 92 := by
      intro e
      have := byte_of (n := 92) e (by decide)
      rw [this] at hx; exact absurd hx (by decide)
    rw [if_neg this]
    constructor
    · intro h; omega
    · intro h; injection h with h _; rw [h] at hx; exact absurd hx (by decide)
  | esc y t _ ht hy hv =>
    have h92 : headV (92 :: y :: t ++ m) = 92 := rfl
    rw [if_pos h92]
    show (y.toNat : Int) = n.toNat ↔ _
    constructor
    · intro h
      have hyn : y = n := UInt8.toNat_inj.1 (by omega)
      subst hyn
      cases t with
      | nil => rfl
      | cons z t =>
        have := hy (by simp)
        rcases hn with rfl | rfl
        · exact absurd rfl this.2.1
        · exact absurd rfl this.1
    · intro h
      injection h with _ h; injection h with h _; rw [h]

/-- The function's own block: what it hands back. -/
structure RB (w0 W : World) : Prop where
  res : W.heap[w0.heap.size]? = some (.cells #[.int .i64 0, .int .i64 0, .slice none 0 0, .int .i64 0] 56)
  below : Below w0.heap.size w0 W
theorem RB.start (w : World) : RB w (w.alloc (.cells #[.int .i64 0, .int .i64 0, .slice none 0 0, .int .i64 0] 56)) :=
  ⟨by show (w.heap.push _)[w.heap.size]? = _; simp, (Below.refl _ _).alloc (Nat.le_refl _) _⟩
theorem RB.keep {w0 W W' : World} (h : RB w0 W) (hb : Below W.heap.size W W') : RB w0 W' := ⟨blk_keep h.res hb, h.below.trans (hb.mono h.below.size)⟩
theorem RB.a {w0 W : World} (h : RB w0 W) :
    W.cell? ⟨w0.heap.size, 0, none⟩ = some (.int .i64 0) ∧ W.cell? ⟨w0.heap.size, 1, none⟩ = some (.int .i64 0) ∧ W.cell? ⟨w0.heap.size, 2, none⟩ = some (.slice none 0 0) ∧ W.cell? ⟨w0.heap.size, 3, none⟩ = some (.int .i64 0) :=
  ⟨blk_cell h.res 0, blk_cell h.res 1, blk_cell h.res 2, blk_cell h.res 3⟩
theorem RB.fa {w0 W : World} (h : RB w0 W) (o : Nat) : W.frozen? ⟨w0.heap.size, o, none⟩ = false := blk_frozen h.res o
theorem RB.ex (w : World) : ∃ W, w.alloc (.cells #[.int .i64 0, .int .i64 0, .slice none 0 0, .int .i64 0] 56) = W ∧ RB w W := ⟨_, rfl, RB.start w⟩

set_option maxHeartbeats 4000000 in
set_option maxRecDepth 20000 in
theorem next_esc (s : ByteArray) (i : Nat) (w : World) (hz : s.size ≤ 16777216) (hi : i < s.size) (hc : s[i] = 92) :
    Calls Tryd.prog 27 #[.string s, .int .i64 i] w (PartAt i (partL (sufL s i)) (qL (sufL s i)) w) := by
  have hm : s.size ≤ maxLen := by unfold maxLen; omega
  have hh : headV (sufL s i) = 92 := by rw [headV_at s i hi, hc]; rfl
  have hC := fun W => resc_any s i W hz hi
  have e1 : partL (sufL s i) = ((escL (sufL s (i + 1))).1 + 1, (escL (sufL s (i + 1))).2) := by rw [part_esc _ hh, suf_tail s i hi]
  have e2 : qL (sufL s i) = headV (sufL s (i + 1)) := by unfold qL; rw [if_pos hh, suf_tail s i hi]
  rw [← e1, ← e2] at hC
  have HC := Lib.hid hC
  clear hC e1 e2 hh
  go_enter Tryd.func27, Tryd.ntmps27
  go_wp2_with fail
  obtain ⟨W, hW, hRB⟩ := RB.ex w
  rw [hW]
  have HRB := Lib.hid hRB
  clear hRB hW
  refine (HC.out _).mono ?_
  rintro e w2 ⟨b, n, c, ch, rfl, h1, h2⟩
  have H1 := Lib.hid h1
  have hR2 := HRB.out.keep h2
  have HR2 := Lib.hid hR2
  obtain ⟨a0, a1, a2, a3⟩ := hR2.a
  have fa := fun o => hR2.fa o
  clear h1 h2 hR2
  go_wp2_with fail
  refine bodyPost_ret (v := .tuple #[.agg #[.int .i64 i, .int .i64 ((i : Int) + ((partL (sufL s i)).1 : Int)), .slice b n c, .int .i64 ch], .bool (partL (sufL s i)).2.isSome]) ?_ rfl ⟨b, n, c, ch, agg_eq (by omega) rfl, ?_, ?_⟩
  · simp [results, Tryd.results27, go_sem, a0, a1, a2, a3]
  · intro val h
    obtain ⟨h3, h4⟩ := H1.out val h
    have nr := NotInt.of HR2.out.res (by decide)
    refine ⟨?_, h4⟩
    exact ints_sets nr nr h3 [(⟨w.heap.size, 0, none⟩, .int .i64 i), (⟨w.heap.size, 1, none⟩, .int .i64 ((i : Int) + ((partL (sufL s i)).1 : Int))), (⟨w.heap.size, 2, none⟩, .slice b n c), (⟨w.heap.size, 3, none⟩, .int .i64 ch)] (by simp)
  · exact (((HR2.out.below.setCell (by simp) _).setCell (by simp) _).setCell (by simp) _).setCell (by simp) _

set_option maxHeartbeats 4000000 in
set_option maxRecDepth 20000 in
theorem next_chr (s : ByteArray) (i : Nat) (w : World) (hz : s.size ≤ 16777216) (hi : i < s.size) (hc : s[i] ≠ 92) :
    Calls Tryd.prog 27 #[.string s, .int .i64 i] w (PartAt i (partL (sufL s i)) (qL (sufL s i)) w) := by
  have hm : s.size ≤ maxLen := by unfold maxLen; omega
  have g0 : (((s[i]'hi).toNat : Int) == 92) = false := beq_eq_false_iff_ne.2 (fun e => hc (byte_of (n := 92) e (by decide)))
  have HR := Lib.hid (fun W => rune_any s i W hz hi)
  have hq : qL (sufL s i) = 0 := by unfold qL; rw [if_neg (by rw [headV_at s i hi]; exact beq_eq_false_iff_ne.1 g0)]
  have HQ := Lib.hid hq
  have hrf := rune_first s i hi _ rfl
  have hpn : partL (sufL s i) = if (s[i]'hi).toNat = 10 ∨ (s[i]'hi).toNat = 13 then (0, none) else (lenL (sufL s i), if lenL (sufL s i) = 0 then none else some (runeL (sufL s i) : Int)) := by
    have hh := headV_at s i hi
    by_cases e : (s[i]'hi).toNat = 10 ∨ (s[i]'hi).toNat = 13
    · rw [if_pos e, part_nl _ (by rw [hh]; omega)]
    · rw [if_neg e, part_chr _ (by rw [hh]; exact beq_eq_false_iff_ne.1 g0) (by rw [hh]; omega) (by rw [hh]; omega)]; rfl
  have hrle := runeL_le (sufL s i)
  have hle := lenL_le (sufL s i)
  rw [suf_len] at hle
  have hle2 : i + lenL (sufL s i) ≤ s.size := by omega
  clear hc hq hle
  obtain ⟨L, hL⟩ : ∃ L, lenL (sufL s i) = L := ⟨_, rfl⟩
  obtain ⟨r, hr⟩ : ∃ r, runeL (sufL s i) = r := ⟨_, rfl⟩
  rw [hL, hr] at HR hpn hrle
  rw [hL, hr] at hrf
  rw [hL] at hle2
  clear hL hr
  by_cases h0 : L = 0
  · subst h0
    have HP : Hid (partL (sufL s i) = (0, none)) := Lib.hid (by rw [hpn]; split <;> rfl)
    simp only [if_true] at HR
    clear hpn hrf hrle
    go_enter Tryd.func27, Tryd.ntmps27
    go_wp2_with fail
    obtain ⟨W, hW, hRB⟩ := RB.ex w
    rw [hW]
    have HRB := Lib.hid hRB
    obtain ⟨a0, a1, a2, a3⟩ := hRB.a
    have fa := fun o => hRB.fa o
    clear hRB hW
    refine (HR.out _).mono ?_
    rintro e w2 ⟨rfl, rfl⟩
    go_wp2_with fail
    refine bodyPost_ret (v := .tuple #[.agg #[.int .i64 i, .int .i64 i, .slice none 0 0, .int .i64 0], .bool false]) ?_ rfl ⟨none, 0, 0, 0, ?_, ?_, ?_⟩
    · simp [results, Tryd.results27, go_sem, a0, a1, a2, a3]
    · rw [HP.out]; exact agg_eq (by simp) rfl
    · rw [HP.out]; intro val h; cases h
    · exact (((HRB.out.below.setCell (by simp) _).setCell (by simp) _).setCell (by simp) _).setCell (by simp) _
  rw [if_neg h0, if_neg h0] at HR
  rw [if_neg h0] at hpn
  have hr10 : r = 10 ↔ (s[i]'hi).toNat = 10 := hrf h0 10 (by decide)
  have hr13 : r = 13 ↔ (s[i]'hi).toNat = 13 := hrf h0 13 (by decide)
  have hrl := hrle h0
  clear hrf hrle
  by_cases h10 : r = 10 ∨ r = 13
  · have HP : Hid (partL (sufL s i) = (0, none)) := Lib.hid (by rw [hpn, if_pos (by omega)])
    clear hpn hr10 hr13
    rcases h10 with rfl | rfl
    all_goals
      go_enter Tryd.func27, Tryd.ntmps27
      go_wp2_with fail
      obtain ⟨W, hW, hRB⟩ := RB.ex w
      rw [hW]
      have HRB := Lib.hid hRB
      obtain ⟨a0, a1, a2, a3⟩ := hRB.a
      have fa := fun o => hRB.fa o
      clear hRB hW
      refine (HR.out _).mono ?_
      rintro e w2 ⟨rfl, rfl⟩
      go_wp2_with fail
      refine bodyPost_ret (v := .tuple #[.agg #[.int .i64 i, .int .i64 i, .slice none 0 0, .int .i64 0], .bool false]) ?_ rfl ⟨none, 0, 0, 0, ?_, ?_, ?_⟩
      · simp [results, Tryd.results27, go_sem, a0, a1, a2, a3]
      · rw [HP.out]; exact agg_eq (by simp) rfl
      · rw [HP.out]; intro val h; cases h
      · exact (((HRB.out.below.setCell (by simp) _).setCell (by simp) _).setCell (by simp) _).setCell (by simp) _
  · have HP : Hid (partL (sufL s i) = (L, some (r : Int))) := Lib.hid (by rw [hpn, if_neg (by omega)])
    have HU := Lib.hid (fun W => runits_any r W hrl)
    have e1 : ((r : Int) == 10) = false := beq_eq_false_iff_ne.2 (by omega)
    have e2 : ((r : Int) == 13) = false := beq_eq_false_iff_ne.2 (by omega)
    have e3 : ¬ (r : Int) < 0 := by omega
    clear hpn hr10 hr13 h10 h0
    go_enter Tryd.func27, Tryd.ntmps27
    go_wp2_with fail
    obtain ⟨W, hW, hRB⟩ := RB.ex w
    rw [hW]
    have HRB := Lib.hid hRB
    obtain ⟨a0, a1, a2, a3⟩ := hRB.a
    have fa := fun o => hRB.fa o
    clear hRB hW
    refine (HR.out _).mono ?_
    rintro e w2 ⟨rfl, rfl⟩
    go_wp2_with fail
    refine (HU.out _).mono ?_
    rintro e w3 ⟨g, n, rfl, hu, hb3⟩
    have hR3 := HRB.out.keep hb3
    have HR3 := Lib.hid hR3
    have HI := Lib.hid hu
    clear a0 a1 a2 a3 fa hu hb3
    obtain ⟨a0, a1, a2, a3⟩ := hR3.a
    have fa := fun o => hR3.fa o
    clear hR3
    go_wp2_with fail
    refine bodyPost_ret (v := .tuple #[.agg #[.int .i64 i, .int .i64 ((i : Int) + (L : Int)), .slice (some ⟨g, 0, none⟩) n n, .int .i64 0], .bool true]) ?_ rfl ⟨some ⟨g, 0, none⟩, n, n, 0, ?_, ?_, ?_⟩
    · simp [results, Tryd.results27, go_sem, a0, a1, a2, a3]
    · rw [HP.out]; exact agg_eq (by simp) rfl
    · rw [HP.out]
      intro val h
      obtain rfl : (r : Int) = val := by simpa using h
      rw [uOf_nat, HQ.out]
      have nr := NotInt.of HR3.out.res (by decide)
      refine ⟨?_, by decide, by decide⟩
      exact ints_sets nr nr HI.out [(⟨w.heap.size, 0, none⟩, .int .i64 i), (⟨w.heap.size, 1, none⟩, .int .i64 ((i : Int) + (L : Int))), (⟨w.heap.size, 2, none⟩, .slice (some ⟨g, 0, none⟩) n n), (⟨w.heap.size, 3, none⟩, .int .i64 0)] (by simp)
    · exact (((HR3.out.below.setCell (by simp) _).setCell (by simp) _).setCell (by simp) _).setCell (by simp) _

theorem next_any (s : ByteArray) (i : Nat) (w : World) (hz : s.size ≤ 16777216) (hi : i < s.size) :
    Calls Tryd.prog 27 #[.string s, .int .i64 i] w (PartAt i (partL (sufL s i)) (qL (sufL s i)) w) := by
  by_cases hc : s[i] = 92
  · exact next_esc s i w hz hi hc
  · exact next_chr s i w hz hi hc

end Str
end Go.Proofs.YtddldddehgnobaaDoor
