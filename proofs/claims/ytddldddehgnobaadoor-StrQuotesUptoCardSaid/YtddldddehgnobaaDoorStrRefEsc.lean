/-
  The document's own escape: what stands behind a backslash.
-/
import Derived.Test.YtddldddehgnobaaDoorStrRef
import Derived.Test.YtddldddehgnobaaDoorStrRune
import Derived.Test.YtddldddehgnobaaDoorStrEscape
namespace Go.Proofs.YtddldddehgnobaaDoor
namespace Str
open Go.RowKit

/-- A part that is handed back: from i on so many bytes; its units; the character that is escaped plainly, of which no more is said than whether it is a quote. -/
def PartAt (i : Nat) (r : Nat × Option Int) (C : Int) (w : World) (e : Ending) (w' : World) : Prop :=
  ∃ (b : Option Addr) (n c : Nat) (ch : Int), e = .returned (.tuple #[.agg #[.int .i64 i, .int .i64 ((i + r.1 : Nat) : Int), .slice b n c, .int .i64 ch], .bool r.2.isSome]) ∧
    (∀ val, r.2 = some val → IntsAt w' (.slice b n c) (uOf val) ∧ (ch = 39 ↔ C = 39) ∧ (ch = 34 ↔ C = 34)) ∧ Below w.heap.size w w'

theorem run_bound : ∀ n v l x, (runL n v l).2 = some x → x < (v + 1) * 16 ^ n
  | 0, v, l, x, h => by simp [runL] at h; omega
  | n + 1, v, [], x, h => by simp [runL] at h
  | n + 1, v, y :: l, x, h => by
    rw [runL] at h
    split at h
    · simp at h
    · have hb := hexV_range (y.toNat : Int)
      have := run_bound n _ l x h
      have h2 : (v * 16 + (hexV (y.toNat : Int)).toNat + 1) * 16 ^ n ≤ ((v + 1) * 16) * 16 ^ n := Nat.mul_le_mul_right _ (by omega)
      rw [Nat.pow_succ, Nat.mul_comm (16 ^ n) 16, ← Nat.mul_assoc]
      omega
theorem bra_bound : ∀ f v l x, (braL f v l).2 = some x → x ≤ 1114111
  | f, v, [], x, h => by simp [braL] at h
  | f, v, y :: l, x, h => by
    rw [braL] at h
    split at h
    · exact bra_bound _ _ l x h
    · split at h
      · rename_i e; simp at h; omega
      · simp at h
theorem uOf_small (x : Nat) (h : x ≤ 65535) : uOf (x : Int) = [(x : Int)] := by
  unfold uOf unitsL
  rw [if_neg (by omega), if_neg (by omega)]
theorem uOf_nat (x : Nat) : uOf (x : Int) = unitsL x := by
  unfold uOf
  rw [if_neg (by omega)]
theorem quotes0 (C : Int) (h1 : C ≠ 39) (h2 : C ≠ 34) : ((0 : Int) = 39 ↔ C = 39) ∧ ((0 : Int) = 34 ↔ C = 34) :=
  ⟨⟨fun h => absurd h (by decide), fun h => absurd h h1⟩, ⟨fun h => absurd h (by decide), fun h => absurd h h2⟩⟩

theorem agg_eq {i : Nat} {t t' : Int} {v : Value} {ch : Int} {b b' : Bool} (h : t = t') (h2 : b = b') :
    Ending.returned (.tuple #[.agg #[.int .i64 i, .int .i64 t, v, .int .i64 ch], .bool b]) = .returned (.tuple #[.agg #[.int .i64 i, .int .i64 t', v, .int .i64 ch], .bool b']) := by rw [h, h2]

set_option maxHeartbeats 8000000 in
set_option maxRecDepth 20000 in
theorem resc_x (s : ByteArray) (i : Nat) (w : World) (hz : s.size ≤ 16777216) (hlt : i + 1 < s.size) (hc : (s[i + 1]'hlt).toNat = 120) :
    Calls Tryd.prog 32 #[.string s, .int .i64 i] w (PartAt i ((escL (sufL s (i + 1))).1 + 1, (escL (sufL s (i + 1))).2) (headV (sufL s (i + 1))) w) := by
  have hm : s.size ≤ maxLen := by unfold maxLen; omega
  have hh := headV_at s (i + 1) hlt
  rw [hc] at hh
  have Ex : Hid (escL (sufL s (i + 1)) = ahead 1 (runL 2 0 (sufL s (i + 2)))) := Lib.hid (by rw [esc_x _ (by rw [hh]; rfl), suf_tail s (i + 1) hlt])
  have HQ : Hid (((0 : Int) = 39 ↔ headV (sufL s (i + 1)) = 39) ∧ ((0 : Int) = 34 ↔ headV (sufL s (i + 1)) = 34)) := Lib.hid (quotes0 _ (by rw [hh]; decide) (by rw [hh]; decide))
  have HD := Lib.hid (fun W => rdigits_any s (i + 2) 2 W hz (by omega) (by omega))
  have HX := Lib.hid (run_bound 2 0 (sufL s (i + 2)))
  clear hh
  go_enter Tryd.func32, Tryd.ntmps32
  go_wp2_with fail
  refine (HD.out _).mono ?_
  rintro e w2 ⟨rfl, rfl⟩
  obtain ⟨R, hR⟩ : ∃ R, runL 2 0 (sufL s (i + 2)) = R := ⟨_, rfl⟩
  rw [hR] at Ex HX ⊢
  clear hR
  obtain ⟨k, o⟩ := R
  unfold numAt
  cases o with
  | none =>
    go_wp2_with fail
    refine bodyPost_ret (v := .tuple #[.agg #[.int .i64 i, .int .i64 ((i : Int) + 2 + (k : Int)), .slice (some ⟨w.heap.size + 1 + 1, 0, none⟩) 1 1, .int .i64 0], .bool false]) ?_ rfl ⟨some ⟨w.heap.size + 1 + 1, 0, none⟩, 1, 1, 0, ?_, ?_, ?_⟩
    · simp [results, Tryd.results32, go_sem]
    · rw [Ex.out]; exact agg_eq (by simp [ahead]; omega) rfl
    · rw [Ex.out]; intro val h; cases h
    · exact (((Below.refl _ _).alloc (Nat.le_refl _) _).alloc (by simp) _).alloc (by simp; omega) _
  | some x =>
    have hx := HX.out x rfl
    have hx2 : x ≤ 255 := by omega
    go_wp2_with fail
    refine bodyPost_ret (v := .tuple #[.agg #[.int .i64 i, .int .i64 ((i : Int) + 2 + (k : Int)), .slice (some ⟨w.heap.size + 1 + 1, 0, none⟩) 1 1, .int .i64 0], .bool true]) ?_ rfl ⟨some ⟨w.heap.size + 1 + 1, 0, none⟩, 1, 1, 0, ?_, ?_, ?_⟩
    · simp [results, Tryd.results32, go_sem]
    · rw [Ex.out]; exact agg_eq (by simp [ahead]; omega) rfl
    · rw [Ex.out]; intro val h
      obtain rfl : (x : Int) = val := by simpa [ahead] using h
      rw [uOf_small x (by omega)]
      exact ⟨ints_new _ [(x : Int)] _ (by simp), HQ.out⟩
    · exact (((Below.refl _ _).alloc (Nat.le_refl _) _).alloc (by simp) _).alloc (by simp; omega) _

set_option maxHeartbeats 8000000 in
set_option maxRecDepth 20000 in
theorem resc_u (s : ByteArray) (i : Nat) (w : World) (hz : s.size ≤ 16777216) (hlt : i + 1 < s.size) (hc : (s[i + 1]'hlt).toNat = 117) (hnb : headV (sufL s (i + 2)) ≠ 123) :
    Calls Tryd.prog 32 #[.string s, .int .i64 i] w (PartAt i ((escL (sufL s (i + 1))).1 + 1, (escL (sufL s (i + 1))).2) (headV (sufL s (i + 1))) w) := by
  have hm : s.size ≤ maxLen := by unfold maxLen; omega
  have hh := headV_at s (i + 1) hlt
  rw [hc] at hh
  have Ex : Hid (escL (sufL s (i + 1)) = ahead 1 (runL 4 0 (sufL s (i + 2)))) := Lib.hid (by rw [esc_u _ (by rw [hh]; rfl) (by rw [suf_tail s (i + 1) hlt]; exact hnb), suf_tail s (i + 1) hlt])
  have HQ : Hid (((0 : Int) = 39 ↔ headV (sufL s (i + 1)) = 39) ∧ ((0 : Int) = 34 ↔ headV (sufL s (i + 1)) = 34)) := Lib.hid (quotes0 _ (by rw [hh]; decide) (by rw [hh]; decide))
  have HD := Lib.hid (fun W => rdigits_any s (i + 2) 4 W hz (by omega) (by omega))
  have HX := Lib.hid (run_bound 4 0 (sufL s (i + 2)))
  have HA2 := Lib.hid (fun h => headV_at s (i + 2) h)
  have HN := Lib.hid hnb
  clear hh hnb
  by_cases h2 : i + 2 < s.size
  · have hne : (((s[i + 2]'h2).toNat : Int) == 123) = false := beq_eq_false_iff_ne.2 (by rw [← HA2.out h2]; exact HN.out)
    clear HA2
    go_enter Tryd.func32, Tryd.ntmps32
    go_wp2_with fail
    refine (HD.out _).mono ?_
    rintro e w2 ⟨rfl, rfl⟩
    obtain ⟨R, hR⟩ : ∃ R, runL 4 0 (sufL s (i + 2)) = R := ⟨_, rfl⟩
    rw [hR] at Ex HX ⊢
    clear hR
    obtain ⟨k, o⟩ := R
    unfold numAt
    cases o with
    | none =>
      go_wp2_with fail
      refine bodyPost_ret (v := .tuple #[.agg #[.int .i64 i, .int .i64 ((i : Int) + 2 + (k : Int)), .slice (some ⟨w.heap.size + 1 + 1, 0, none⟩) 1 1, .int .i64 0], .bool false]) ?_ rfl ⟨some ⟨w.heap.size + 1 + 1, 0, none⟩, 1, 1, 0, ?_, ?_, ?_⟩
      · simp [results, Tryd.results32, go_sem]
      · rw [Ex.out]; exact agg_eq (by simp [ahead]; omega) rfl
      · rw [Ex.out]; intro val h; cases h
      · exact (((Below.refl _ _).alloc (Nat.le_refl _) _).alloc (by simp) _).alloc (by simp; omega) _
    | some x =>
      have hx := HX.out x rfl
      have hx2 : x ≤ 65535 := by omega
      go_wp2_with fail
      refine bodyPost_ret (v := .tuple #[.agg #[.int .i64 i, .int .i64 ((i : Int) + 2 + (k : Int)), .slice (some ⟨w.heap.size + 1 + 1, 0, none⟩) 1 1, .int .i64 0], .bool true]) ?_ rfl ⟨some ⟨w.heap.size + 1 + 1, 0, none⟩, 1, 1, 0, ?_, ?_, ?_⟩
      · simp [results, Tryd.results32, go_sem]
      · rw [Ex.out]; exact agg_eq (by simp [ahead]; omega) rfl
      · rw [Ex.out]; intro val h
        obtain rfl : (x : Int) = val := by simpa [ahead] using h
        rw [uOf_small x (by omega)]
        exact ⟨ints_new _ [(x : Int)] _ (by simp), HQ.out⟩
      · exact (((Below.refl _ _).alloc (Nat.le_refl _) _).alloc (by simp) _).alloc (by simp; omega) _
  · go_enter Tryd.func32, Tryd.ntmps32
    go_wp2_with fail
    refine (HD.out _).mono ?_
    rintro e w2 ⟨rfl, rfl⟩
    obtain ⟨R, hR⟩ : ∃ R, runL 4 0 (sufL s (i + 2)) = R := ⟨_, rfl⟩
    rw [hR] at Ex HX ⊢
    clear hR
    obtain ⟨k, o⟩ := R
    unfold numAt
    cases o with
    | none =>
      go_wp2_with fail
      refine bodyPost_ret (v := .tuple #[.agg #[.int .i64 i, .int .i64 ((i : Int) + 2 + (k : Int)), .slice (some ⟨w.heap.size + 1 + 1, 0, none⟩) 1 1, .int .i64 0], .bool false]) ?_ rfl ⟨some ⟨w.heap.size + 1 + 1, 0, none⟩, 1, 1, 0, ?_, ?_, ?_⟩
      · simp [results, Tryd.results32, go_sem]
      · rw [Ex.out]; exact agg_eq (by simp [ahead]; omega) rfl
      · rw [Ex.out]; intro val h; cases h
      · exact (((Below.refl _ _).alloc (Nat.le_refl _) _).alloc (by simp) _).alloc (by simp; omega) _
    | some x =>
      have hx := HX.out x rfl
      have hx2 : x ≤ 65535 := by omega
      go_wp2_with fail
      refine bodyPost_ret (v := .tuple #[.agg #[.int .i64 i, .int .i64 ((i : Int) + 2 + (k : Int)), .slice (some ⟨w.heap.size + 1 + 1, 0, none⟩) 1 1, .int .i64 0], .bool true]) ?_ rfl ⟨some ⟨w.heap.size + 1 + 1, 0, none⟩, 1, 1, 0, ?_, ?_, ?_⟩
      · simp [results, Tryd.results32, go_sem]
      · rw [Ex.out]; exact agg_eq (by simp [ahead]; omega) rfl
      · rw [Ex.out]; intro val h
        obtain rfl : (x : Int) = val := by simpa [ahead] using h
        rw [uOf_small x (by omega)]
        exact ⟨ints_new _ [(x : Int)] _ (by simp), HQ.out⟩
      · exact (((Below.refl _ _).alloc (Nat.le_refl _) _).alloc (by simp) _).alloc (by simp; omega) _

set_option maxHeartbeats 8000000 in
set_option maxRecDepth 20000 in
theorem resc_ub (s : ByteArray) (i : Nat) (w : World) (hz : s.size ≤ 16777216) (hlt : i + 1 < s.size) (hc : (s[i + 1]'hlt).toNat = 117) (h2 : i + 2 < s.size) (hb : (s[i + 2]'h2).toNat = 123) :
    Calls Tryd.prog 32 #[.string s, .int .i64 i] w (PartAt i ((escL (sufL s (i + 1))).1 + 1, (escL (sufL s (i + 1))).2) (headV (sufL s (i + 1))) w) := by
  have hm : s.size ≤ maxLen := by unfold maxLen; omega
  have hh := headV_at s (i + 1) hlt
  rw [hc] at hh
  have hh2 := headV_at s (i + 2) h2
  rw [hb] at hh2
  have Ex : Hid (escL (sufL s (i + 1)) = ahead 2 (braL true 0 (sufL s (i + 3)))) := Lib.hid (by rw [esc_ub _ (by rw [hh]; rfl) (by rw [suf_tail s (i + 1) hlt]; exact hh2), suf_tail s (i + 1) hlt, suf_tail s (i + 1 + 1) h2])
  have HQ : Hid (((0 : Int) = 39 ↔ headV (sufL s (i + 1)) = 39) ∧ ((0 : Int) = 34 ↔ headV (sufL s (i + 1)) = 34)) := Lib.hid (quotes0 _ (by rw [hh]; decide) (by rw [hh]; decide))
  have HD := Lib.hid (fun W => rbraced_any s (i + 3) W hz (by omega))
  have HX := Lib.hid (bra_bound true 0 (sufL s (i + 3)))
  clear hh hh2
  go_enter Tryd.func32, Tryd.ntmps32
  go_wp2_with fail
  refine (HD.out _).mono ?_
  rintro e w2 ⟨rfl, rfl⟩
  obtain ⟨R, hR⟩ : ∃ R, braL true 0 (sufL s (i + 3)) = R := ⟨_, rfl⟩
  rw [hR] at Ex HX ⊢
  clear hR
  obtain ⟨k, o⟩ := R
  unfold numAt
  cases o with
  | none =>
    go_wp2_with fail
    refine bodyPost_ret (v := .tuple #[.agg #[.int .i64 i, .int .i64 ((i : Int) + 3 + (k : Int)), .slice none 0 0, .int .i64 0], .bool false]) ?_ rfl ⟨none, 0, 0, 0, ?_, ?_, ?_⟩
    · simp [results, Tryd.results32, go_sem]
    · rw [Ex.out]; exact agg_eq (by simp [ahead]; omega) rfl
    · rw [Ex.out]; intro val h; cases h
    · exact ((Below.refl _ _).alloc (Nat.le_refl _) _).alloc (by simp) _
  | some x =>
    have hx := HX.out x rfl
    have HU := Lib.hid (fun W => runits_any x W hx)
    go_wp2_with fail
    obtain ⟨W2, hW2⟩ : ∃ W2, (w.alloc (.cells #[.int .i64 0, .int .i64 0, .slice none 0 0, .int .i64 0] 56)).alloc (.cells #[.int .i64 i, .int .i64 ((i : Int) + 3 + (k : Int)), .slice none 0 0, .int .i64 0] 56) = W2 := ⟨_, rfl⟩
    have ha := blk_a w (.cells #[.int .i64 0, .int .i64 0, .slice none 0 0, .int .i64 0] 56) (.cells #[.int .i64 i, .int .i64 ((i : Int) + 3 + (k : Int)), .slice none 0 0, .int .i64 0] 56)
    have hb := blk_b w (.cells #[.int .i64 0, .int .i64 0, .slice none 0 0, .int .i64 0] 56) (.cells #[.int .i64 i, .int .i64 ((i : Int) + 3 + (k : Int)), .slice none 0 0, .int .i64 0] 56)
    have hbw : Below w.heap.size w W2 := by rw [← hW2]; exact ((Below.refl _ _).alloc (Nat.le_refl _) _).alloc (by simp) _
    rw [hW2] at ha hb ⊢
    clear hW2
    refine (HU.out _).mono ?_
    rintro e w3 ⟨g, n, rfl, hu, hb3⟩
    have ha3 := blk_keep ha hb3
    have hb3' := blk_keep hb hb3
    have HA := Lib.hid ha3
    have HB := Lib.hid hb3'
    have HI := Lib.hid hu
    have HW3 : Hid (Below w.heap.size w w3) := Lib.hid (hbw.trans (hb3.mono hbw.size))
    clear hbw ha hb hu hb3
    have a0 := blk_cell HA.out 0
    have a1 := blk_cell HA.out 1
    have a2 := blk_cell HA.out 2
    have a3 := blk_cell HA.out 3
    have b0 := blk_cell HB.out 0
    have b1 := blk_cell HB.out 1
    have b2 := blk_cell HB.out 2
    have b3 := blk_cell HB.out 3
    have fa := fun o => blk_frozen HA.out o
    have fb := fun o => blk_frozen HB.out o
    clear ha3 hb3'
    simp at a0 a1 a2 a3 b0 b1 b2 b3
    go_wp2_with fail
    refine bodyPost_ret (v := .tuple #[.agg #[.int .i64 i, .int .i64 ((i : Int) + 3 + (k : Int)), .slice (some ⟨g, 0, none⟩) n n, .int .i64 0], .bool true]) ?_ rfl ⟨some ⟨g, 0, none⟩, n, n, 0, ?_, ?_, ?_⟩
    · simp [results, Tryd.results32, go_sem, a0, a1, a2, a3]
    · rw [Ex.out]; exact agg_eq (by simp [ahead]; omega) rfl
    · rw [Ex.out]; intro val h
      obtain rfl : (x : Int) = val := by simpa [ahead] using h
      rw [uOf_nat]
      refine ⟨?_, HQ.out⟩
      exact ints_sets (NotInt.of HA.out (by decide)) (NotInt.of HB.out (by decide)) HI.out
        [(⟨w.heap.size + 1, 2, none⟩, .slice (some ⟨g, 0, none⟩) n n), (⟨w.heap.size, 0, none⟩, .int .i64 i), (⟨w.heap.size, 1, none⟩, .int .i64 ((i : Int) + 3 + (k : Int))), (⟨w.heap.size, 2, none⟩, .slice (some ⟨g, 0, none⟩) n n), (⟨w.heap.size, 3, none⟩, .int .i64 0)]
        (by simp)
    · exact ((((HW3.out.setCell (by simp) _).setCell (by simp) _).setCell (by simp) _).setCell (by simp) _).setCell (by simp) _

end Str
end Go.Proofs.YtddldddehgnobaaDoor
