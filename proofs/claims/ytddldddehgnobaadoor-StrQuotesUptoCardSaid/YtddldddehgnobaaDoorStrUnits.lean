/-
  The contracts of str's appendUnits and Units.
-/
import Derived.Test.YtddldddehgnobaaDoorStrCheck
import Derived.Test.YtddldddehgnobaaDoorStrRow
import Derived.Test.YtddldddehgnobaaDoorStrRune
import Derived.Laws.OwnMore
import Derived.WalkSmall
import Derived.Maps.AppendAt
namespace Go.Proofs.YtddldddehgnobaaDoor
namespace Str
open Go.RowKit

theorem run_boundU : ∀ n v l x, (runL n v l).2 = some x → x < (v + 1) * 16 ^ n
  | 0, v, l, x, h => by simp [runL] at h; omega
  | n + 1, v, [], x, h => by simp [runL] at h
  | n + 1, v, y :: l, x, h => by
    rw [runL] at h
    split at h
    · simp at h
    · have hb := hexV_range (y.toNat : Int)
      have := run_boundU n _ l x h
      have h2 : (v * 16 + (hexV (y.toNat : Int)).toNat + 1) * 16 ^ n ≤ ((v + 1) * 16) * 16 ^ n := Nat.mul_le_mul_right _ (by omega)
      rw [Nat.pow_succ, Nat.mul_comm (16 ^ n) 16, ← Nat.mul_assoc]
      omega
theorem bra_boundU : ∀ f v l x, (braL f v l).2 = some x → x ≤ 1114111
  | f, v, [], x, h => by simp [braL] at h
  | f, v, y :: l, x, h => by
    rw [braL] at h
    split at h
    · exact bra_boundU _ _ l x h
    · split at h
      · rename_i e; simp at h; omega
      · simp at h
theorem int_info : (Tryd.prog.info? 3).map (fun i => (i.zero, i.size, i.bytes)) = some (some (.int .i64 0), 1, 8) := by kernel_rfl
theorem grown_alloc {w w' : World} {o : Obj} {row : Option Nat} (h : (w.alloc o).grownBy w' row) : w.grownBy w' row :=
  ⟨h.os, h.tape, h.output, Nat.le_trans (by simp) h.size, fun k hk hne => (h.block k (by simp; omega) hne).trans (Below.heap_alloc _ _ _ hk)⟩
theorem or_add (a b k : Nat) (hb : b < 2 ^ k) (ha : a % 2 ^ k = 0) : a ||| b = a + b := by
  obtain ⟨c, rfl⟩ : ∃ c, a = c * 2 ^ k := ⟨a / 2 ^ k, by have := Nat.div_add_mod a (2 ^ k); rw [ha, Nat.add_zero, Nat.mul_comm] at this; exact this.symm⟩
  rw [← Nat.shiftLeft_eq, Nat.shiftLeft_add_eq_or_of_lt hb]

set_option maxHeartbeats 2000000 in
set_option maxRecDepth 20000 in
theorem append_none (B : Nat) (v : Value) (us : List Int) (w : World) (_h : w.ownsRow B 3 1 v us.length (us.map (Value.int .i64))) :
    Calls Tryd.prog 23 #[v, .int .i64 (-1)] w fun e w' => e = .returned v ∧ w = w' := by
  go_enter Tryd.func23, Tryd.ntmps23
  go_wp2_with fail
  go_ret
  exact ⟨rfl, rfl⟩

set_option maxHeartbeats 2000000 in
set_option maxRecDepth 20000 in
theorem append_one (B : Nat) (v : Value) (us : List Int) (x : Nat) (w : World) (h : w.ownsRow B 3 1 v us.length (us.map (Value.int .i64))) (hx : x ≤ 65535) (hB : B ≤ w.heap.size) (hlen : us.length ≤ 67108864) :
    Calls Tryd.prog 23 #[v, .int .i64 x] w fun e w' => ∃ v', e = .returned v' ∧ w'.ownsRow B 3 1 v' (us ++ [(x : Int)]).length ((us ++ [(x : Int)]).map (Value.int .i64)) ∧ w.grownBy w' v.ownBlock := by
  have H := Lib.hid h; clear h
  have g1 : ((x : Int) == -1) = false := beq_eq_false_iff_ne.2 (by omega)
  have g2 : ¬ (65535 : Int) < (x : Int) := by omega
  go_enter Tryd.func23, Tryd.ntmps23
  obtain ⟨i0, hi, hz0, hz1, hz2⟩ := info_parts int_info
  go_wp2_with (first
    | (at_builtin; refine wpList_append_own _ rfl _ _ 30 rfl B 3 i0 (.int .i64 0) 1 8 Tryd.underlying30 hi hz0 hz1 hz2 rfl (by decide) _ us.length (us.map (Value.int .i64)) rfl (H.out.alloc _) ⟨w.heap.size, 0, none⟩ 1 1 [.int .i64 x] rfl rfl (cell_one_new _ _ _) (fun x hx => by simp at hx; subst hx; rfl) (by unfold maxLen; omega) (by omega) (by simp; omega) ?_; intro v' w3 hown' hgrow3 hnil3))
  go_ret
  exact ⟨_, rfl, hown', grown_alloc hgrow3⟩

/-- What a part stands for, above the first plane. -/
theorem wide_bits (x : Nat) (h1 : 65535 < x) (h2 : x ≤ 1114111) :
    bits .or .i64 55296 (((x : Int) - 65536) / 1024) = 55296 + ((x : Int) - 65536) / 1024 ∧ bits .or .i64 56320 (bits .and .i64 ((x : Int) - 65536) 1023) = 56320 + ((x : Int) - 65536) % 1024 := by
  obtain ⟨y, rfl⟩ : ∃ y, x = y + 65536 := ⟨x - 65536, by omega⟩
  have e : ((y + 65536 : Nat) : Int) - 65536 = (y : Int) := by omega
  rw [e]
  constructor
  · rw [show (55296 : Int) = ((55296 : Nat) : Int) from rfl, show (y : Int) / 1024 = ((y / 1024 : Nat) : Int) by omega, Uni.i64_or_nat _ _ (by decide) (by omega), or_add 55296 _ 10 (by omega) (by decide)]
    omega
  · have h3 : y &&& 1023 = y % 1024 := by
      have := Nat.and_two_pow_sub_one_eq_mod y 10
      simpa using this
    rw [show (1023 : Int) = ((1023 : Nat) : Int) from rfl, Uni.i64_and_nat _ _ (by omega) (by decide), h3, show (56320 : Int) = ((56320 : Nat) : Int) from rfl, Uni.i64_or_nat _ _ (by decide) (by omega), or_add 56320 _ 10 (by omega) (by decide)]
    omega

set_option maxHeartbeats 2000000 in
set_option maxRecDepth 20000 in
theorem append_two (B : Nat) (v : Value) (us : List Int) (x : Nat) (w : World) (h : w.ownsRow B 3 1 v us.length (us.map (Value.int .i64))) (hx : 65535 < x) (hx2 : x ≤ 1114111) (hB : B ≤ w.heap.size) (hlen : us.length ≤ 67108864) :
    Calls Tryd.prog 23 #[v, .int .i64 x] w fun e w' => ∃ v', e = .returned v' ∧ w'.ownsRow B 3 1 v' (us ++ unitsL x).length ((us ++ unitsL x).map (Value.int .i64)) ∧ w.grownBy w' v.ownBlock := by
  have H := Lib.hid h; clear h
  have g1 : ((x : Int) == -1) = false := beq_eq_false_iff_ne.2 (by omega)
  have g2 : (65535 : Int) < (x : Int) := by omega
  have HW := Lib.hid (wide_bits x hx hx2)
  obtain ⟨i0, hi, hz0, hz1, hz2⟩ := info_parts int_info
  go_enter Tryd.func23, Tryd.ntmps23
  go_wp2_with (first
    | (at_builtin; refine wpList_append_own _ rfl _ _ 30 rfl B 3 i0 (.int .i64 0) 1 8 Tryd.underlying30 hi hz0 hz1 hz2 rfl (by decide) _ us.length (us.map (Value.int .i64)) rfl (H.out.alloc _) ⟨w.heap.size, 0, none⟩ 2 2 [.int .i64 _, .int .i64 _] rfl rfl (cell_two_new _ _ _ _) (fun x hx => by simp at hx; rcases hx with rfl | rfl <;> rfl) (by unfold maxLen; omega) (by omega) (by simp; omega) ?_; intro v' w3 hown' hgrow3 hnil3))
  go_ret
  rw [HW.out.1, HW.out.2] at hown'
  have hU : unitsL x = [55296 + ((x : Int) - 65536) / 1024, 56320 + ((x : Int) - 65536) % 1024] := by unfold unitsL; rw [if_pos g2]
  rw [hU]
  exact ⟨_, rfl, by rw [List.length_append, List.map_append]; exact hown', grown_alloc hgrow3⟩

/-- The units so far, and those of a part more. -/
theorem append_any (B : Nat) (v : Value) (us : List Int) (x : Int) (w : World) (h : w.ownsRow B 3 1 v us.length (us.map (Value.int .i64))) (hx : x = -1 ∨ (0 ≤ x ∧ x ≤ 1114111)) (hB : B ≤ w.heap.size) (hlen : us.length ≤ 67108864) :
    Calls Tryd.prog 23 #[v, .int .i64 x] w fun e w' => ∃ v', e = .returned v' ∧ w'.ownsRow B 3 1 v' (us ++ uOf x).length ((us ++ uOf x).map (Value.int .i64)) ∧ w.grownBy w' v.ownBlock := by
  rcases hx with rfl | ⟨h0, h1⟩
  · refine (append_none B v us w h).mono ?_
    rintro e w' ⟨rfl, rfl⟩
    have hU : us ++ uOf (-1) = us := by unfold uOf; rw [if_pos rfl, List.append_nil]
    rw [hU]
    exact ⟨v, rfl, h, ⟨rfl, rfl, rfl, Nat.le_refl _, fun _ _ _ => rfl⟩⟩
  · obtain ⟨n, rfl⟩ : ∃ n : Nat, x = n := ⟨x.toNat, by omega⟩
    have hU : uOf (n : Int) = unitsL n := by unfold uOf; rw [if_neg (by omega)]
    rw [hU]
    by_cases hs : n ≤ 65535
    · have hU2 : unitsL (n : Int) = [(n : Int)] := by unfold unitsL; rw [if_neg (by omega)]
      rw [hU2]
      exact append_one B v us n w h hs hB hlen
    · exact append_two B v us n w h (by omega) (by omega) hB hlen

end Str
end Go.Proofs.YtddldddehgnobaaDoor
