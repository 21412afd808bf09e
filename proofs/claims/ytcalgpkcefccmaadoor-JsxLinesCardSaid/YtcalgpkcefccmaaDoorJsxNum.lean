/-
  The program's entities with numbers.
-/
import Derived.Test.YtcalgpkcefccmaaDoorJsxDig
namespace Go.Proofs.YtcalgpkcefccmaaDoor
namespace Jsx
open Go.RowKit

theorem drop_at (s : ByteArray) (k : Nat) (h : k < s.size) : s.data.toList.drop k = s[k] :: s.data.toList.drop (k + 1) := by
  rw [List.drop_eq_getElem_cons (by rw [list_size]; exact h)]; rfl
/-- What the reader of a number answers. -/
def numR (first : Nat) : Option (Nat × Nat) → Value
  | some x => .tuple #[.int .i32 x.1, .int .i64 (first + x.2 : Nat)]
  | none => .tuple #[.int .i32 0, .int .i64 0]
theorem ret_pair {a b c d : Int} (h1 : a = b) (h2 : c = d) : Ending.returned (.tuple #[.int .i32 a, .int .i64 c]) = .returned (.tuple #[.int .i32 b, .int .i64 d]) := by rw [h1, h2]
theorem cap_min (n : Nat) : min (n : Int) 1114112 = (capN n : Int) := by unfold capN; split <;> omega

set_option maxRecDepth 20000 in
set_option maxHeartbeats 2000000 in
theorem numd_hex (s : ByteArray) (w : World) (h0 : 3 ≤ s.size) (hs : s.size ≤ 140737488355328) :
    Calls Tryd.prog 40 #[.string s, .int .i64 3, .func (.func 41) #[] #[]] w fun e w' => e = .returned (numR 3 (numF true 0 0 (s.data.toList.drop 3))) ∧ w = w' := by
  go_enter Tryd.func40, Tryd.ntmps40
  go_wp2_with fail
  go_loop [8, 9] (fun v i => ∃ a k : Nat, v = .int .u32 a ∧ i = .int .i64 k ∧ a ≤ 1114112 ∧ 3 ≤ k ∧ k ≤ s.size ∧ Hid (numF true 0 0 (s.data.toList.drop 3) = numF true a (k - 3) (s.data.toList.drop k))) (fun _ i => s.size - (intOf i).toNat)
  case atStart => exact ⟨0, 3, rfl, rfl, by omega, by omega, h0, Lib.hid rfl⟩
  case round =>
    obtain ⟨a, k, rfl, rfl, ha, hk, hks, Hs⟩ := hrel
    by_cases hlt : k < s.size
    · have Hd := Lib.hid (drop_at s k hlt)
      go_wp2_with fail
      refine (hex_any a ha (s[k]'hlt) _).mono ?_
      rintro e w1 ⟨rfl, rfl⟩
      cases hg : digH true (s[k]'hlt) with
      | some d =>
        have Hb : Hid (growB true (s[k]'hlt) = true) := Lib.hid (by rw [growB, hg]; rfl)
        have Hf : Hid (numF true 0 0 (s.data.toList.drop 3) = numF true (capN (growV true a (s[k]'hlt))) (k + 1 - 3) (s.data.toList.drop (k + 1))) := Lib.hid (by
          rw [Hs.out, Hd.out, numF, hg, show k + 1 - 3 = k - 3 + 1 by omega, growV, hg]; rfl)
        clear hg
        rw [Hb.out]
        have hc := Lib.hid (capN_le (growV true a (s[k]'hlt)))
        have Hm := Lib.hid (cap_min (growV true a (s[k]'hlt)))
        generalize growV true a (s[k]'hlt) = g at *
        go_wp2_with fail
        go_round
        case rel => exact ⟨capN g, k + 1, by rw [Hm.out], by go_num, hc.out, by omega, by omega, Hf.out |> Lib.hid⟩
        case measure => simp [intOf]; omega
      | none =>
        have Hb : Hid (growB true (s[k]'hlt) = false) := Lib.hid (by rw [growB, hg]; rfl)
        rw [Hb.out]
        by_cases hq : (s[k]'hlt) = 59 ∧ 3 < k
        · have Hf : Hid (numF true 0 0 (s.data.toList.drop 3) = some (a, k - 3 + 1)) := Lib.hid (by
            rw [Hs.out, Hd.out, numF, hg]; exact if_pos ⟨hq.1, by omega⟩)
          have hq1 : ((s[k]'hlt).toNat : Int) = 59 := by rw [hq.1]; rfl
          have hq2 := hq.2
          clear hg hq
          go_wp2_with fail
          go_ret2
          exact ⟨by rw [Hf.out]; exact ret_pair rfl (by omega), rfl⟩
        · have Hf : Hid (numF true 0 0 (s.data.toList.drop 3) = none) := Lib.hid (by
            rw [Hs.out, Hd.out, numF, hg]; exact if_neg (fun h => hq ⟨h.1, by omega⟩))
          by_cases hq1 : (s[k]'hlt) = 59
          · have hq2 : k = 3 := by have : ¬ 3 < k := fun h => hq ⟨hq1, h⟩; omega
            have hq3 : ((s[k]'hlt).toNat : Int) = 59 := by rw [hq1]; rfl
            clear hg hq hq1
            have hq4 : ¬ ((k : Int) > 3) := by omega
            clear hq2
            go_wp2_with fail
            go_ret2
            exact ⟨by rw [Hf.out]; rfl, rfl⟩
          · have hq3 : ((s[k]'hlt).toNat : Int) ≠ 59 := fun h => hq1 (UInt8.toNat_inj.1 (by show _ = 59; omega))
            clear hg hq hq1
            go_wp2_with fail
            go_ret2
            exact ⟨by rw [Hf.out]; rfl, rfl⟩
    · have Hf : Hid (numF true 0 0 (s.data.toList.drop 3) = none) := Lib.hid (by
        rw [Hs.out, List.drop_eq_nil_of_le (by rw [list_size]; omega)]; rfl)
      go_wp2_with fail
      go_ret2
      exact ⟨by rw [Hf.out]; rfl, rfl⟩

set_option maxRecDepth 20000 in
set_option maxHeartbeats 2000000 in
theorem numd_dec (s : ByteArray) (w : World) (h0 : 2 ≤ s.size) (hs : s.size ≤ 140737488355328) :
    Calls Tryd.prog 40 #[.string s, .int .i64 2, .func (.func 42) #[] #[]] w fun e w' => e = .returned (numR 2 (numF false 0 0 (s.data.toList.drop 2))) ∧ w = w' := by
  go_enter Tryd.func40, Tryd.ntmps40
  go_wp2_with fail
  go_loop [8, 9] (fun v i => ∃ a k : Nat, v = .int .u32 a ∧ i = .int .i64 k ∧ a ≤ 1114112 ∧ 2 ≤ k ∧ k ≤ s.size ∧ Hid (numF false 0 0 (s.data.toList.drop 2) = numF false a (k - 2) (s.data.toList.drop k))) (fun _ i => s.size - (intOf i).toNat)
  case atStart => exact ⟨0, 2, rfl, rfl, by omega, by omega, h0, Lib.hid rfl⟩
  case round =>
    obtain ⟨a, k, rfl, rfl, ha, hk, hks, Hs⟩ := hrel
    by_cases hlt : k < s.size
    · have Hd := Lib.hid (drop_at s k hlt)
      go_wp2_with fail
      refine (dec_any a ha (s[k]'hlt) _).mono ?_
      rintro e w1 ⟨rfl, rfl⟩
      cases hg : digH false (s[k]'hlt) with
      | some d =>
        have Hb : Hid (growB false (s[k]'hlt) = true) := Lib.hid (by rw [growB, hg]; rfl)
        have Hf : Hid (numF false 0 0 (s.data.toList.drop 2) = numF false (capN (growV false a (s[k]'hlt))) (k + 1 - 2) (s.data.toList.drop (k + 1))) := Lib.hid (by
          rw [Hs.out, Hd.out, numF, hg, show k + 1 - 2 = k - 2 + 1 by omega, growV, hg]; rfl)
        clear hg
        rw [Hb.out]
        have hc := Lib.hid (capN_le (growV false a (s[k]'hlt)))
        have Hm := Lib.hid (cap_min (growV false a (s[k]'hlt)))
        generalize growV false a (s[k]'hlt) = g at *
        go_wp2_with fail
        go_round
        case rel => exact ⟨capN g, k + 1, by rw [Hm.out], by go_num, hc.out, by omega, by omega, Hf.out |> Lib.hid⟩
        case measure => simp [intOf]; omega
      | none =>
        have Hb : Hid (growB false (s[k]'hlt) = false) := Lib.hid (by rw [growB, hg]; rfl)
        rw [Hb.out]
        by_cases hq : (s[k]'hlt) = 59 ∧ 2 < k
        · have Hf : Hid (numF false 0 0 (s.data.toList.drop 2) = some (a, k - 2 + 1)) := Lib.hid (by
            rw [Hs.out, Hd.out, numF, hg]; exact if_pos ⟨hq.1, by omega⟩)
          have hq1 : ((s[k]'hlt).toNat : Int) = 59 := by rw [hq.1]; rfl
          have hq2 := hq.2
          clear hg hq
          go_wp2_with fail
          go_ret2
          exact ⟨by rw [Hf.out]; exact ret_pair rfl (by omega), rfl⟩
        · have Hf : Hid (numF false 0 0 (s.data.toList.drop 2) = none) := Lib.hid (by
            rw [Hs.out, Hd.out, numF, hg]; exact if_neg (fun h => hq ⟨h.1, by omega⟩))
          by_cases hq1 : (s[k]'hlt) = 59
          · have hq2 : k = 2 := by have : ¬ 2 < k := fun h => hq ⟨hq1, h⟩; omega
            have hq3 : ((s[k]'hlt).toNat : Int) = 59 := by rw [hq1]; rfl
            clear hg hq hq1
            have hq4 : ¬ ((k : Int) > 2) := by omega
            clear hq2
            go_wp2_with fail
            go_ret2
            exact ⟨by rw [Hf.out]; rfl, rfl⟩
          · have hq3 : ((s[k]'hlt).toNat : Int) ≠ 59 := fun h => hq1 (UInt8.toNat_inj.1 (by show _ = 59; omega))
            clear hg hq hq1
            go_wp2_with fail
            go_ret2
            exact ⟨by rw [Hf.out]; rfl, rfl⟩
    · have Hf : Hid (numF false 0 0 (s.data.toList.drop 2) = none) := Lib.hid (by
        rw [Hs.out, List.drop_eq_nil_of_le (by rw [list_size]; omega)]; rfl)
      go_wp2_with fail
      go_ret2
      exact ⟨by rw [Hf.out]; rfl, rfl⟩

end Jsx
end Go.Proofs.YtcalgpkcefccmaaDoor
