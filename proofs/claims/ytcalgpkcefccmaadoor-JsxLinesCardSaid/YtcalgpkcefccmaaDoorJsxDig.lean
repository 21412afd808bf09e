/-
  The program's digits of an entity's number.
-/
import Derived.Test.YtcalgpkcefccmaaDoorJsxBuild
import Derived.Test.YtcalgpkcefccmaaDoorUniBits
namespace Go.Proofs.YtcalgpkcefccmaaDoor
namespace Jsx
open Go.RowKit

/-- A number with one more digit. -/
def growV (hex : Bool) (v : Nat) (c : UInt8) : Nat := match digH hex c with
  | some d => if hex = true then 16 * v + d else 10 * v + d
  | none => 0
def growB (hex : Bool) (c : UInt8) : Bool := (digH hex c).isSome

theorem ret_grow {a b : Int} {x y : Bool} (h1 : a = b) (h2 : x = y) : Ending.returned (.tuple #[.int .u32 a, .bool x]) = .returned (.tuple #[.int .u32 b, .bool y]) := by rw [h1, h2]

theorem ofInt_u32 (a : Nat) (ha : a < 4294967296) : (BitVec.ofInt 32 (a : Int)).toNat = a := by
  rw [BitVec.ofInt_natCast, BitVec.toNat_ofNat]; exact Nat.mod_eq_of_lt ha
theorem u32_or (v d : Nat) (hv : v ≤ 1114112) (hd : d < 16) : bits .or .u32 ((v : Int) * 16) (d : Int) = ((16 * v + d : Nat) : Int) := by
  have e : (v : Int) * 16 = ((v * 16 : Nat) : Int) := by omega
  have h : (v * 16) ||| d = 16 * v + d := by
    have := Nat.shiftLeft_add_eq_or_of_lt (b := d) (i := 4) (by omega) v
    rw [Nat.shiftLeft_eq] at this
    rw [← this]; omega
  rw [e]
  show IntKind.u32.wrap ((BitVec.ofInt 32 ((v * 16 : Nat) : Int) ||| BitVec.ofInt 32 (d : Int)).toNat : Int) = _
  rw [BitVec.toNat_or, ofInt_u32 _ (by omega), ofInt_u32 _ (by omega), h, IntKind.wrap_u32]
  omega

set_option maxRecDepth 4000 in
set_option maxHeartbeats 1000000 in
theorem dec_any (v : Nat) (hv : v ≤ 1114112) (c : UInt8) (w : World) :
    Calls Tryd.prog 42 #[.int .u32 v, .int .u8 c.toNat] w fun e w' => e = .returned (.tuple #[.int .u32 (growV false v c), .bool (growB false c)]) ∧ w = w' := by
  have hc : (c.toNat : Int) < 256 := by have := UInt8.toNat_lt c; omega
  by_cases h1 : 48 ≤ c.toNat ∧ c.toNat ≤ 57
  · have Hd : Hid (digH false c = some (c.toNat - 48)) := Lib.hid (if_pos h1)
    obtain ⟨ha, hb⟩ := h1
    have ha' : (48 : Int) ≤ c.toNat := by omega
    have hb' : (c.toNat : Int) ≤ 57 := by omega
    clear ha hb
    go_enter Tryd.func42, Tryd.ntmps42
    go_wp2_with fail
    go_ret2
    exact ⟨ret_grow (by rw [growV, Hd.out]; simp only [Bool.false_eq_true, if_false]; omega) (by rw [growB, Hd.out]; rfl), rfl⟩
  · have Hd : Hid (digH false c = none) := Lib.hid (by rw [digH, if_neg h1, if_neg (by simp), if_neg (by simp)])
    by_cases h2 : (c.toNat : Int) < 48
    · clear h1
      go_enter Tryd.func42, Tryd.ntmps42
      go_wp2_with fail
      go_ret2
      exact ⟨ret_grow (by rw [growV, Hd.out]; rfl) (by rw [growB, Hd.out]; rfl), rfl⟩
    · have h3 : (57 : Int) < c.toNat := by omega
      clear h1
      go_enter Tryd.func42, Tryd.ntmps42
      go_wp2_with fail
      go_ret2
      exact ⟨ret_grow (by rw [growV, Hd.out]; rfl) (by rw [growB, Hd.out]; rfl), rfl⟩

set_option maxRecDepth 4000 in
set_option maxHeartbeats 1000000 in
theorem hex_any (v : Nat) (hv : v ≤ 1114112) (c : UInt8) (w : World) :
    Calls Tryd.prog 41 #[.int .u32 v, .int .u8 c.toNat] w fun e w' => e = .returned (.tuple #[.int .u32 (growV true v c), .bool (growB true c)]) ∧ w = w' := by
  have hc : (c.toNat : Int) < 256 := by have := UInt8.toNat_lt c; omega
  by_cases h1 : 48 ≤ c.toNat ∧ c.toNat ≤ 57
  · have Hd : Hid (digH true c = some (c.toNat - 48)) := Lib.hid (by rw [digH, if_pos h1])
    obtain ⟨ha, hb⟩ := h1
    have ha' : (48 : Int) ≤ c.toNat := by omega
    have hb' : (c.toNat : Int) ≤ 57 := by omega
    clear ha hb
    go_enter Tryd.func41, Tryd.ntmps41
    go_wp2_with fail
    go_ret2
    refine ⟨ret_grow ?_ (by rw [growB, Hd.out]; rfl), rfl⟩
    rw [show (c.toNat : Int) - 48 = ((c.toNat - 48 : Nat) : Int) by omega, u32_or _ _ hv (by omega), growV, Hd.out]
    rfl
  by_cases h2 : 65 ≤ c.toNat ∧ c.toNat ≤ 70
  · have Hd : Hid (digH true c = some (c.toNat - 55)) := Lib.hid (by rw [digH, if_neg h1, if_pos ⟨rfl, h2⟩])
    obtain ⟨ha, hb⟩ := h2
    have ha' : (65 : Int) ≤ c.toNat := by omega
    have hb' : (c.toNat : Int) ≤ 70 := by omega
    clear ha hb
    go_enter Tryd.func41, Tryd.ntmps41
    go_wp2_with fail
    go_ret2
    refine ⟨ret_grow ?_ (by rw [growB, Hd.out]; rfl), rfl⟩
    rw [show (c.toNat : Int) - 55 = ((c.toNat - 55 : Nat) : Int) by omega, u32_or _ _ hv (by omega), growV, Hd.out]
    rfl
  by_cases h3 : 97 ≤ c.toNat ∧ c.toNat ≤ 102
  · have Hd : Hid (digH true c = some (c.toNat - 87)) := Lib.hid (by rw [digH, if_neg h1, if_neg (fun h => h2 h.2), if_pos ⟨rfl, h3⟩])
    obtain ⟨ha, hb⟩ := h3
    have ha' : (97 : Int) ≤ c.toNat := by omega
    have hb' : (c.toNat : Int) ≤ 102 := by omega
    clear ha hb
    go_enter Tryd.func41, Tryd.ntmps41
    go_wp2_with fail
    go_ret2
    refine ⟨ret_grow ?_ (by rw [growB, Hd.out]; rfl), rfl⟩
    rw [show (c.toNat : Int) - 87 = ((c.toNat - 87 : Nat) : Int) by omega, u32_or _ _ hv (by omega), growV, Hd.out]
    rfl
  have Hd : Hid (digH true c = none) := Lib.hid (by rw [digH, if_neg h1, if_neg (fun h => h2 h.2), if_neg (fun h => h3 h.2)])
  have H : Hid (w = w) := Lib.hid rfl
  have key : ∀ (lo hi : Int), (lo ≤ (c.toNat : Int) ∧ (c.toNat : Int) ≤ hi) ∨ ((c.toNat : Int) < lo ∨ hi < (c.toNat : Int)) := fun lo hi => by omega
  rcases (by omega : (c.toNat : Int) < 48 ∨ (57 < (c.toNat : Int) ∧ (c.toNat : Int) < 65) ∨ (70 < (c.toNat : Int) ∧ (c.toNat : Int) < 97) ∨ 102 < (c.toNat : Int)) with h | ⟨h, h'⟩ | ⟨h, h'⟩ | h <;> clear h1 h2 h3 key
  all_goals
    go_enter Tryd.func41, Tryd.ntmps41
    go_wp2_with fail
    go_ret2
    exact ⟨ret_grow (by rw [growV, Hd.out]; rfl) (by rw [growB, Hd.out]; rfl), rfl⟩

end Jsx
end Go.Proofs.YtcalgpkcefccmaaDoor
