/-
  The document's own side: digits, numbers and names of entities.
-/
import Derived.Test.YtcalgpkcefccmaaDoorJsxEnts
namespace Go.Proofs.YtcalgpkcefccmaaDoor
namespace Jsx
open Go.RowKit

theorem ret_int {a b : Int} (h : a = b) : Ending.returned (.int .i64 a) = .returned (.int .i64 b) := by rw [h]
/-- A digit's value, or -1. -/
def digR (hex : Bool) (c : UInt8) : Int := match digH hex c with
  | some d => (d : Int)
  | none => -1

set_option maxRecDepth 4000 in
set_option maxHeartbeats 1000000 in
theorem rdig_hex (c : UInt8) (w : World) :
    Calls Tryd.prog 45 #[.int .u8 c.toNat, .int .i64 16] w fun e w' => e = .returned (.int .i64 (digR true c)) ∧ w = w' := by
  have hc : (c.toNat : Int) < 256 := by have := UInt8.toNat_lt c; omega
  by_cases h1 : 48 ≤ c.toNat ∧ c.toNat ≤ 57
  · have Hd : Hid (digH true c = some (c.toNat - 48)) := Lib.hid (by rw [digH, if_pos h1])
    obtain ⟨ha, hb⟩ := h1
    have ha' : (48 : Int) ≤ c.toNat := by omega
    have hb' : (c.toNat : Int) ≤ 57 := by omega
    clear ha hb
    go_enter Tryd.func45, Tryd.ntmps45
    go_wp2_with fail
    go_ret
    exact ⟨ret_int (by rw [digR, Hd.out]; simp only []; omega), rfl⟩
  by_cases h2 : 65 ≤ c.toNat ∧ c.toNat ≤ 70
  · have Hd : Hid (digH true c = some (c.toNat - 55)) := Lib.hid (by rw [digH, if_neg h1, if_pos ⟨rfl, h2⟩])
    obtain ⟨ha, hb⟩ := h2
    have ha' : (65 : Int) ≤ c.toNat := by omega
    have hb' : (c.toNat : Int) ≤ 70 := by omega
    clear ha hb
    go_enter Tryd.func45, Tryd.ntmps45
    go_wp2_with fail
    go_ret
    exact ⟨ret_int (by rw [digR, Hd.out]; simp only []; omega), rfl⟩
  by_cases h3 : 97 ≤ c.toNat ∧ c.toNat ≤ 102
  · have Hd : Hid (digH true c = some (c.toNat - 87)) := Lib.hid (by rw [digH, if_neg h1, if_neg (fun h => h2 h.2), if_pos ⟨rfl, h3⟩])
    obtain ⟨ha, hb⟩ := h3
    have ha' : (97 : Int) ≤ c.toNat := by omega
    have hb' : (c.toNat : Int) ≤ 102 := by omega
    clear ha hb
    go_enter Tryd.func45, Tryd.ntmps45
    go_wp2_with fail
    go_ret
    exact ⟨ret_int (by rw [digR, Hd.out]; simp only []; omega), rfl⟩
  have Hd : Hid (digH true c = none) := Lib.hid (by rw [digH, if_neg h1, if_neg (fun h => h2 h.2), if_neg (fun h => h3 h.2)])
  rcases (by omega : (c.toNat : Int) < 48 ∨ (57 < (c.toNat : Int) ∧ (c.toNat : Int) < 65) ∨ (70 < (c.toNat : Int) ∧ (c.toNat : Int) < 97) ∨ 102 < (c.toNat : Int)) with h | ⟨h, h'⟩ | ⟨h, h'⟩ | h <;> clear h1 h2 h3
  all_goals
    go_enter Tryd.func45, Tryd.ntmps45
    go_wp2_with fail
    go_ret
    exact ⟨ret_int (by rw [digR, Hd.out]), rfl⟩

set_option maxRecDepth 4000 in
set_option maxHeartbeats 1000000 in
theorem rdig_dec (c : UInt8) (w : World) :
    Calls Tryd.prog 45 #[.int .u8 c.toNat, .int .i64 10] w fun e w' => e = .returned (.int .i64 (digR false c)) ∧ w = w' := by
  have hc : (c.toNat : Int) < 256 := by have := UInt8.toNat_lt c; omega
  by_cases h1 : 48 ≤ c.toNat ∧ c.toNat ≤ 57
  · have Hd : Hid (digH false c = some (c.toNat - 48)) := Lib.hid (by rw [digH, if_pos h1])
    obtain ⟨ha, hb⟩ := h1
    have ha' : (48 : Int) ≤ c.toNat := by omega
    have hb' : (c.toNat : Int) ≤ 57 := by omega
    clear ha hb
    go_enter Tryd.func45, Tryd.ntmps45
    go_wp2_with fail
    go_ret
    exact ⟨ret_int (by rw [digR, Hd.out]; simp only []; omega), rfl⟩
  have Hd : Hid (digH false c = none) := Lib.hid (by rw [digH, if_neg h1, if_neg (by simp), if_neg (by simp)])
  rcases (by omega : (c.toNat : Int) < 48 ∨ (57 < (c.toNat : Int) ∧ (c.toNat : Int) < 65) ∨ (65 ≤ (c.toNat : Int) ∧ (c.toNat : Int) ≤ 70) ∨ (70 < (c.toNat : Int) ∧ (c.toNat : Int) < 97) ∨ (97 ≤ (c.toNat : Int) ∧ (c.toNat : Int) ≤ 102) ∨ 102 < (c.toNat : Int)) with h | ⟨h, h'⟩ | ⟨h, h'⟩ | ⟨h, h'⟩ | ⟨h, h'⟩ | h <;> clear h1
  all_goals
    go_enter Tryd.func45, Tryd.ntmps45
    go_wp2_with fail
    go_ret
    exact ⟨ret_int (by rw [digR, Hd.out]), rfl⟩

/-- Digits all through: the number. -/
def digsF (hex : Bool) : Nat → List UInt8 → Int
  | v, [] => v
  | v, c :: t => match digH hex c with
    | some d => digsF hex (stepN hex v d) t
    | none => -1

/-- The value of what stands behind #, or -1. -/
def numV (l : List UInt8) : Int :=
  if l.head? = some 120 then (if l.tail = [] then -1 else digsF true 0 l.tail) else if l = [] then -1 else digsF false 0 l

end Jsx
end Go.Proofs.YtcalgpkcefccmaaDoor
