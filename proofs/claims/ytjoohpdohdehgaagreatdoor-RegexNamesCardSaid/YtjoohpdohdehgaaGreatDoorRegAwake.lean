/-
  What every law calls: the program's own signs of life.
-/
import Derived.Test.YtjoohpdohdehgaaGreatDoorRegFlag
namespace Go.Proofs.YtjoohpdohdehgaaGreatDoor
namespace Reg
open Go.RowKit

theorem num_any (n : Int) (w : World) : Calls Tryz.prog 12 #[.int .i64 n] w fun e w' => e = .returned (.int .i64 n) ∧ w = w' := by
  go_enter Tryz.func12, Tryz.ntmps12
  go_wp2_with fail
  go_ret
  exact ⟨rfl, rfl⟩

/-- A check whose answer is known. -/
theorem check_is (body flags : ByteArray) (a c : Nat) (hr : endP body flags = (a, c)) (hf : flags.size ≤ maxLen) (w : World) (ht : Tabs w.heap.size w) :
    Calls Tryz.prog 10 #[.string body, .string flags] w fun e w' => e = .returned (.tuple #[.int .i64 a, .int .i64 c]) ∧ Below w.heap.size w w' := by
  have := check_bits body flags w ht hf
  rwa [hr] at this

theorem aw1 : endP ⟨#[97, 123, 50, 44, 49, 125]⟩ ⟨#[]⟩ = (1, 403) := by decide +kernel
theorem aw2 : endP ⟨#[92, 49]⟩ ⟨#[]⟩ = (0, 402) := by decide +kernel
theorem aw3 : endP ⟨#[40, 63, 60, 97, 62, 120, 41, 92, 107, 60, 97, 62]⟩ ⟨#[117]⟩ = (0, 0) := by decide +kernel

theorem Tabs.below {w w' : World} (h : Tabs w.heap.size w) (hb : Below w.heap.size w w') : Tabs w'.heap.size w' := ⟨Nat.le_refl _, fun x hx => h.all x (hb.trans (hx.mono hb.size))⟩

set_option maxHeartbeats 2000000 in
set_option maxRecDepth 20000 in
theorem awake_any (w : World) (ht : Tabs w.heap.size w) : Calls Tryz.prog 13 #[] w fun e w' => e = .returned (.bool true) ∧ Below w.heap.size w w' := by
  have HT := Lib.hid ht; clear ht
  go_enter Tryz.func13, Tryz.ntmps13
  go_wp2_with fail
  refine (check_is _ _ 1 403 aw1 (by decide) _ HT.out).mono ?_
  rintro e w1 ⟨rfl, hb1⟩
  have HT1 := Lib.hid (HT.out.below hb1)
  go_wp2_with fail
  refine (check_is _ _ 0 402 aw2 (by decide) _ HT1.out).mono ?_
  rintro e w2 ⟨rfl, hb2⟩
  have HT2 := Lib.hid (HT1.out.below hb2)
  go_wp2_with fail
  refine (check_is _ _ 0 0 aw3 (by decide) _ HT2.out).mono ?_
  rintro e w3 ⟨rfl, hb3⟩
  go_wp2_with fail
  refine (num_any _ _).mono ?_
  rintro e w4 ⟨rfl, rfl⟩
  go_wp2_with fail
  refine (num_any _ _).mono ?_
  rintro e w4 ⟨rfl, rfl⟩
  go_wp2_with fail
  refine (num_any _ _).mono ?_
  rintro e w4 ⟨rfl, rfl⟩
  go_wp2_with fail
  go_ret
  exact ⟨rfl, hb1.trans ((hb2.trans (hb3.mono hb2.size)).mono hb1.size)⟩

end Reg
end Go.Proofs.YtjoohpdohdehgaaGreatDoor
