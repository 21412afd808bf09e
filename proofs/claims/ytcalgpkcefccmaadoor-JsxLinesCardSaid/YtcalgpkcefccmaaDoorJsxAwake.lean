/-
  What every law calls: the program's own signs of life.
-/
import Derived.Test.YtcalgpkcefccmaaDoorJsxShown
namespace Go.Proofs.YtcalgpkcefccmaaDoor
namespace Jsx
open Go.RowKit

theorem num_any (n : Int) (w : World) : Calls Tryd.prog 11 #[.int .i64 n] w fun e w' => e = .returned (.int .i64 n) ∧ w = w' := by
  go_enter Tryd.func11, Tryd.ntmps11
  go_wp2_with fail
  go_ret
  exact ⟨rfl, rfl⟩

theorem aw1 : ents 0 0 [38, 108, 116, 59, 38, 35, 54, 53, 59] = .ok [60, 65] := by kernel_rfl
theorem aw2 : ents 0 0 [97, 38, 35, 120, 68, 56, 48, 48, 59] = .error 1 := by kernel_rfl
theorem aw3 : shownF [32, 97, 10, 32, 32, 98, 32, 32, 99, 32, 10] = [32, 97, 32, 98, 32, 32, 99] := by decide +kernel
theorem aw4 : wordsF [] [97, 32, 98] = [[97], [98]] := by decide +kernel
theorem aw1_any (w : World) : Calls Tryd.prog 9 #[.string ⟨#[38, 108, 116, 59, 38, 35, 54, 53, 59]⟩] w fun e w' => e = .returned (.tuple #[.string ⟨#[60, 65]⟩, .int .i64 0, .int .i64 0]) ∧ Below w.heap.size w w' := by
  have := ents_any ⟨#[38, 108, 116, 59, 38, 35, 54, 53, 59]⟩ w (by decide)
  rw [show (⟨#[38, 108, 116, 59, 38, 35, 54, 53, 59]⟩ : ByteArray).data.toList = [38, 108, 116, 59, 38, 35, 54, 53, 59] from rfl, aw1] at this
  exact this
theorem aw2_any (w : World) : Calls Tryd.prog 9 #[.string ⟨#[97, 38, 35, 120, 68, 56, 48, 48, 59]⟩] w fun e w' => e = .returned (.tuple #[.string ⟨#[]⟩, .int .i64 1, .int .i64 700]) ∧ Below w.heap.size w w' := by
  have := ents_any ⟨#[97, 38, 35, 120, 68, 56, 48, 48, 59]⟩ w (by decide)
  rw [show (⟨#[97, 38, 35, 120, 68, 56, 48, 48, 59]⟩ : ByteArray).data.toList = [97, 38, 35, 120, 68, 56, 48, 48, 59] from rfl, aw2] at this
  exact this
theorem aw3_any (w : World) : Calls Tryd.prog 16 #[.string ⟨#[32, 97, 10, 32, 32, 98, 32, 32, 99, 32, 10]⟩] w fun e w' => e = .returned (.string ⟨#[32, 97, 32, 98, 32, 32, 99]⟩) ∧ Below w.heap.size w w' := by
  have := shownT_any ⟨#[32, 97, 10, 32, 32, 98, 32, 32, 99, 32, 10]⟩ (by decide) w
  rw [show (⟨#[32, 97, 10, 32, 32, 98, 32, 32, 99, 32, 10]⟩ : ByteArray).data.toList = [32, 97, 10, 32, 32, 98, 32, 32, 99, 32, 10] from rfl, aw3] at this
  exact this
theorem aw4_any (w : World) : Calls Tryd.prog 13 #[.string ⟨#[97, 32, 98]⟩] w fun e w' => ∃ A, e = .returned (.slice (some ⟨A, 0, none⟩) 2 2) ∧ Below w.heap.size w w' := by
  refine (words_any ⟨#[97, 32, 98]⟩ w (by decide)).mono ?_
  rintro e w' ⟨A, h1, _, _, h2⟩
  rw [show (⟨#[97, 32, 98]⟩ : ByteArray).data.toList = [97, 32, 98] from rfl, aw4] at h1
  exact ⟨A, h1, h2⟩

set_option maxHeartbeats 2000000 in
set_option maxRecDepth 20000 in
theorem awake_any (w : World) : Calls Tryd.prog 12 #[] w fun e w' => e = .returned (.bool true) ∧ Below w.heap.size w w' := by
  go_enter Tryd.func12, Tryd.ntmps12
  go_wp2_with fail
  refine (aw1_any _).mono ?_
  rintro e w1 ⟨rfl, hb1⟩
  go_wp2_with fail
  refine (aw2_any _).mono ?_
  rintro e w2 ⟨rfl, hb2⟩
  have hb12 := hb1.trans (hb2.mono hb1.size)
  clear hb1 hb2
  go_wp2_with fail
  refine (num_any _ _).mono ?_
  rintro e w3 ⟨rfl, rfl⟩
  go_wp2_with fail
  refine (num_any _ _).mono ?_
  rintro e w3 ⟨rfl, rfl⟩
  go_wp2_with fail
  refine (aw3_any _).mono ?_
  rintro e w3 ⟨rfl, hb3⟩
  have hb13 := hb12.trans (hb3.mono hb12.size)
  clear hb12 hb3
  go_wp2_with fail
  refine (aw4_any _).mono ?_
  rintro e w4 ⟨A, rfl, hb4⟩
  have hb14 := hb13.trans (hb4.mono hb13.size)
  clear hb13 hb4
  go_wp2_with fail
  go_ret
  exact ⟨rfl, hb14⟩

end Jsx
end Go.Proofs.YtcalgpkcefccmaaDoor
