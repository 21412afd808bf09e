/-
  The contracts of the two functions that tell where a text is no UTF-8.
-/
import Derived.Test.YtcalgpkcefccmaaDoorUniUtf
import Derived.Test.YtcalgpkcefccmaaDoorUniLength
import Derived.Test.YtcalgpkcefccmaaDoorUniChars
namespace Go.Proofs.YtcalgpkcefccmaaDoor
namespace Uni
open Go.RowKit

theorem ret_two {k : IntKind} {a b c d : Int} (h : a = c) (h' : b = d) : Ending.returned (.tuple #[.int k a, .int k b]) = .returned (.tuple #[.int k c, .int k d]) := by rw [h, h']

set_option maxHeartbeats 400000 in
theorem valid_any (s : ByteArray) (w : World) (hs : s.size ≤ maxLen) :
    Calls Tryd.prog 19 #[.string s] w fun e w' => e = .returned (.tuple #[.int .i64 (badAt s), .int .i64 (badCode s)]) ∧ Below w.heap.size w w' := by
  have hm := hs
  unfold maxLen at hs
  go_enter Tryd.func19, Tryd.ntmps19
  go_wp2
  go_loopw [4, 5] (fun a _ wr => ∃ i : Nat, i ≤ s.size ∧ a = .int .i64 i ∧ badFrom s 0 = badFrom s i ∧ Below w.heap.size w wr) (fun a _ _ => s.size - (intOf a).toNat)
  case atStart => exact ⟨0, by omega, rfl, rfl, Below.refl _ _⟩
  case round =>
    obtain ⟨i, hi, rfl, hb, hw⟩ := hrel
    have Hb := Lib.hid hb; clear hb
    by_cases hlt : i < s.size
    · have hle := lenN_le s i hlt
      have Hc := Lib.hid (complete_cut s i hlt)
      by_cases e : lenN s i = 0
      · have Hf : Hid (badAt s = i ∧ badCode s = 100) := Lib.hid (by rw [badAt, badCode, Hb.out, bad_here s i hlt e]; exact ⟨rfl, rfl⟩)
        have He := Lib.hid e; clear e
        go_wp2_with fail
        refine (complete_any (s.extract i s.size) wr (by simp [maxLen]; omega) (by simp; omega)).mono ?_
        rintro e w1 ⟨rfl, hb1⟩
        rw [Hc.out, He.out]
        go_wp2_with fail
        go_ret2
        exact ⟨ret_two (by rw [Hf.out.1]) (by rw [Hf.out.2]; rfl), hw.trans (hb1.mono hw.size)⟩
      · have Hs := Lib.hid (bad_step s i hlt e)
        have he : (((lenN s i : Nat) : Int) == 0) = false := beq_eq_false_iff_ne.2 (by omega)
        have h4 := lenN_four s i
        have He := Lib.hid e; clear e
        go_wp2_with fail
        refine (complete_any (s.extract i s.size) wr (by simp [maxLen]; omega) (by simp; omega)).mono ?_
        rintro e w1 ⟨rfl, hb1⟩
        rw [Hc.out]
        generalize hk : lenN s i = k at *
        have Hk := Lib.hid hk; clear hk
        go_wp2_with fail
        go_roundw
        case rel => exact ⟨i + k, by omega, by go_num, by rw [Hb.out, Hs.out], hw.trans (hb1.mono hw.size)⟩
        case measure => have := He.out; simp [intOf]; omega
    · have Hf : Hid (badAt s = 0 ∧ badCode s = 0) := Lib.hid (by rw [badAt, badCode, Hb.out, bad_end s i hlt]; exact ⟨rfl, rfl⟩)
      go_wp2_with fail
      go_ret2
      exact ⟨ret_two (by rw [Hf.out.1]; rfl) (by rw [Hf.out.2]; rfl), hw⟩

end Uni
end Go.Proofs.YtcalgpkcefccmaaDoor
