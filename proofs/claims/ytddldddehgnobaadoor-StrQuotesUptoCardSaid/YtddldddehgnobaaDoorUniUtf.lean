/-
  UTF-8: the contracts of the functions that find whole characters.
-/
import Derived.Test.YtddldddehgnobaaDoorUniRunes
import Derived.Test.YtddldddehgnobaaDoorUniBits
namespace Go.Proofs.YtddldddehgnobaaDoor
namespace Uni
open Go.RowKit

theorem pair_asc (r a b : Int) : ascB r [a, b] = decide (a ≤ r ∧ r ≤ b) := by
  rw [Bool.eq_iff_iff]
  simp only [ascB, decide_eq_true_eq]
  by_cases h1 : r < a
  · rw [if_pos h1]; constructor
    · intro h; exact absurd h (by decide)
    · omega
  · rw [if_neg h1]
    by_cases h2 : r ≤ b
    · rw [if_pos h2]; simp; omega
    · rw [if_neg h2]; simp; omega

set_option maxHeartbeats 400000 in
theorem tail_any (s : ByteArray) (i : Nat) (w : World) (_hs : s.size ≤ maxLen) :
    Calls Tryd.prog 45 #[.string s, .int .i64 i] w fun e w' => e = .returned (.bool (tailB s i)) ∧ w = w' := by
  by_cases h : i < s.size
  · have Hb := Lib.hid (byteN_at s i h)
    have hd : tailB s i = (decide (128 ≤ byteN s i) && decide (byteN s i < 192)) := by
      rw [Bool.eq_iff_iff]; simp [tailB, h]
    have Hd := Lib.hid hd; clear hd
    by_cases h1 : 128 ≤ byteN s i
    · by_cases h2 : byteN s i < 192
      · have g1 : (128 : Int) ≤ ((s[i]'h).toNat : Int) := by rw [Hb.out]; omega
        have g2 : ((s[i]'h).toNat : Int) < 192 := by rw [Hb.out]; omega
        go_enter Tryd.func45, Tryd.ntmps45
        go_wp2_with fail
        go_ret
        exact ⟨ret_bool (by rw [Hd.out, decide_eq_true h1, decide_eq_true h2]; rfl), rfl⟩
      · have g1 : (128 : Int) ≤ ((s[i]'h).toNat : Int) := by rw [Hb.out]; omega
        have g2 : ¬ ((s[i]'h).toNat : Int) < 192 := by rw [Hb.out]; omega
        go_enter Tryd.func45, Tryd.ntmps45
        go_wp2_with fail
        go_ret
        exact ⟨ret_bool (by rw [Hd.out, decide_eq_true h1, decide_eq_false h2]; rfl), rfl⟩
    · have g1 : ¬ (128 : Int) ≤ ((s[i]'h).toNat : Int) := by rw [Hb.out]; omega
      go_enter Tryd.func45, Tryd.ntmps45
      go_wp2_with fail
      go_ret
      exact ⟨ret_bool (by rw [Hd.out, decide_eq_false h1]; rfl), rfl⟩
  · go_enter Tryd.func45, Tryd.ntmps45
    go_wp2_with fail
    go_ret
    exact ⟨ret_bool (by rw [tailB, decide_eq_false (by omega)]), rfl⟩

end Uni
end Go.Proofs.YtddldddehgnobaaDoor
