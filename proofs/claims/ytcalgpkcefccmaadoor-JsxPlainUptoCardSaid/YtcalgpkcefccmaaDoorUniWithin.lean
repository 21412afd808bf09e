/-
  The contracts of the two functions that tell whether a number lies in one of some ranges.
-/
import Derived.Test.YtcalgpkcefccmaaDoorRows
import Derived.Test.YtcalgpkcefccmaaDoorUniPlain
import Derived.WalkKit
import Derived.WalkSpells
import Derived.WalkLawsBesides
import Derived.Lib.Hide
import Derived.Deep.QuietTactic
import Derived.BigQuiet
namespace Go.Proofs.YtcalgpkcefccmaaDoor
namespace Uni
open Go.RowKit

theorem ret_bool {a b : Bool} (h : a = b) : Ending.returned (.bool a) = .returned (.bool b) := by rw [h]
theorem ret_int {k : IntKind} {a b : Int} (h : a = b) : Ending.returned (.int k a) = .returned (.int k b) := by rw [h]

set_option maxHeartbeats 400000 in
theorem within_any (r : Int) (l : List Int) (b : Nat) (w : World) (hlen : l.length ≤ 1000)
    (hc : ∀ i, i < l.length → w.cell? ⟨b, i, none⟩ = some (.int .i64 (l.getD i 0))) :
    Calls Tryd.prog 51 #[.int .i64 r, .slice (some ⟨b, 0, none⟩) l.length l.length] w fun e w' => e = .returned (.bool (ascB r l)) ∧ w = w' := by
  go_enter Tryd.func51, Tryd.ntmps51
  go_wp2
  go_loop [5] (fun i => ∃ k : Nat, 2 * k ≤ l.length + 1 ∧ i = .int .i64 (2 * (k : Int)) ∧ ascB r l = ascB r (l.drop (2 * k))) (fun i => l.length + 2 - (intOf i).toNat)
  case atStart => exact ⟨0, by omega, rfl, rfl⟩
  case round =>
    obtain ⟨k, hk, rfl, hs⟩ := hrel
    have Hs := Lib.hid hs; clear hs
    by_cases hlt : 2 * k + 1 < l.length
    · have h1 := hc (2 * k) (by omega)
      have h2 := hc (2 * k + 1) (by omega)
      have Hd := Lib.hid (drop_two l k hlt)
      generalize l.getD (2 * k) 0 = a at h1 Hd
      generalize l.getD (2 * k + 1) 0 = c at h2 Hd
      clear hc
      by_cases ha : r < a
      · go_wp2
        go_ret
        exact ⟨ret_bool (by rw [Hs.out, Hd.out, ascB, if_pos (by omega)]), rfl⟩
      · by_cases hb : r ≤ c
        · go_wp2
          go_ret
          exact ⟨ret_bool (by rw [Hs.out, Hd.out, ascB, if_neg (by omega), if_pos (by omega)]), rfl⟩
        · go_wp2
          go_round
          case rel => exact ⟨k + 1, by omega, by go_num, by rw [Hs.out, Hd.out, ascB, if_neg (by omega), if_neg (by omega)]⟩
          case measure => simp [intOf]; omega
    · go_wp2
      go_ret
      exact ⟨ret_bool (by rw [Hs.out, ascB_short _ _ (by simp; omega)]), rfl⟩

end Uni
end Go.Proofs.YtcalgpkcefccmaaDoor
