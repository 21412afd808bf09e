/-
  The law on entities.
-/
import Derived.Test.YtcalgpkcefccmaaDoorJsxAwake
import Derived.Test.YtcalgpkcefccmaaDoorJsxRefE
namespace Go.Proofs.YtcalgpkcefccmaaDoor
namespace Jsx
open Go.RowKit

theorem bel_trans {w w' w'' : World} (h : Below w.heap.size w w') (k : Below w'.heap.size w' w'') : Below w.heap.size w w'' := h.trans (k.mono h.size)
/-- What Entities answers, in three limbs. -/
theorem entsR_parts (r : Except Nat (List UInt8)) : ∃ (t : ByteArray) (a c : Int), entsR r = .tuple #[.string t, .int .i64 a, .int .i64 c] := by
  cases r with
  | ok x => exact ⟨_, _, _, rfl⟩
  | error p => exact ⟨_, _, _, rfl⟩

set_option maxHeartbeats 2000000 in
set_option maxRecDepth 20000 in
theorem law_entities (s : ByteArray) (W : World) (hs : s.size ≤ 140737488351232) (_hT : True) :
    Calls Tryd.prog 3 #[.string s] W fun e w' => e = .returned (.bool true) ∧ Below W.heap.size W w' := by
  obtain ⟨t, a, c, he⟩ := entsR_parts (ents 0 0 s.data.toList)
  have He := Lib.hid he; clear he
  go_enter Tryd.func3, Tryd.ntmps3
  go_wp2_with fail
  refine (ents_any s _ hs).mono ?_
  rintro e w1 ⟨rfl, hb1⟩
  rw [He.out]
  go_wp2_with fail
  refine (rents_any s _ hs).mono ?_
  rintro e w2 ⟨rfl, hb2⟩
  rw [He.out]
  have hb12 := bel_trans hb1 hb2
  clear hb1 hb2
  go_wp2_with fail
  refine (num_any _ _).mono ?_
  rintro e w3 ⟨rfl, rfl⟩
  go_wp2_with fail
  refine (awake_any _).mono ?_
  rintro e w3 ⟨rfl, hb3⟩
  have hb13 := bel_trans hb12 hb3
  clear hb12 hb3
  go_wp2_with fail
  go_ret
  exact ⟨by simp, hb13⟩

end Jsx
end Go.Proofs.YtcalgpkcefccmaaDoor
