/-
  The signs of more than one byte; a sign is read.
-/
import Derived.Test.YtggibhlmnfodaaaDoorLexSmall
import Derived.Test.YtggibhlmnfodaaaDoorLexName
import Derived.Test.YtggibhlmnfodaaaDoorLexSuf
import Derived.Test.YtggibhlmnfodaaaDoorLexLit
namespace Go.Proofs.YtggibhlmnfodaaaDoor
namespace Lex
open Go.RowKit
open Str (lenL runeL)

theorem ofL_eq (s : ByteArray) : Str.ofL s.data.toList = s := by
  apply ByteArray.ext; simp [Str.ofL]
theorem of_toList {s : ByteArray} {l : List UInt8} (h : s.toList = l) : s = ⟨l.toArray⟩ := by
  rw [Lib.toList_data] at h
  rw [← ofL_eq s, h]; rfl
theorem elem_no {l : List (List UInt8)} {x : List UInt8} (h : ∀ y ∈ l, x ≠ y) : l.elem x = false := by
  cases e : l.elem x with
  | false => rfl
  | true => exact absurd rfl (h x (List.elem_iff.1 e))

set_option maxHeartbeats 4000000 in
theorem joined_any (s : ByteArray) (w : World) :
    Calls Tryd.prog 42 #[.string s] w fun e w' => e = .returned (.bool (joinB s.data.toList)) ∧ w = w' := by
  by_cases e0 : s.toList = [62, 62, 62, 61]
  · obtain rfl := of_toList e0
    clear e0
    go_enter Tryd.func42, Tryd.ntmps42
    go_wp2_with fail
    go_ret
    exact ⟨rfl, rfl⟩
  have b0 : (s.toList == [62, 62, 62, 61]) = false := beq_eq_false_iff_ne.2 e0
  by_cases e1 : s.toList = [46, 46, 46]
  · obtain rfl := of_toList e1
    clear e1
    go_enter Tryd.func42, Tryd.ntmps42
    go_wp2_with fail
    go_ret
    exact ⟨rfl, rfl⟩
  have b1 : (s.toList == [46, 46, 46]) = false := beq_eq_false_iff_ne.2 e1
  by_cases e2 : s.toList = [61, 61, 61]
  · obtain rfl := of_toList e2
    clear e2
    go_enter Tryd.func42, Tryd.ntmps42
    go_wp2_with fail
    go_ret
    exact ⟨rfl, rfl⟩
  have b2 : (s.toList == [61, 61, 61]) = false := beq_eq_false_iff_ne.2 e2
  by_cases e3 : s.toList = [33, 61, 61]
  · obtain rfl := of_toList e3
    clear e3
    go_enter Tryd.func42, Tryd.ntmps42
    go_wp2_with fail
    go_ret
    exact ⟨rfl, rfl⟩
  have b3 : (s.toList == [33, 61, 61]) = false := beq_eq_false_iff_ne.2 e3
  by_cases e4 : s.toList = [62, 62, 62]
  · obtain rfl := of_toList e4
    clear e4
    go_enter Tryd.func42, Tryd.ntmps42
    go_wp2_with fail
    go_ret
    exact ⟨rfl, rfl⟩
  have b4 : (s.toList == [62, 62, 62]) = false := beq_eq_false_iff_ne.2 e4
  by_cases e5 : s.toList = [42, 42, 61]
  · obtain rfl := of_toList e5
    clear e5
    go_enter Tryd.func42, Tryd.ntmps42
    go_wp2_with fail
    go_ret
    exact ⟨rfl, rfl⟩
  have b5 : (s.toList == [42, 42, 61]) = false := beq_eq_false_iff_ne.2 e5
  by_cases e6 : s.toList = [60, 60, 61]
  · obtain rfl := of_toList e6
    clear e6
    go_enter Tryd.func42, Tryd.ntmps42
    go_wp2_with fail
    go_ret
    exact ⟨rfl, rfl⟩
  have b6 : (s.toList == [60, 60, 61]) = false := beq_eq_false_iff_ne.2 e6
  by_cases e7 : s.toList = [62, 62, 61]
  · obtain rfl := of_toList e7
    clear e7
    go_enter Tryd.func42, Tryd.ntmps42
    go_wp2_with fail
    go_ret
    exact ⟨rfl, rfl⟩
  have b7 : (s.toList == [62, 62, 61]) = false := beq_eq_false_iff_ne.2 e7
  by_cases e8 : s.toList = [38, 38, 61]
  · obtain rfl := of_toList e8
    clear e8
    go_enter Tryd.func42, Tryd.ntmps42
    go_wp2_with fail
    go_ret
    exact ⟨rfl, rfl⟩
  have b8 : (s.toList == [38, 38, 61]) = false := beq_eq_false_iff_ne.2 e8
  by_cases e9 : s.toList = [124, 124, 61]
  · obtain rfl := of_toList e9
    clear e9
    go_enter Tryd.func42, Tryd.ntmps42
    go_wp2_with fail
    go_ret
    exact ⟨rfl, rfl⟩
  have b9 : (s.toList == [124, 124, 61]) = false := beq_eq_false_iff_ne.2 e9
  by_cases e10 : s.toList = [63, 63, 61]
  · obtain rfl := of_toList e10
    clear e10
    go_enter Tryd.func42, Tryd.ntmps42
    go_wp2_with fail
    go_ret
    exact ⟨rfl, rfl⟩
  have b10 : (s.toList == [63, 63, 61]) = false := beq_eq_false_iff_ne.2 e10
  by_cases e11 : s.toList = [60, 61]
  · obtain rfl := of_toList e11
    clear e11
    go_enter Tryd.func42, Tryd.ntmps42
    go_wp2_with fail
    go_ret
    exact ⟨rfl, rfl⟩
  have b11 : (s.toList == [60, 61]) = false := beq_eq_false_iff_ne.2 e11
  by_cases e12 : s.toList = [62, 61]
  · obtain rfl := of_toList e12
    clear e12
    go_enter Tryd.func42, Tryd.ntmps42
    go_wp2_with fail
    go_ret
    exact ⟨rfl, rfl⟩
  have b12 : (s.toList == [62, 61]) = false := beq_eq_false_iff_ne.2 e12
  by_cases e13 : s.toList = [61, 61]
  · obtain rfl := of_toList e13
    clear e13
    go_enter Tryd.func42, Tryd.ntmps42
    go_wp2_with fail
    go_ret
    exact ⟨rfl, rfl⟩
  have b13 : (s.toList == [61, 61]) = false := beq_eq_false_iff_ne.2 e13
  by_cases e14 : s.toList = [33, 61]
  · obtain rfl := of_toList e14
    clear e14
    go_enter Tryd.func42, Tryd.ntmps42
    go_wp2_with fail
    go_ret
    exact ⟨rfl, rfl⟩
  have b14 : (s.toList == [33, 61]) = false := beq_eq_false_iff_ne.2 e14
  by_cases e15 : s.toList = [42, 42]
  · obtain rfl := of_toList e15
    clear e15
    go_enter Tryd.func42, Tryd.ntmps42
    go_wp2_with fail
    go_ret
    exact ⟨rfl, rfl⟩
  have b15 : (s.toList == [42, 42]) = false := beq_eq_false_iff_ne.2 e15
  by_cases e16 : s.toList = [43, 43]
  · obtain rfl := of_toList e16
    clear e16
    go_enter Tryd.func42, Tryd.ntmps42
    go_wp2_with fail
    go_ret
    exact ⟨rfl, rfl⟩
  have b16 : (s.toList == [43, 43]) = false := beq_eq_false_iff_ne.2 e16
  by_cases e17 : s.toList = [45, 45]
  · obtain rfl := of_toList e17
    clear e17
    go_enter Tryd.func42, Tryd.ntmps42
    go_wp2_with fail
    go_ret
    exact ⟨rfl, rfl⟩
  have b17 : (s.toList == [45, 45]) = false := beq_eq_false_iff_ne.2 e17
  by_cases e18 : s.toList = [60, 60]
  · obtain rfl := of_toList e18
    clear e18
    go_enter Tryd.func42, Tryd.ntmps42
    go_wp2_with fail
    go_ret
    exact ⟨rfl, rfl⟩
  have b18 : (s.toList == [60, 60]) = false := beq_eq_false_iff_ne.2 e18
  by_cases e19 : s.toList = [62, 62]
  · obtain rfl := of_toList e19
    clear e19
    go_enter Tryd.func42, Tryd.ntmps42
    go_wp2_with fail
    go_ret
    exact ⟨rfl, rfl⟩
  have b19 : (s.toList == [62, 62]) = false := beq_eq_false_iff_ne.2 e19
  by_cases e20 : s.toList = [38, 38]
  · obtain rfl := of_toList e20
    clear e20
    go_enter Tryd.func42, Tryd.ntmps42
    go_wp2_with fail
    go_ret
    exact ⟨rfl, rfl⟩
  have b20 : (s.toList == [38, 38]) = false := beq_eq_false_iff_ne.2 e20
  by_cases e21 : s.toList = [124, 124]
  · obtain rfl := of_toList e21
    clear e21
    go_enter Tryd.func42, Tryd.ntmps42
    go_wp2_with fail
    go_ret
    exact ⟨rfl, rfl⟩
  have b21 : (s.toList == [124, 124]) = false := beq_eq_false_iff_ne.2 e21
  by_cases e22 : s.toList = [63, 63]
  · obtain rfl := of_toList e22
    clear e22
    go_enter Tryd.func42, Tryd.ntmps42
    go_wp2_with fail
    go_ret
    exact ⟨rfl, rfl⟩
  have b22 : (s.toList == [63, 63]) = false := beq_eq_false_iff_ne.2 e22
  by_cases e23 : s.toList = [63, 46]
  · obtain rfl := of_toList e23
    clear e23
    go_enter Tryd.func42, Tryd.ntmps42
    go_wp2_with fail
    go_ret
    exact ⟨rfl, rfl⟩
  have b23 : (s.toList == [63, 46]) = false := beq_eq_false_iff_ne.2 e23
  by_cases e24 : s.toList = [43, 61]
  · obtain rfl := of_toList e24
    clear e24
    go_enter Tryd.func42, Tryd.ntmps42
    go_wp2_with fail
    go_ret
    exact ⟨rfl, rfl⟩
  have b24 : (s.toList == [43, 61]) = false := beq_eq_false_iff_ne.2 e24
  by_cases e25 : s.toList = [45, 61]
  · obtain rfl := of_toList e25
    clear e25
    go_enter Tryd.func42, Tryd.ntmps42
    go_wp2_with fail
    go_ret
    exact ⟨rfl, rfl⟩
  have b25 : (s.toList == [45, 61]) = false := beq_eq_false_iff_ne.2 e25
  by_cases e26 : s.toList = [42, 61]
  · obtain rfl := of_toList e26
    clear e26
    go_enter Tryd.func42, Tryd.ntmps42
    go_wp2_with fail
    go_ret
    exact ⟨rfl, rfl⟩
  have b26 : (s.toList == [42, 61]) = false := beq_eq_false_iff_ne.2 e26
  by_cases e27 : s.toList = [47, 61]
  · obtain rfl := of_toList e27
    clear e27
    go_enter Tryd.func42, Tryd.ntmps42
    go_wp2_with fail
    go_ret
    exact ⟨rfl, rfl⟩
  have b27 : (s.toList == [47, 61]) = false := beq_eq_false_iff_ne.2 e27
  by_cases e28 : s.toList = [37, 61]
  · obtain rfl := of_toList e28
    clear e28
    go_enter Tryd.func42, Tryd.ntmps42
    go_wp2_with fail
    go_ret
    exact ⟨rfl, rfl⟩
  have b28 : (s.toList == [37, 61]) = false := beq_eq_false_iff_ne.2 e28
  by_cases e29 : s.toList = [38, 61]
  · obtain rfl := of_toList e29
    clear e29
    go_enter Tryd.func42, Tryd.ntmps42
    go_wp2_with fail
    go_ret
    exact ⟨rfl, rfl⟩
  have b29 : (s.toList == [38, 61]) = false := beq_eq_false_iff_ne.2 e29
  by_cases e30 : s.toList = [124, 61]
  · obtain rfl := of_toList e30
    clear e30
    go_enter Tryd.func42, Tryd.ntmps42
    go_wp2_with fail
    go_ret
    exact ⟨rfl, rfl⟩
  have b30 : (s.toList == [124, 61]) = false := beq_eq_false_iff_ne.2 e30
  by_cases e31 : s.toList = [94, 61]
  · obtain rfl := of_toList e31
    clear e31
    go_enter Tryd.func42, Tryd.ntmps42
    go_wp2_with fail
    go_ret
    exact ⟨rfl, rfl⟩
  have b31 : (s.toList == [94, 61]) = false := beq_eq_false_iff_ne.2 e31
  by_cases e32 : s.toList = [61, 62]
  · obtain rfl := of_toList e32
    clear e32
    go_enter Tryd.func42, Tryd.ntmps42
    go_wp2_with fail
    go_ret
    exact ⟨rfl, rfl⟩
  have b32 : (s.toList == [61, 62]) = false := beq_eq_false_iff_ne.2 e32
  have Hn : Hid (joinB s.data.toList = false) := Lib.hid (elem_no (l := joinL) (by
    rw [← Lib.toList_data]
    intro y hy e
    simp only [joinL, List.mem_cons, List.not_mem_nil, or_false] at hy
    rcases hy with rfl | rfl | rfl | rfl | rfl | rfl | rfl | rfl | rfl | rfl | rfl | rfl | rfl | rfl | rfl | rfl | rfl | rfl | rfl | rfl | rfl | rfl | rfl | rfl | rfl | rfl | rfl | rfl | rfl | rfl | rfl | rfl | rfl
    · exact e0 e
    · exact e1 e
    · exact e2 e
    · exact e3 e
    · exact e4 e
    · exact e5 e
    · exact e6 e
    · exact e7 e
    · exact e8 e
    · exact e9 e
    · exact e10 e
    · exact e11 e
    · exact e12 e
    · exact e13 e
    · exact e14 e
    · exact e15 e
    · exact e16 e
    · exact e17 e
    · exact e18 e
    · exact e19 e
    · exact e20 e
    · exact e21 e
    · exact e22 e
    · exact e23 e
    · exact e24 e
    · exact e25 e
    · exact e26 e
    · exact e27 e
    · exact e28 e
    · exact e29 e
    · exact e30 e
    · exact e31 e
    · exact e32 e))
  clear e0 e1 e2 e3 e4 e5 e6 e7 e8 e9 e10 e11 e12 e13 e14 e15 e16 e17 e18 e19 e20 e21 e22 e23 e24 e25 e26 e27 e28 e29 e30 e31 e32
  go_enter Tryd.func42, Tryd.ntmps42
  go_wp2_with fail
  go_ret
  exact ⟨Uni.ret_bool Hn.out.symm, rfl⟩

end Lex
end Go.Proofs.YtggibhlmnfodaaaDoor
