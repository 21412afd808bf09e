/-
  The contract of the function that tells reserved words.
-/
import Derived.Test.YtggibhlmnfodaaaWordPlain
import Derived.Test.YtggibhlmnfodaaaUniWithin
namespace Go.Proofs.Ytggibhlmnfodaaa
namespace Word
open Go.RowKit

set_option maxHeartbeats 8000000 in
set_option maxRecDepth 20000 in
theorem reserved_any (s : ByteArray) (m : Bool) (w : World) :
    Calls Try.prog 8 #[.string s, .bool m] w fun e w' => e = .returned (.bool (resB s m)) ∧ w = w' := by
  by_cases e0 : s.toList = [97, 119, 97, 105, 116]
  · obtain rfl := of_toList e0
    clear e0
    go_enter Try.func8, Try.ntmps8
    go_wp2_with fail
    go_ret
    exact ⟨rfl, rfl⟩
  have b0 : (s.toList == [97, 119, 97, 105, 116]) = false := beq_eq_false_iff_ne.2 e0
  by_cases e1 : s.toList = [98, 114, 101, 97, 107]
  · obtain rfl := of_toList e1
    clear e1
    go_enter Try.func8, Try.ntmps8
    go_wp2_with fail
    go_ret
    exact ⟨rfl, rfl⟩
  have b1 : (s.toList == [98, 114, 101, 97, 107]) = false := beq_eq_false_iff_ne.2 e1
  by_cases e2 : s.toList = [99, 97, 115, 101]
  · obtain rfl := of_toList e2
    clear e2
    go_enter Try.func8, Try.ntmps8
    go_wp2_with fail
    go_ret
    exact ⟨rfl, rfl⟩
  have b2 : (s.toList == [99, 97, 115, 101]) = false := beq_eq_false_iff_ne.2 e2
  by_cases e3 : s.toList = [99, 97, 116, 99, 104]
  · obtain rfl := of_toList e3
    clear e3
    go_enter Try.func8, Try.ntmps8
    go_wp2_with fail
    go_ret
    exact ⟨rfl, rfl⟩
  have b3 : (s.toList == [99, 97, 116, 99, 104]) = false := beq_eq_false_iff_ne.2 e3
  by_cases e4 : s.toList = [99, 108, 97, 115, 115]
  · obtain rfl := of_toList e4
    clear e4
    go_enter Try.func8, Try.ntmps8
    go_wp2_with fail
    go_ret
    exact ⟨rfl, rfl⟩
  have b4 : (s.toList == [99, 108, 97, 115, 115]) = false := beq_eq_false_iff_ne.2 e4
  by_cases e5 : s.toList = [99, 111, 110, 115, 116]
  · obtain rfl := of_toList e5
    clear e5
    go_enter Try.func8, Try.ntmps8
    go_wp2_with fail
    go_ret
    exact ⟨rfl, rfl⟩
  have b5 : (s.toList == [99, 111, 110, 115, 116]) = false := beq_eq_false_iff_ne.2 e5
  by_cases e6 : s.toList = [99, 111, 110, 116, 105, 110, 117, 101]
  · obtain rfl := of_toList e6
    clear e6
    go_enter Try.func8, Try.ntmps8
    go_wp2_with fail
    go_ret
    exact ⟨rfl, rfl⟩
  have b6 : (s.toList == [99, 111, 110, 116, 105, 110, 117, 101]) = false := beq_eq_false_iff_ne.2 e6
  by_cases e7 : s.toList = [100, 101, 98, 117, 103, 103, 101, 114]
  · obtain rfl := of_toList e7
    clear e7
    go_enter Try.func8, Try.ntmps8
    go_wp2_with fail
    go_ret
    exact ⟨rfl, rfl⟩
  have b7 : (s.toList == [100, 101, 98, 117, 103, 103, 101, 114]) = false := beq_eq_false_iff_ne.2 e7
  by_cases e8 : s.toList = [100, 101, 102, 97, 117, 108, 116]
  · obtain rfl := of_toList e8
    clear e8
    go_enter Try.func8, Try.ntmps8
    go_wp2_with fail
    go_ret
    exact ⟨rfl, rfl⟩
  have b8 : (s.toList == [100, 101, 102, 97, 117, 108, 116]) = false := beq_eq_false_iff_ne.2 e8
  by_cases e9 : s.toList = [100, 101, 108, 101, 116, 101]
  · obtain rfl := of_toList e9
    clear e9
    go_enter Try.func8, Try.ntmps8
    go_wp2_with fail
    go_ret
    exact ⟨rfl, rfl⟩
  have b9 : (s.toList == [100, 101, 108, 101, 116, 101]) = false := beq_eq_false_iff_ne.2 e9
  by_cases e10 : s.toList = [100, 111]
  · obtain rfl := of_toList e10
    clear e10
    go_enter Try.func8, Try.ntmps8
    go_wp2_with fail
    go_ret
    exact ⟨rfl, rfl⟩
  have b10 : (s.toList == [100, 111]) = false := beq_eq_false_iff_ne.2 e10
  by_cases e11 : s.toList = [101, 108, 115, 101]
  · obtain rfl := of_toList e11
    clear e11
    go_enter Try.func8, Try.ntmps8
    go_wp2_with fail
    go_ret
    exact ⟨rfl, rfl⟩
  have b11 : (s.toList == [101, 108, 115, 101]) = false := beq_eq_false_iff_ne.2 e11
  by_cases e12 : s.toList = [101, 110, 117, 109]
  · obtain rfl := of_toList e12
    clear e12
    go_enter Try.func8, Try.ntmps8
    go_wp2_with fail
    go_ret
    exact ⟨rfl, rfl⟩
  have b12 : (s.toList == [101, 110, 117, 109]) = false := beq_eq_false_iff_ne.2 e12
  by_cases e13 : s.toList = [101, 120, 112, 111, 114, 116]
  · obtain rfl := of_toList e13
    clear e13
    go_enter Try.func8, Try.ntmps8
    go_wp2_with fail
    go_ret
    exact ⟨rfl, rfl⟩
  have b13 : (s.toList == [101, 120, 112, 111, 114, 116]) = false := beq_eq_false_iff_ne.2 e13
  by_cases e14 : s.toList = [101, 120, 116, 101, 110, 100, 115]
  · obtain rfl := of_toList e14
    clear e14
    go_enter Try.func8, Try.ntmps8
    go_wp2_with fail
    go_ret
    exact ⟨rfl, rfl⟩
  have b14 : (s.toList == [101, 120, 116, 101, 110, 100, 115]) = false := beq_eq_false_iff_ne.2 e14
  by_cases e15 : s.toList = [102, 97, 108, 115, 101]
  · obtain rfl := of_toList e15
    clear e15
    go_enter Try.func8, Try.ntmps8
    go_wp2_with fail
    go_ret
    exact ⟨rfl, rfl⟩
  have b15 : (s.toList == [102, 97, 108, 115, 101]) = false := beq_eq_false_iff_ne.2 e15
  by_cases e16 : s.toList = [102, 105, 110, 97, 108, 108, 121]
  · obtain rfl := of_toList e16
    clear e16
    go_enter Try.func8, Try.ntmps8
    go_wp2_with fail
    go_ret
    exact ⟨rfl, rfl⟩
  have b16 : (s.toList == [102, 105, 110, 97, 108, 108, 121]) = false := beq_eq_false_iff_ne.2 e16
  by_cases e17 : s.toList = [102, 111, 114]
  · obtain rfl := of_toList e17
    clear e17
    go_enter Try.func8, Try.ntmps8
    go_wp2_with fail
    go_ret
    exact ⟨rfl, rfl⟩
  have b17 : (s.toList == [102, 111, 114]) = false := beq_eq_false_iff_ne.2 e17
  by_cases e18 : s.toList = [102, 117, 110, 99, 116, 105, 111, 110]
  · obtain rfl := of_toList e18
    clear e18
    go_enter Try.func8, Try.ntmps8
    go_wp2_with fail
    go_ret
    exact ⟨rfl, rfl⟩
  have b18 : (s.toList == [102, 117, 110, 99, 116, 105, 111, 110]) = false := beq_eq_false_iff_ne.2 e18
  by_cases e19 : s.toList = [105, 102]
  · obtain rfl := of_toList e19
    clear e19
    go_enter Try.func8, Try.ntmps8
    go_wp2_with fail
    go_ret
    exact ⟨rfl, rfl⟩
  have b19 : (s.toList == [105, 102]) = false := beq_eq_false_iff_ne.2 e19
  by_cases e20 : s.toList = [105, 109, 112, 108, 101, 109, 101, 110, 116, 115]
  · obtain rfl := of_toList e20
    clear e20
    go_enter Try.func8, Try.ntmps8
    go_wp2_with fail
    go_ret
    exact ⟨rfl, rfl⟩
  have b20 : (s.toList == [105, 109, 112, 108, 101, 109, 101, 110, 116, 115]) = false := beq_eq_false_iff_ne.2 e20
  by_cases e21 : s.toList = [105, 109, 112, 111, 114, 116]
  · obtain rfl := of_toList e21
    clear e21
    go_enter Try.func8, Try.ntmps8
    go_wp2_with fail
    go_ret
    exact ⟨rfl, rfl⟩
  have b21 : (s.toList == [105, 109, 112, 111, 114, 116]) = false := beq_eq_false_iff_ne.2 e21
  by_cases e22 : s.toList = [105, 110]
  · obtain rfl := of_toList e22
    clear e22
    go_enter Try.func8, Try.ntmps8
    go_wp2_with fail
    go_ret
    exact ⟨rfl, rfl⟩
  have b22 : (s.toList == [105, 110]) = false := beq_eq_false_iff_ne.2 e22
  by_cases e23 : s.toList = [105, 110, 115, 116, 97, 110, 99, 101, 111, 102]
  · obtain rfl := of_toList e23
    clear e23
    go_enter Try.func8, Try.ntmps8
    go_wp2_with fail
    go_ret
    exact ⟨rfl, rfl⟩
  have b23 : (s.toList == [105, 110, 115, 116, 97, 110, 99, 101, 111, 102]) = false := beq_eq_false_iff_ne.2 e23
  by_cases e24 : s.toList = [105, 110, 116, 101, 114, 102, 97, 99, 101]
  · obtain rfl := of_toList e24
    clear e24
    go_enter Try.func8, Try.ntmps8
    go_wp2_with fail
    go_ret
    exact ⟨rfl, rfl⟩
  have b24 : (s.toList == [105, 110, 116, 101, 114, 102, 97, 99, 101]) = false := beq_eq_false_iff_ne.2 e24
  by_cases e25 : s.toList = [108, 101, 116]
  · obtain rfl := of_toList e25
    clear e25
    go_enter Try.func8, Try.ntmps8
    go_wp2_with fail
    go_ret
    exact ⟨rfl, rfl⟩
  have b25 : (s.toList == [108, 101, 116]) = false := beq_eq_false_iff_ne.2 e25
  by_cases e26 : s.toList = [110, 101, 119]
  · obtain rfl := of_toList e26
    clear e26
    go_enter Try.func8, Try.ntmps8
    go_wp2_with fail
    go_ret
    exact ⟨rfl, rfl⟩
  have b26 : (s.toList == [110, 101, 119]) = false := beq_eq_false_iff_ne.2 e26
  by_cases e27 : s.toList = [110, 117, 108, 108]
  · obtain rfl := of_toList e27
    clear e27
    go_enter Try.func8, Try.ntmps8
    go_wp2_with fail
    go_ret
    exact ⟨rfl, rfl⟩
  have b27 : (s.toList == [110, 117, 108, 108]) = false := beq_eq_false_iff_ne.2 e27
  by_cases e28 : s.toList = [112, 97, 99, 107, 97, 103, 101]
  · obtain rfl := of_toList e28
    clear e28
    go_enter Try.func8, Try.ntmps8
    go_wp2_with fail
    go_ret
    exact ⟨rfl, rfl⟩
  have b28 : (s.toList == [112, 97, 99, 107, 97, 103, 101]) = false := beq_eq_false_iff_ne.2 e28
  by_cases e29 : s.toList = [112, 114, 105, 118, 97, 116, 101]
  · obtain rfl := of_toList e29
    clear e29
    go_enter Try.func8, Try.ntmps8
    go_wp2_with fail
    go_ret
    exact ⟨rfl, rfl⟩
  have b29 : (s.toList == [112, 114, 105, 118, 97, 116, 101]) = false := beq_eq_false_iff_ne.2 e29
  by_cases e30 : s.toList = [112, 114, 111, 116, 101, 99, 116, 101, 100]
  · obtain rfl := of_toList e30
    clear e30
    go_enter Try.func8, Try.ntmps8
    go_wp2_with fail
    go_ret
    exact ⟨rfl, rfl⟩
  have b30 : (s.toList == [112, 114, 111, 116, 101, 99, 116, 101, 100]) = false := beq_eq_false_iff_ne.2 e30
  by_cases e31 : s.toList = [112, 117, 98, 108, 105, 99]
  · obtain rfl := of_toList e31
    clear e31
    go_enter Try.func8, Try.ntmps8
    go_wp2_with fail
    go_ret
    exact ⟨rfl, rfl⟩
  have b31 : (s.toList == [112, 117, 98, 108, 105, 99]) = false := beq_eq_false_iff_ne.2 e31
  by_cases e32 : s.toList = [114, 101, 116, 117, 114, 110]
  · obtain rfl := of_toList e32
    clear e32
    go_enter Try.func8, Try.ntmps8
    go_wp2_with fail
    go_ret
    exact ⟨rfl, rfl⟩
  have b32 : (s.toList == [114, 101, 116, 117, 114, 110]) = false := beq_eq_false_iff_ne.2 e32
  by_cases e33 : s.toList = [115, 116, 97, 116, 105, 99]
  · obtain rfl := of_toList e33
    clear e33
    go_enter Try.func8, Try.ntmps8
    go_wp2_with fail
    go_ret
    exact ⟨rfl, rfl⟩
  have b33 : (s.toList == [115, 116, 97, 116, 105, 99]) = false := beq_eq_false_iff_ne.2 e33
  by_cases e34 : s.toList = [115, 117, 112, 101, 114]
  · obtain rfl := of_toList e34
    clear e34
    go_enter Try.func8, Try.ntmps8
    go_wp2_with fail
    go_ret
    exact ⟨rfl, rfl⟩
  have b34 : (s.toList == [115, 117, 112, 101, 114]) = false := beq_eq_false_iff_ne.2 e34
  by_cases e35 : s.toList = [115, 119, 105, 116, 99, 104]
  · obtain rfl := of_toList e35
    clear e35
    go_enter Try.func8, Try.ntmps8
    go_wp2_with fail
    go_ret
    exact ⟨rfl, rfl⟩
  have b35 : (s.toList == [115, 119, 105, 116, 99, 104]) = false := beq_eq_false_iff_ne.2 e35
  by_cases e36 : s.toList = [116, 104, 105, 115]
  · obtain rfl := of_toList e36
    clear e36
    go_enter Try.func8, Try.ntmps8
    go_wp2_with fail
    go_ret
    exact ⟨rfl, rfl⟩
  have b36 : (s.toList == [116, 104, 105, 115]) = false := beq_eq_false_iff_ne.2 e36
  by_cases e37 : s.toList = [116, 104, 114, 111, 119]
  · obtain rfl := of_toList e37
    clear e37
    go_enter Try.func8, Try.ntmps8
    go_wp2_with fail
    go_ret
    exact ⟨rfl, rfl⟩
  have b37 : (s.toList == [116, 104, 114, 111, 119]) = false := beq_eq_false_iff_ne.2 e37
  by_cases e38 : s.toList = [116, 114, 117, 101]
  · obtain rfl := of_toList e38
    clear e38
    go_enter Try.func8, Try.ntmps8
    go_wp2_with fail
    go_ret
    exact ⟨rfl, rfl⟩
  have b38 : (s.toList == [116, 114, 117, 101]) = false := beq_eq_false_iff_ne.2 e38
  by_cases e39 : s.toList = [116, 114, 121]
  · obtain rfl := of_toList e39
    clear e39
    go_enter Try.func8, Try.ntmps8
    go_wp2_with fail
    go_ret
    exact ⟨rfl, rfl⟩
  have b39 : (s.toList == [116, 114, 121]) = false := beq_eq_false_iff_ne.2 e39
  by_cases e40 : s.toList = [116, 121, 112, 101, 111, 102]
  · obtain rfl := of_toList e40
    clear e40
    go_enter Try.func8, Try.ntmps8
    go_wp2_with fail
    go_ret
    exact ⟨rfl, rfl⟩
  have b40 : (s.toList == [116, 121, 112, 101, 111, 102]) = false := beq_eq_false_iff_ne.2 e40
  by_cases e41 : s.toList = [118, 97, 114]
  · obtain rfl := of_toList e41
    clear e41
    go_enter Try.func8, Try.ntmps8
    go_wp2_with fail
    go_ret
    exact ⟨rfl, rfl⟩
  have b41 : (s.toList == [118, 97, 114]) = false := beq_eq_false_iff_ne.2 e41
  by_cases e42 : s.toList = [118, 111, 105, 100]
  · obtain rfl := of_toList e42
    clear e42
    go_enter Try.func8, Try.ntmps8
    go_wp2_with fail
    go_ret
    exact ⟨rfl, rfl⟩
  have b42 : (s.toList == [118, 111, 105, 100]) = false := beq_eq_false_iff_ne.2 e42
  by_cases e43 : s.toList = [119, 104, 105, 108, 101]
  · obtain rfl := of_toList e43
    clear e43
    go_enter Try.func8, Try.ntmps8
    go_wp2_with fail
    go_ret
    exact ⟨rfl, rfl⟩
  have b43 : (s.toList == [119, 104, 105, 108, 101]) = false := beq_eq_false_iff_ne.2 e43
  by_cases e44 : s.toList = [119, 105, 116, 104]
  · obtain rfl := of_toList e44
    clear e44
    go_enter Try.func8, Try.ntmps8
    go_wp2_with fail
    go_ret
    exact ⟨rfl, rfl⟩
  have b44 : (s.toList == [119, 105, 116, 104]) = false := beq_eq_false_iff_ne.2 e44
  by_cases e45 : s.toList = [121, 105, 101, 108, 100]
  · obtain rfl := of_toList e45
    clear e45
    go_enter Try.func8, Try.ntmps8
    go_wp2_with fail
    go_ret
    exact ⟨rfl, rfl⟩
  have b45 : (s.toList == [121, 105, 101, 108, 100]) = false := beq_eq_false_iff_ne.2 e45
  have Hn : Hid (resB s m = false) := Lib.hid (by
    unfold resB
    rw [← Lib.toList_data, if_neg (show ¬ s.toList = awaitL from e0)]
    refine elem_no (l := resL) ?_
    intro y hy e
    simp only [resL, List.mem_cons, List.not_mem_nil, or_false] at hy
    rcases hy with rfl | rfl | rfl | rfl | rfl | rfl | rfl | rfl | rfl | rfl | rfl | rfl | rfl | rfl | rfl | rfl | rfl | rfl | rfl | rfl | rfl | rfl | rfl | rfl | rfl | rfl | rfl | rfl | rfl | rfl | rfl | rfl | rfl | rfl | rfl | rfl | rfl | rfl | rfl | rfl | rfl | rfl | rfl | rfl | rfl
    · exact e1 e
    · exact e2 e
    · exact e3 e
    · exact e4 e
    · exact e5 e
    · exact e6 e
    · exact e7 e
    · exact e8 e
    · exact e9 e
    · exact e10 e
    · exact e11 e
    · exact e12 e
    · exact e13 e
    · exact e14 e
    · exact e15 e
    · exact e16 e
    · exact e17 e
    · exact e18 e
    · exact e19 e
    · exact e20 e
    · exact e21 e
    · exact e22 e
    · exact e23 e
    · exact e24 e
    · exact e25 e
    · exact e26 e
    · exact e27 e
    · exact e28 e
    · exact e29 e
    · exact e30 e
    · exact e31 e
    · exact e32 e
    · exact e33 e
    · exact e34 e
    · exact e35 e
    · exact e36 e
    · exact e37 e
    · exact e38 e
    · exact e39 e
    · exact e40 e
    · exact e41 e
    · exact e42 e
    · exact e43 e
    · exact e44 e
    · exact e45 e)
  clear e0 e1 e2 e3 e4 e5 e6 e7 e8 e9 e10 e11 e12 e13 e14 e15 e16 e17 e18 e19 e20 e21 e22 e23 e24 e25 e26 e27 e28 e29 e30 e31 e32 e33 e34 e35 e36 e37 e38 e39 e40 e41 e42 e43 e44 e45
  go_enter Try.func8, Try.ntmps8
  go_wp2_with fail
  go_ret
  exact ⟨Uni.ret_bool Hn.out.symm, rfl⟩

end Word
end Go.Proofs.Ytggibhlmnfodaaa
