/-
  The contracts of the functions that tell operators.
-/
import Derived.Test.YtggibhlmnfodaaaWordPlain
import Derived.Test.YtggibhlmnfodaaaUniWithin
namespace Go.Proofs.Ytggibhlmnfodaaa
namespace Word
open Go.RowKit

set_option maxHeartbeats 8000000 in
set_option maxRecDepth 20000 in
theorem level_0 (w : World) : Calls Try.prog 10 #[.string ⟨#[42, 42]⟩] w fun e w' => e = .returned (.int .i64 12) ∧ w = w' := by
  go_enter Try.func10, Try.ntmps10
  go_wp2_with fail
  go_ret
  exact ⟨rfl, rfl⟩
set_option maxHeartbeats 8000000 in
set_option maxRecDepth 20000 in
theorem level_1 (w : World) : Calls Try.prog 10 #[.string ⟨#[42]⟩] w fun e w' => e = .returned (.int .i64 11) ∧ w = w' := by
  go_enter Try.func10, Try.ntmps10
  go_wp2_with fail
  go_ret
  exact ⟨rfl, rfl⟩
set_option maxHeartbeats 8000000 in
set_option maxRecDepth 20000 in
theorem level_2 (w : World) : Calls Try.prog 10 #[.string ⟨#[47]⟩] w fun e w' => e = .returned (.int .i64 11) ∧ w = w' := by
  go_enter Try.func10, Try.ntmps10
  go_wp2_with fail
  go_ret
  exact ⟨rfl, rfl⟩
set_option maxHeartbeats 8000000 in
set_option maxRecDepth 20000 in
theorem level_3 (w : World) : Calls Try.prog 10 #[.string ⟨#[37]⟩] w fun e w' => e = .returned (.int .i64 11) ∧ w = w' := by
  go_enter Try.func10, Try.ntmps10
  go_wp2_with fail
  go_ret
  exact ⟨rfl, rfl⟩
set_option maxHeartbeats 8000000 in
set_option maxRecDepth 20000 in
theorem level_4 (w : World) : Calls Try.prog 10 #[.string ⟨#[43]⟩] w fun e w' => e = .returned (.int .i64 10) ∧ w = w' := by
  go_enter Try.func10, Try.ntmps10
  go_wp2_with fail
  go_ret
  exact ⟨rfl, rfl⟩
set_option maxHeartbeats 8000000 in
set_option maxRecDepth 20000 in
theorem level_5 (w : World) : Calls Try.prog 10 #[.string ⟨#[45]⟩] w fun e w' => e = .returned (.int .i64 10) ∧ w = w' := by
  go_enter Try.func10, Try.ntmps10
  go_wp2_with fail
  go_ret
  exact ⟨rfl, rfl⟩
set_option maxHeartbeats 8000000 in
set_option maxRecDepth 20000 in
theorem level_6 (w : World) : Calls Try.prog 10 #[.string ⟨#[60, 60]⟩] w fun e w' => e = .returned (.int .i64 9) ∧ w = w' := by
  go_enter Try.func10, Try.ntmps10
  go_wp2_with fail
  go_ret
  exact ⟨rfl, rfl⟩
set_option maxHeartbeats 8000000 in
set_option maxRecDepth 20000 in
theorem level_7 (w : World) : Calls Try.prog 10 #[.string ⟨#[62, 62]⟩] w fun e w' => e = .returned (.int .i64 9) ∧ w = w' := by
  go_enter Try.func10, Try.ntmps10
  go_wp2_with fail
  go_ret
  exact ⟨rfl, rfl⟩
set_option maxHeartbeats 8000000 in
set_option maxRecDepth 20000 in
theorem level_8 (w : World) : Calls Try.prog 10 #[.string ⟨#[62, 62, 62]⟩] w fun e w' => e = .returned (.int .i64 9) ∧ w = w' := by
  go_enter Try.func10, Try.ntmps10
  go_wp2_with fail
  go_ret
  exact ⟨rfl, rfl⟩
set_option maxHeartbeats 8000000 in
set_option maxRecDepth 20000 in
theorem level_9 (w : World) : Calls Try.prog 10 #[.string ⟨#[60]⟩] w fun e w' => e = .returned (.int .i64 8) ∧ w = w' := by
  go_enter Try.func10, Try.ntmps10
  go_wp2_with fail
  go_ret
  exact ⟨rfl, rfl⟩
set_option maxHeartbeats 8000000 in
set_option maxRecDepth 20000 in
theorem level_10 (w : World) : Calls Try.prog 10 #[.string ⟨#[62]⟩] w fun e w' => e = .returned (.int .i64 8) ∧ w = w' := by
  go_enter Try.func10, Try.ntmps10
  go_wp2_with fail
  go_ret
  exact ⟨rfl, rfl⟩
set_option maxHeartbeats 8000000 in
set_option maxRecDepth 20000 in
theorem level_11 (w : World) : Calls Try.prog 10 #[.string ⟨#[60, 61]⟩] w fun e w' => e = .returned (.int .i64 8) ∧ w = w' := by
  go_enter Try.func10, Try.ntmps10
  go_wp2_with fail
  go_ret
  exact ⟨rfl, rfl⟩
set_option maxHeartbeats 8000000 in
set_option maxRecDepth 20000 in
theorem level_12 (w : World) : Calls Try.prog 10 #[.string ⟨#[62, 61]⟩] w fun e w' => e = .returned (.int .i64 8) ∧ w = w' := by
  go_enter Try.func10, Try.ntmps10
  go_wp2_with fail
  go_ret
  exact ⟨rfl, rfl⟩
set_option maxHeartbeats 8000000 in
set_option maxRecDepth 20000 in
theorem level_13 (w : World) : Calls Try.prog 10 #[.string ⟨#[105, 110]⟩] w fun e w' => e = .returned (.int .i64 8) ∧ w = w' := by
  go_enter Try.func10, Try.ntmps10
  go_wp2_with fail
  go_ret
  exact ⟨rfl, rfl⟩
set_option maxHeartbeats 8000000 in
set_option maxRecDepth 20000 in
theorem level_14 (w : World) : Calls Try.prog 10 #[.string ⟨#[105, 110, 115, 116, 97, 110, 99, 101, 111, 102]⟩] w fun e w' => e = .returned (.int .i64 8) ∧ w = w' := by
  go_enter Try.func10, Try.ntmps10
  go_wp2_with fail
  go_ret
  exact ⟨rfl, rfl⟩
set_option maxHeartbeats 8000000 in
set_option maxRecDepth 20000 in
theorem level_15 (w : World) : Calls Try.prog 10 #[.string ⟨#[61, 61]⟩] w fun e w' => e = .returned (.int .i64 7) ∧ w = w' := by
  go_enter Try.func10, Try.ntmps10
  go_wp2_with fail
  go_ret
  exact ⟨rfl, rfl⟩
set_option maxHeartbeats 8000000 in
set_option maxRecDepth 20000 in
theorem level_16 (w : World) : Calls Try.prog 10 #[.string ⟨#[33, 61]⟩] w fun e w' => e = .returned (.int .i64 7) ∧ w = w' := by
  go_enter Try.func10, Try.ntmps10
  go_wp2_with fail
  go_ret
  exact ⟨rfl, rfl⟩
set_option maxHeartbeats 8000000 in
set_option maxRecDepth 20000 in
theorem level_17 (w : World) : Calls Try.prog 10 #[.string ⟨#[61, 61, 61]⟩] w fun e w' => e = .returned (.int .i64 7) ∧ w = w' := by
  go_enter Try.func10, Try.ntmps10
  go_wp2_with fail
  go_ret
  exact ⟨rfl, rfl⟩
set_option maxHeartbeats 8000000 in
set_option maxRecDepth 20000 in
theorem level_18 (w : World) : Calls Try.prog 10 #[.string ⟨#[33, 61, 61]⟩] w fun e w' => e = .returned (.int .i64 7) ∧ w = w' := by
  go_enter Try.func10, Try.ntmps10
  go_wp2_with fail
  go_ret
  exact ⟨rfl, rfl⟩
set_option maxHeartbeats 8000000 in
set_option maxRecDepth 20000 in
theorem level_19 (w : World) : Calls Try.prog 10 #[.string ⟨#[38]⟩] w fun e w' => e = .returned (.int .i64 6) ∧ w = w' := by
  go_enter Try.func10, Try.ntmps10
  go_wp2_with fail
  go_ret
  exact ⟨rfl, rfl⟩
set_option maxHeartbeats 8000000 in
set_option maxRecDepth 20000 in
theorem level_20 (w : World) : Calls Try.prog 10 #[.string ⟨#[94]⟩] w fun e w' => e = .returned (.int .i64 5) ∧ w = w' := by
  go_enter Try.func10, Try.ntmps10
  go_wp2_with fail
  go_ret
  exact ⟨rfl, rfl⟩
set_option maxHeartbeats 8000000 in
set_option maxRecDepth 20000 in
theorem level_21 (w : World) : Calls Try.prog 10 #[.string ⟨#[124]⟩] w fun e w' => e = .returned (.int .i64 4) ∧ w = w' := by
  go_enter Try.func10, Try.ntmps10
  go_wp2_with fail
  go_ret
  exact ⟨rfl, rfl⟩
set_option maxHeartbeats 8000000 in
set_option maxRecDepth 20000 in
theorem level_22 (w : World) : Calls Try.prog 10 #[.string ⟨#[38, 38]⟩] w fun e w' => e = .returned (.int .i64 3) ∧ w = w' := by
  go_enter Try.func10, Try.ntmps10
  go_wp2_with fail
  go_ret
  exact ⟨rfl, rfl⟩
set_option maxHeartbeats 8000000 in
set_option maxRecDepth 20000 in
theorem level_23 (w : World) : Calls Try.prog 10 #[.string ⟨#[124, 124]⟩] w fun e w' => e = .returned (.int .i64 2) ∧ w = w' := by
  go_enter Try.func10, Try.ntmps10
  go_wp2_with fail
  go_ret
  exact ⟨rfl, rfl⟩
set_option maxHeartbeats 8000000 in
set_option maxRecDepth 20000 in
theorem level_24 (w : World) : Calls Try.prog 10 #[.string ⟨#[63, 63]⟩] w fun e w' => e = .returned (.int .i64 1) ∧ w = w' := by
  go_enter Try.func10, Try.ntmps10
  go_wp2_with fail
  go_ret
  exact ⟨rfl, rfl⟩
set_option maxHeartbeats 8000000 in
set_option maxRecDepth 20000 in
theorem level_no (s : ByteArray) (w : World) (b0 : (s.toList == [42, 42]) = false) (b1 : (s.toList == [42]) = false) (b2 : (s.toList == [47]) = false) (b3 : (s.toList == [37]) = false) (b4 : (s.toList == [43]) = false) (b5 : (s.toList == [45]) = false) (b6 : (s.toList == [60, 60]) = false) (b7 : (s.toList == [62, 62]) = false) (b8 : (s.toList == [62, 62, 62]) = false) (b9 : (s.toList == [60]) = false) (b10 : (s.toList == [62]) = false) (b11 : (s.toList == [60, 61]) = false) (b12 : (s.toList == [62, 61]) = false) (b13 : (s.toList == [105, 110]) = false) (b14 : (s.toList == [105, 110, 115, 116, 97, 110, 99, 101, 111, 102]) = false) (b15 : (s.toList == [61, 61]) = false) (b16 : (s.toList == [33, 61]) = false) (b17 : (s.toList == [61, 61, 61]) = false) (b18 : (s.toList == [33, 61, 61]) = false) (b19 : (s.toList == [38]) = false) (b20 : (s.toList == [94]) = false) (b21 : (s.toList == [124]) = false) (b22 : (s.toList == [38, 38]) = false) (b23 : (s.toList == [124, 124]) = false) (b24 : (s.toList == [63, 63]) = false) :
    Calls Try.prog 10 #[.string s] w fun e w' => e = .returned (.int .i64 0) ∧ w = w' := by
  go_enter Try.func10, Try.ntmps10
  go_wp2_with fail
  go_ret
  exact ⟨rfl, rfl⟩
theorem level_any (s : ByteArray) (w : World) :
    Calls Try.prog 10 #[.string s] w fun e w' => e = .returned (.int .i64 (levN s)) ∧ w = w' := by
  by_cases e0 : s.toList = [42, 42]
  · obtain rfl := of_toList e0
    exact level_0 w
  have b0 : (s.toList == [42, 42]) = false := beq_eq_false_iff_ne.2 e0
  by_cases e1 : s.toList = [42]
  · obtain rfl := of_toList e1
    exact level_1 w
  have b1 : (s.toList == [42]) = false := beq_eq_false_iff_ne.2 e1
  by_cases e2 : s.toList = [47]
  · obtain rfl := of_toList e2
    exact level_2 w
  have b2 : (s.toList == [47]) = false := beq_eq_false_iff_ne.2 e2
  by_cases e3 : s.toList = [37]
  · obtain rfl := of_toList e3
    exact level_3 w
  have b3 : (s.toList == [37]) = false := beq_eq_false_iff_ne.2 e3
  by_cases e4 : s.toList = [43]
  · obtain rfl := of_toList e4
    exact level_4 w
  have b4 : (s.toList == [43]) = false := beq_eq_false_iff_ne.2 e4
  by_cases e5 : s.toList = [45]
  · obtain rfl := of_toList e5
    exact level_5 w
  have b5 : (s.toList == [45]) = false := beq_eq_false_iff_ne.2 e5
  by_cases e6 : s.toList = [60, 60]
  · obtain rfl := of_toList e6
    exact level_6 w
  have b6 : (s.toList == [60, 60]) = false := beq_eq_false_iff_ne.2 e6
  by_cases e7 : s.toList = [62, 62]
  · obtain rfl := of_toList e7
    exact level_7 w
  have b7 : (s.toList == [62, 62]) = false := beq_eq_false_iff_ne.2 e7
  by_cases e8 : s.toList = [62, 62, 62]
  · obtain rfl := of_toList e8
    exact level_8 w
  have b8 : (s.toList == [62, 62, 62]) = false := beq_eq_false_iff_ne.2 e8
  by_cases e9 : s.toList = [60]
  · obtain rfl := of_toList e9
    exact level_9 w
  have b9 : (s.toList == [60]) = false := beq_eq_false_iff_ne.2 e9
  by_cases e10 : s.toList = [62]
  · obtain rfl := of_toList e10
    exact level_10 w
  have b10 : (s.toList == [62]) = false := beq_eq_false_iff_ne.2 e10
  by_cases e11 : s.toList = [60, 61]
  · obtain rfl := of_toList e11
    exact level_11 w
  have b11 : (s.toList == [60, 61]) = false := beq_eq_false_iff_ne.2 e11
  by_cases e12 : s.toList = [62, 61]
  · obtain rfl := of_toList e12
    exact level_12 w
  have b12 : (s.toList == [62, 61]) = false := beq_eq_false_iff_ne.2 e12
  by_cases e13 : s.toList = [105, 110]
  · obtain rfl := of_toList e13
    exact level_13 w
  have b13 : (s.toList == [105, 110]) = false := beq_eq_false_iff_ne.2 e13
  by_cases e14 : s.toList = [105, 110, 115, 116, 97, 110, 99, 101, 111, 102]
  · obtain rfl := of_toList e14
    exact level_14 w
  have b14 : (s.toList == [105, 110, 115, 116, 97, 110, 99, 101, 111, 102]) = false := beq_eq_false_iff_ne.2 e14
  by_cases e15 : s.toList = [61, 61]
  · obtain rfl := of_toList e15
    exact level_15 w
  have b15 : (s.toList == [61, 61]) = false := beq_eq_false_iff_ne.2 e15
  by_cases e16 : s.toList = [33, 61]
  · obtain rfl := of_toList e16
    exact level_16 w
  have b16 : (s.toList == [33, 61]) = false := beq_eq_false_iff_ne.2 e16
  by_cases e17 : s.toList = [61, 61, 61]
  · obtain rfl := of_toList e17
    exact level_17 w
  have b17 : (s.toList == [61, 61, 61]) = false := beq_eq_false_iff_ne.2 e17
  by_cases e18 : s.toList = [33, 61, 61]
  · obtain rfl := of_toList e18
    exact level_18 w
  have b18 : (s.toList == [33, 61, 61]) = false := beq_eq_false_iff_ne.2 e18
  by_cases e19 : s.toList = [38]
  · obtain rfl := of_toList e19
    exact level_19 w
  have b19 : (s.toList == [38]) = false := beq_eq_false_iff_ne.2 e19
  by_cases e20 : s.toList = [94]
  · obtain rfl := of_toList e20
    exact level_20 w
  have b20 : (s.toList == [94]) = false := beq_eq_false_iff_ne.2 e20
  by_cases e21 : s.toList = [124]
  · obtain rfl := of_toList e21
    exact level_21 w
  have b21 : (s.toList == [124]) = false := beq_eq_false_iff_ne.2 e21
  by_cases e22 : s.toList = [38, 38]
  · obtain rfl := of_toList e22
    exact level_22 w
  have b22 : (s.toList == [38, 38]) = false := beq_eq_false_iff_ne.2 e22
  by_cases e23 : s.toList = [124, 124]
  · obtain rfl := of_toList e23
    exact level_23 w
  have b23 : (s.toList == [124, 124]) = false := beq_eq_false_iff_ne.2 e23
  by_cases e24 : s.toList = [63, 63]
  · obtain rfl := of_toList e24
    exact level_24 w
  have b24 : (s.toList == [63, 63]) = false := beq_eq_false_iff_ne.2 e24
  have Hn : levN s = 0 := by
    unfold levN levL
    rw [← Lib.toList_data]
    refine lev_zero rowsL 0 _ ?_
    intro r hr y hy e
    simp only [rowsL, List.mem_cons, List.not_mem_nil, or_false] at hr
    rcases hr with rfl | rfl | rfl | rfl | rfl | rfl | rfl | rfl | rfl | rfl | rfl | rfl
    · simp only [List.mem_cons, List.not_mem_nil, or_false] at hy
      subst hy; exact e24 e
    · simp only [List.mem_cons, List.not_mem_nil, or_false] at hy
      subst hy; exact e23 e
    · simp only [List.mem_cons, List.not_mem_nil, or_false] at hy
      subst hy; exact e22 e
    · simp only [List.mem_cons, List.not_mem_nil, or_false] at hy
      subst hy; exact e21 e
    · simp only [List.mem_cons, List.not_mem_nil, or_false] at hy
      subst hy; exact e20 e
    · simp only [List.mem_cons, List.not_mem_nil, or_false] at hy
      subst hy; exact e19 e
    · simp only [List.mem_cons, List.not_mem_nil, or_false] at hy
      rcases hy with rfl | rfl | rfl | rfl
      · exact e15 e
      · exact e16 e
      · exact e17 e
      · exact e18 e
    · simp only [List.mem_cons, List.not_mem_nil, or_false] at hy
      rcases hy with rfl | rfl | rfl | rfl | rfl | rfl
      · exact e9 e
      · exact e10 e
      · exact e11 e
      · exact e12 e
      · exact e13 e
      · exact e14 e
    · simp only [List.mem_cons, List.not_mem_nil, or_false] at hy
      rcases hy with rfl | rfl | rfl
      · exact e6 e
      · exact e7 e
      · exact e8 e
    · simp only [List.mem_cons, List.not_mem_nil, or_false] at hy
      rcases hy with rfl | rfl
      · exact e4 e
      · exact e5 e
    · simp only [List.mem_cons, List.not_mem_nil, or_false] at hy
      rcases hy with rfl | rfl | rfl
      · exact e1 e
      · exact e2 e
      · exact e3 e
    · simp only [List.mem_cons, List.not_mem_nil, or_false] at hy
      subst hy; exact e0 e
  rw [Hn]
  exact level_no s w b0 b1 b2 b3 b4 b5 b6 b7 b8 b9 b10 b11 b12 b13 b14 b15 b16 b17 b18 b19 b20 b21 b22 b23 b24

theorem right_any (s : ByteArray) (w : World) :
    Calls Try.prog 12 #[.string s] w fun e w' => e = .returned (.bool (rightB s)) ∧ w = w' := by
  by_cases e0 : s.toList = [42, 42]
  · obtain rfl := of_toList e0
    clear e0
    go_enter Try.func12, Try.ntmps12
    go_wp2_with fail
    go_ret
    exact ⟨rfl, rfl⟩
  have b0 : (s.toList == [42, 42]) = false := beq_eq_false_iff_ne.2 e0
  have Hn : Hid (rightB s = false) := Lib.hid (by unfold rightB; rw [← Lib.toList_data]; exact decide_eq_false e0)
  clear e0
  go_enter Try.func12, Try.ntmps12
  go_wp2_with fail
  go_ret
  exact ⟨Uni.ret_bool Hn.out.symm, rfl⟩

theorem rright_any (s : ByteArray) (w : World) :
    Calls Try.prog 13 #[.string s] w fun e w' => e = .returned (.bool (rightB s)) ∧ w = w' := by
  by_cases e0 : s.toList = [42, 42]
  · obtain rfl := of_toList e0
    clear e0
    go_enter Try.func13, Try.ntmps13
    go_wp2_with fail
    go_ret
    exact ⟨rfl, rfl⟩
  have b0 : (s.toList == [42, 42]) = false := beq_eq_false_iff_ne.2 e0
  have Hn : Hid (rightB s = false) := Lib.hid (by unfold rightB; rw [← Lib.toList_data]; exact decide_eq_false e0)
  clear e0
  go_enter Try.func13, Try.ntmps13
  go_wp2_with fail
  go_ret
  exact ⟨Uni.ret_bool Hn.out.symm, rfl⟩

end Word
end Go.Proofs.Ytggibhlmnfodaaa
