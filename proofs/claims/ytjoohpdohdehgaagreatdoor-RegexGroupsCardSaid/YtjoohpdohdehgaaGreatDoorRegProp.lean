/-
  The names of properties.
-/
import Derived.Test.YtjoohpdohdehgaaGreatDoorRegSyn
namespace Go.Proofs.YtjoohpdohdehgaaGreatDoor
namespace Reg
open Go.RowKit

theorem of_toList {s : ByteArray} {l : List UInt8} (h : s.toList = l) : s = ⟨l.toArray⟩ := by
  rw [Lib.toList_data] at h
  rw [← ofL_eq s, h]; rfl
theorem elem_no {l : List (List UInt8)} {x : List UInt8} (h : ∀ y ∈ l, x ≠ y) : l.elem x = false := by
  cases e : l.elem x with
  | false => rfl
  | true => exact absurd rfl (h x (List.elem_iff.1 e))

set_option maxHeartbeats 1000000 in
theorem category_any (s : ByteArray) (w : World) :
    Calls Tryz.prog 116 #[.string s] w fun e w' => e = .returned (.bool (catB s.data.toList)) ∧ w = w' := by
  by_cases e0 : s.toList = [76]
  · obtain rfl := of_toList e0
    clear e0
    go_enter Tryz.func116, Tryz.ntmps116
    go_wp2_with fail
    go_ret
    exact ⟨rfl, rfl⟩
  have b0 : (s.toList == [76]) = false := beq_eq_false_iff_ne.2 e0
  by_cases e1 : s.toList = [76, 117]
  · obtain rfl := of_toList e1
    clear e1
    go_enter Tryz.func116, Tryz.ntmps116
    go_wp2_with fail
    go_ret
    exact ⟨rfl, rfl⟩
  have b1 : (s.toList == [76, 117]) = false := beq_eq_false_iff_ne.2 e1
  by_cases e2 : s.toList = [76, 108]
  · obtain rfl := of_toList e2
    clear e2
    go_enter Tryz.func116, Tryz.ntmps116
    go_wp2_with fail
    go_ret
    exact ⟨rfl, rfl⟩
  have b2 : (s.toList == [76, 108]) = false := beq_eq_false_iff_ne.2 e2
  by_cases e3 : s.toList = [76, 116]
  · obtain rfl := of_toList e3
    clear e3
    go_enter Tryz.func116, Tryz.ntmps116
    go_wp2_with fail
    go_ret
    exact ⟨rfl, rfl⟩
  have b3 : (s.toList == [76, 116]) = false := beq_eq_false_iff_ne.2 e3
  by_cases e4 : s.toList = [76, 109]
  · obtain rfl := of_toList e4
    clear e4
    go_enter Tryz.func116, Tryz.ntmps116
    go_wp2_with fail
    go_ret
    exact ⟨rfl, rfl⟩
  have b4 : (s.toList == [76, 109]) = false := beq_eq_false_iff_ne.2 e4
  by_cases e5 : s.toList = [76, 111]
  · obtain rfl := of_toList e5
    clear e5
    go_enter Tryz.func116, Tryz.ntmps116
    go_wp2_with fail
    go_ret
    exact ⟨rfl, rfl⟩
  have b5 : (s.toList == [76, 111]) = false := beq_eq_false_iff_ne.2 e5
  by_cases e6 : s.toList = [77]
  · obtain rfl := of_toList e6
    clear e6
    go_enter Tryz.func116, Tryz.ntmps116
    go_wp2_with fail
    go_ret
    exact ⟨rfl, rfl⟩
  have b6 : (s.toList == [77]) = false := beq_eq_false_iff_ne.2 e6
  by_cases e7 : s.toList = [77, 110]
  · obtain rfl := of_toList e7
    clear e7
    go_enter Tryz.func116, Tryz.ntmps116
    go_wp2_with fail
    go_ret
    exact ⟨rfl, rfl⟩
  have b7 : (s.toList == [77, 110]) = false := beq_eq_false_iff_ne.2 e7
  by_cases e8 : s.toList = [78]
  · obtain rfl := of_toList e8
    clear e8
    go_enter Tryz.func116, Tryz.ntmps116
    go_wp2_with fail
    go_ret
    exact ⟨rfl, rfl⟩
  have b8 : (s.toList == [78]) = false := beq_eq_false_iff_ne.2 e8
  by_cases e9 : s.toList = [78, 100]
  · obtain rfl := of_toList e9
    clear e9
    go_enter Tryz.func116, Tryz.ntmps116
    go_wp2_with fail
    go_ret
    exact ⟨rfl, rfl⟩
  have b9 : (s.toList == [78, 100]) = false := beq_eq_false_iff_ne.2 e9
  by_cases e10 : s.toList = [80]
  · obtain rfl := of_toList e10
    clear e10
    go_enter Tryz.func116, Tryz.ntmps116
    go_wp2_with fail
    go_ret
    exact ⟨rfl, rfl⟩
  have b10 : (s.toList == [80]) = false := beq_eq_false_iff_ne.2 e10
  by_cases e11 : s.toList = [83]
  · obtain rfl := of_toList e11
    clear e11
    go_enter Tryz.func116, Tryz.ntmps116
    go_wp2_with fail
    go_ret
    exact ⟨rfl, rfl⟩
  have b11 : (s.toList == [83]) = false := beq_eq_false_iff_ne.2 e11
  by_cases e12 : s.toList = [90]
  · obtain rfl := of_toList e12
    clear e12
    go_enter Tryz.func116, Tryz.ntmps116
    go_wp2_with fail
    go_ret
    exact ⟨rfl, rfl⟩
  have b12 : (s.toList == [90]) = false := beq_eq_false_iff_ne.2 e12
  have Hn : Hid (catB s.data.toList = false) := Lib.hid (elem_no (l := catsL) (by
    rw [← Lib.toList_data]
    intro y hy e
    simp only [catsL, List.mem_cons, List.not_mem_nil, or_false] at hy
    rcases hy with rfl | rfl | rfl | rfl | rfl | rfl | rfl | rfl | rfl | rfl | rfl | rfl | rfl
    · exact e0 e
    · exact e1 e
    · exact e2 e
    · exact e3 e
    · exact e4 e
    · exact e5 e
    · exact e6 e
    · exact e7 e
    · exact e8 e
    · exact e9 e
    · exact e10 e
    · exact e11 e
    · exact e12 e))
  clear e0 e1 e2 e3 e4 e5 e6 e7 e8 e9 e10 e11 e12
  go_enter Tryz.func116, Tryz.ntmps116
  go_wp2_with fail
  go_ret
  exact ⟨Uni.ret_bool Hn.out.symm, rfl⟩

set_option maxHeartbeats 1000000 in
theorem binary_any (s : ByteArray) (w : World) :
    Calls Tryz.prog 117 #[.string s] w fun e w' => e = .returned (.bool (binB s.data.toList)) ∧ w = w' := by
  by_cases e0 : s.toList = [65, 83, 67, 73, 73]
  · obtain rfl := of_toList e0
    clear e0
    go_enter Tryz.func117, Tryz.ntmps117
    go_wp2_with fail
    go_ret
    exact ⟨rfl, rfl⟩
  have b0 : (s.toList == [65, 83, 67, 73, 73]) = false := beq_eq_false_iff_ne.2 e0
  by_cases e1 : s.toList = [65, 110, 121]
  · obtain rfl := of_toList e1
    clear e1
    go_enter Tryz.func117, Tryz.ntmps117
    go_wp2_with fail
    go_ret
    exact ⟨rfl, rfl⟩
  have b1 : (s.toList == [65, 110, 121]) = false := beq_eq_false_iff_ne.2 e1
  by_cases e2 : s.toList = [65, 108, 112, 104, 97, 98, 101, 116, 105, 99]
  · obtain rfl := of_toList e2
    clear e2
    go_enter Tryz.func117, Tryz.ntmps117
    go_wp2_with fail
    go_ret
    exact ⟨rfl, rfl⟩
  have b2 : (s.toList == [65, 108, 112, 104, 97, 98, 101, 116, 105, 99]) = false := beq_eq_false_iff_ne.2 e2
  by_cases e3 : s.toList = [73, 68, 95, 83, 116, 97, 114, 116]
  · obtain rfl := of_toList e3
    clear e3
    go_enter Tryz.func117, Tryz.ntmps117
    go_wp2_with fail
    go_ret
    exact ⟨rfl, rfl⟩
  have b3 : (s.toList == [73, 68, 95, 83, 116, 97, 114, 116]) = false := beq_eq_false_iff_ne.2 e3
  by_cases e4 : s.toList = [73, 68, 95, 67, 111, 110, 116, 105, 110, 117, 101]
  · obtain rfl := of_toList e4
    clear e4
    go_enter Tryz.func117, Tryz.ntmps117
    go_wp2_with fail
    go_ret
    exact ⟨rfl, rfl⟩
  have b4 : (s.toList == [73, 68, 95, 67, 111, 110, 116, 105, 110, 117, 101]) = false := beq_eq_false_iff_ne.2 e4
  by_cases e5 : s.toList = [87, 104, 105, 116, 101, 95, 83, 112, 97, 99, 101]
  · obtain rfl := of_toList e5
    clear e5
    go_enter Tryz.func117, Tryz.ntmps117
    go_wp2_with fail
    go_ret
    exact ⟨rfl, rfl⟩
  have b5 : (s.toList == [87, 104, 105, 116, 101, 95, 83, 112, 97, 99, 101]) = false := beq_eq_false_iff_ne.2 e5
  by_cases e6 : s.toList = [85, 112, 112, 101, 114, 99, 97, 115, 101]
  · obtain rfl := of_toList e6
    clear e6
    go_enter Tryz.func117, Tryz.ntmps117
    go_wp2_with fail
    go_ret
    exact ⟨rfl, rfl⟩
  have b6 : (s.toList == [85, 112, 112, 101, 114, 99, 97, 115, 101]) = false := beq_eq_false_iff_ne.2 e6
  by_cases e7 : s.toList = [76, 111, 119, 101, 114, 99, 97, 115, 101]
  · obtain rfl := of_toList e7
    clear e7
    go_enter Tryz.func117, Tryz.ntmps117
    go_wp2_with fail
    go_ret
    exact ⟨rfl, rfl⟩
  have b7 : (s.toList == [76, 111, 119, 101, 114, 99, 97, 115, 101]) = false := beq_eq_false_iff_ne.2 e7
  by_cases e8 : s.toList = [69, 109, 111, 106, 105]
  · obtain rfl := of_toList e8
    clear e8
    go_enter Tryz.func117, Tryz.ntmps117
    go_wp2_with fail
    go_ret
    exact ⟨rfl, rfl⟩
  have b8 : (s.toList == [69, 109, 111, 106, 105]) = false := beq_eq_false_iff_ne.2 e8
  have Hn : Hid (binB s.data.toList = false) := Lib.hid (elem_no (l := binsL) (by
    rw [← Lib.toList_data]
    intro y hy e
    simp only [binsL, List.mem_cons, List.not_mem_nil, or_false] at hy
    rcases hy with rfl | rfl | rfl | rfl | rfl | rfl | rfl | rfl | rfl
    · exact e0 e
    · exact e1 e
    · exact e2 e
    · exact e3 e
    · exact e4 e
    · exact e5 e
    · exact e6 e
    · exact e7 e
    · exact e8 e))
  clear e0 e1 e2 e3 e4 e5 e6 e7 e8
  go_enter Tryz.func117, Tryz.ntmps117
  go_wp2_with fail
  go_ret
  exact ⟨Uni.ret_bool Hn.out.symm, rfl⟩

set_option maxHeartbeats 1000000 in
theorem script_any (s : ByteArray) (w : World) :
    Calls Tryz.prog 118 #[.string s] w fun e w' => e = .returned (.bool (scrB s.data.toList)) ∧ w = w' := by
  by_cases e0 : s.toList = [76, 97, 116, 105, 110]
  · obtain rfl := of_toList e0
    clear e0
    go_enter Tryz.func118, Tryz.ntmps118
    go_wp2_with fail
    go_ret
    exact ⟨rfl, rfl⟩
  have b0 : (s.toList == [76, 97, 116, 105, 110]) = false := beq_eq_false_iff_ne.2 e0
  by_cases e1 : s.toList = [71, 114, 101, 101, 107]
  · obtain rfl := of_toList e1
    clear e1
    go_enter Tryz.func118, Tryz.ntmps118
    go_wp2_with fail
    go_ret
    exact ⟨rfl, rfl⟩
  have b1 : (s.toList == [71, 114, 101, 101, 107]) = false := beq_eq_false_iff_ne.2 e1
  by_cases e2 : s.toList = [67, 121, 114, 105, 108, 108, 105, 99]
  · obtain rfl := of_toList e2
    clear e2
    go_enter Tryz.func118, Tryz.ntmps118
    go_wp2_with fail
    go_ret
    exact ⟨rfl, rfl⟩
  have b2 : (s.toList == [67, 121, 114, 105, 108, 108, 105, 99]) = false := beq_eq_false_iff_ne.2 e2
  by_cases e3 : s.toList = [72, 97, 110]
  · obtain rfl := of_toList e3
    clear e3
    go_enter Tryz.func118, Tryz.ntmps118
    go_wp2_with fail
    go_ret
    exact ⟨rfl, rfl⟩
  have b3 : (s.toList == [72, 97, 110]) = false := beq_eq_false_iff_ne.2 e3
  by_cases e4 : s.toList = [72, 105, 114, 97, 103, 97, 110, 97]
  · obtain rfl := of_toList e4
    clear e4
    go_enter Tryz.func118, Tryz.ntmps118
    go_wp2_with fail
    go_ret
    exact ⟨rfl, rfl⟩
  have b4 : (s.toList == [72, 105, 114, 97, 103, 97, 110, 97]) = false := beq_eq_false_iff_ne.2 e4
  by_cases e5 : s.toList = [75, 97, 116, 97, 107, 97, 110, 97]
  · obtain rfl := of_toList e5
    clear e5
    go_enter Tryz.func118, Tryz.ntmps118
    go_wp2_with fail
    go_ret
    exact ⟨rfl, rfl⟩
  have b5 : (s.toList == [75, 97, 116, 97, 107, 97, 110, 97]) = false := beq_eq_false_iff_ne.2 e5
  by_cases e6 : s.toList = [65, 114, 97, 98, 105, 99]
  · obtain rfl := of_toList e6
    clear e6
    go_enter Tryz.func118, Tryz.ntmps118
    go_wp2_with fail
    go_ret
    exact ⟨rfl, rfl⟩
  have b6 : (s.toList == [65, 114, 97, 98, 105, 99]) = false := beq_eq_false_iff_ne.2 e6
  by_cases e7 : s.toList = [72, 101, 98, 114, 101, 119]
  · obtain rfl := of_toList e7
    clear e7
    go_enter Tryz.func118, Tryz.ntmps118
    go_wp2_with fail
    go_ret
    exact ⟨rfl, rfl⟩
  have b7 : (s.toList == [72, 101, 98, 114, 101, 119]) = false := beq_eq_false_iff_ne.2 e7
  have Hn : Hid (scrB s.data.toList = false) := Lib.hid (elem_no (l := scrsL) (by
    rw [← Lib.toList_data]
    intro y hy e
    simp only [scrsL, List.mem_cons, List.not_mem_nil, or_false] at hy
    rcases hy with rfl | rfl | rfl | rfl | rfl | rfl | rfl | rfl
    · exact e0 e
    · exact e1 e
    · exact e2 e
    · exact e3 e
    · exact e4 e
    · exact e5 e
    · exact e6 e
    · exact e7 e))
  clear e0 e1 e2 e3 e4 e5 e6 e7
  go_enter Tryz.func118, Tryz.ntmps118
  go_wp2_with fail
  go_ret
  exact ⟨Uni.ret_bool Hn.out.symm, rfl⟩

/-- What a cut at the first of a byte gives. -/
def cutL (l : List UInt8) (c : UInt8) : List UInt8 × List UInt8 × Bool :=
  if 0 ≤ Lib.indexByte l c then (l.take (Lib.indexByte l c).toNat, l.drop ((Lib.indexByte l c).toNat + 1), true) else (l, [], false)
theorem take_str (s : ByteArray) (k : Nat) : s.extract 0 k = Str.ofL (s.data.toList.take k) := by
  rw [← ofL_eq (s.extract 0 k)]
  congr 1
  rw [← Lib.toList_data, Lib.extract_toList]; simp
theorem drop_str (s : ByteArray) (k : Nat) : s.extract k s.size = Str.ofL (s.data.toList.drop k) := by
  rw [← ofL_eq (s.extract k s.size)]
  congr 1
  rw [← Lib.toList_data, Lib.extract_toList, List.take_of_length_le]; simp
theorem ret_three {a b c d : ByteArray} {x y : Bool} (h1 : a = c) (h2 : b = d) (h3 : x = y) : Ending.returned (.tuple #[.string a, .string b, .bool x]) = .returned (.tuple #[.string c, .string d, .bool y]) := by rw [h1, h2, h3]
theorem byte_range (l : List UInt8) (c : UInt8) (h : 0 ≤ Lib.indexByte l c) : ∃ k : Nat, k < l.length ∧ Lib.indexByte l c = k := by
  obtain ⟨k, hk⟩ := Int.eq_ofNat_of_zero_le h
  obtain ⟨h1, _⟩ := Lib.indexByte_some hk
  exact ⟨k, (List.getElem?_eq_some_iff.1 h1).1, hk⟩

set_option maxHeartbeats 1000000 in
theorem lcut_any (s : ByteArray) (c : UInt8) (w : World) (hs : s.size ≤ 4096) :
    Calls Tryz.prog 130 #[.string s, .string ⟨#[c]⟩] w fun e w' => e = .returned (.tuple #[.string (Str.ofL (cutL s.data.toList c).1), .string (Str.ofL (cutL s.data.toList c).2.1), .bool (cutL s.data.toList c).2.2]) ∧ Below w.heap.size w w' := by
  by_cases h0 : 0 ≤ Lib.indexByte s.data.toList c
  · obtain ⟨k, hk, hi⟩ := byte_range _ _ h0
    have hks : k < s.size := by rw [Lib.size_eq]; exact hk
    have Hf : Hid (cutL s.data.toList c = (s.data.toList.take k, s.data.toList.drop (k + 1), true)) := Lib.hid (by rw [cutL, if_pos h0, hi]; rfl)
    have Hi := Lib.hid hi
    clear h0 hi hk
    go_enter Tryz.func130, Tryz.ntmps130
    go_wp2_with fail
    refine (Tryz.stringslite_Index_one s c _).mono ?_
    rintro e w' ⟨rfl, hw⟩
    rw [hw, Hi.out]
    clear hw
    go_wp2_with fail
    go_region
    all_goals (try go_wp2)
    all_goals go_ret3
    all_goals exact ⟨ret_three (by rw [Hf.out, take_str]) (by rw [Hf.out, drop_str]) (by rw [Hf.out]), (Below.refl _ _).drew⟩
  · have Hf : Hid (cutL s.data.toList c = (s.data.toList, [], false)) := Lib.hid (by rw [cutL, if_neg h0])
    have hi : Lib.indexByte s.data.toList c = -1 := by have := Lib.indexByte_ge s.data.toList c; omega
    have Hi := Lib.hid hi
    clear h0 hi
    go_enter Tryz.func130, Tryz.ntmps130
    go_wp2_with fail
    refine (Tryz.stringslite_Index_one s c _).mono ?_
    rintro e w' ⟨rfl, hw⟩
    rw [hw, Hi.out]
    clear hw
    go_wp2_with fail
    go_ret3
    exact ⟨ret_three (by rw [Hf.out, ofL_eq]) (by rw [Hf.out]; rfl) (by rw [Hf.out]), Below.refl _ _⟩

set_option maxHeartbeats 1000000 in
theorem cut_any (s : ByteArray) (c : UInt8) (w : World) (hs : s.size ≤ 4096) :
    Calls Tryz.prog 115 #[.string s, .string ⟨#[c]⟩] w fun e w' => e = .returned (.tuple #[.string (Str.ofL (cutL s.data.toList c).1), .string (Str.ofL (cutL s.data.toList c).2.1), .bool (cutL s.data.toList c).2.2]) ∧ Below w.heap.size w w' := by
  go_enter Tryz.func115, Tryz.ntmps115
  go_wp2_with fail
  refine (lcut_any s c _ hs).mono ?_
  rintro e w' ⟨rfl, hb⟩
  go_wp2_with fail
  go_ret3
  exact ⟨rfl, hb⟩

theorem key_cut : ∀ l : List UInt8, (0 ≤ Lib.indexByte l 61 → (Lib.indexByte l 61).toNat = (keyL l).length ∧ (keyL l).length < l.length) ∧ (¬ 0 ≤ Lib.indexByte l 61 → (keyL l).length = l.length)
  | [] => ⟨fun h => absurd h (by decide), fun _ => rfl⟩
  | x :: l => by
    have ih := key_cut l
    have hge := Lib.indexByte_ge l 61
    by_cases e : x = 61
    · subst e
      have h1 : Lib.indexByte (61 :: l) 61 = 0 := by rw [Lib.indexByte, if_pos (by decide)]
      have h2 : keyL (61 :: l) = [] := by unfold keyL; rw [List.takeWhile_cons_of_neg (by decide)]
      rw [h1, h2]
      exact ⟨fun _ => ⟨rfl, by simp⟩, fun h => absurd (by decide) h⟩
    · have h2 : keyL (x :: l) = x :: keyL l := by unfold keyL; rw [List.takeWhile_cons_of_pos (by simp [e])]
      have hx : (x == 61) = false := beq_eq_false_iff_ne.2 e
      rw [h2]
      by_cases c : 0 ≤ Lib.indexByte l 61
      · have h1 : Lib.indexByte (x :: l) 61 = Lib.indexByte l 61 + 1 := by rw [Lib.indexByte, hx, if_neg (by decide), if_neg (by simp; omega)]
        rw [h1]
        have := ih.1 c
        exact ⟨fun _ => ⟨by simp only [List.length_cons]; omega, by simp only [List.length_cons]; omega⟩, fun h => absurd (by omega) h⟩
      · have h1 : Lib.indexByte (x :: l) 61 = -1 := by rw [Lib.indexByte, hx, if_neg (by decide), if_pos (by simp; omega)]
        rw [h1]
        have := ih.2 c
        exact ⟨fun h => absurd h (by decide), fun _ => by simp only [List.length_cons]; omega⟩
theorem key_pre : ∀ l : List UInt8, l.take (keyL l).length = keyL l
  | [] => rfl
  | x :: l => by
    by_cases e : x = 61
    · subst e
      have h2 : keyL (61 :: l) = [] := by unfold keyL; rw [List.takeWhile_cons_of_neg (by decide)]
      rw [h2]; rfl
    · have h2 : keyL (x :: l) = x :: keyL l := by unfold keyL; rw [List.takeWhile_cons_of_pos (by simp [e])]
      rw [h2]
      simp only [List.length_cons, List.take_succ_cons]
      rw [key_pre l]
theorem cut_key (l : List UInt8) : cutL l 61 = if (keyL l).length = l.length then (l, [], false) else (keyL l, l.drop ((keyL l).length + 1), true) := by
  have h := key_cut l
  unfold cutL
  by_cases c : 0 ≤ Lib.indexByte l 61
  · have := h.1 c
    rw [if_pos c, if_neg (by omega), this.1, key_pre]
  · rw [if_neg c, if_pos (h.2 c)]

theorem cat_ofL (l : List UInt8) (w : World) : Calls Tryz.prog 116 #[.string (Str.ofL l)] w fun e w' => e = .returned (.bool (catB l)) ∧ w = w' := category_any (Str.ofL l) w
theorem bin_ofL (l : List UInt8) (w : World) : Calls Tryz.prog 117 #[.string (Str.ofL l)] w fun e w' => e = .returned (.bool (binB l)) ∧ w = w' := binary_any (Str.ofL l) w
theorem scr_ofL (l : List UInt8) (w : World) : Calls Tryz.prog 118 #[.string (Str.ofL l)] w fun e w' => e = .returned (.bool (scrB l)) ∧ w = w' := script_any (Str.ofL l) w

set_option maxHeartbeats 2000000 in
theorem known_any (l : List UInt8) (w : World) (hs : l.length ≤ 4096) :
    Calls Tryz.prog 109 #[.string (Str.ofL l)] w fun e w' => e = .returned (.bool (knownB l)) ∧ Below w.heap.size w w' := by
  have C := Lib.hid (cut_any (Str.ofL l) 61 w hs)
  have HK := Lib.hid (cut_key l)
  by_cases h : (keyL l).length = l.length
  · have HC : Hid (cutL (Str.ofL l).data.toList 61 = (l, [], false)) := Lib.hid (by rw [show (Str.ofL l).data.toList = l from rfl, HK.out, if_pos h])
    have HR : Hid (knownB l = (catB l || binB l)) := Lib.hid (by unfold knownB; rw [if_pos h])
    clear h
    go_enter Tryz.func109, Tryz.ntmps109
    go_wp2_with fail
    refine C.out.mono ?_
    rintro e w1 ⟨rfl, hb⟩
    rw [HC.out]
    go_wp2_with fail
    refine (cat_ofL l _).mono ?_
    rintro e w2 ⟨rfl, rfl⟩
    cases hc : catB l with
    | true =>
      go_wp2_with fail
      go_ret
      exact ⟨Uni.ret_bool (by rw [HR.out, hc]; rfl), hb⟩
    | false =>
      have Hc := Lib.hid hc; clear hc
      go_wp2_with fail
      refine (bin_ofL l _).mono ?_
      rintro e w2 ⟨rfl, rfl⟩
      go_wp2_with fail
      go_ret
      exact ⟨Uni.ret_bool (by rw [HR.out, Hc.out]; rfl), hb⟩
  · have HC : Hid (cutL (Str.ofL l).data.toList 61 = (keyL l, l.drop ((keyL l).length + 1), true)) := Lib.hid (by rw [show (Str.ofL l).data.toList = l from rfl, HK.out, if_neg h])
    have HR : Hid (knownB l = if gcB (keyL l) then catB (l.drop ((keyL l).length + 1)) else scB (keyL l) && scrB (l.drop ((keyL l).length + 1))) := Lib.hid (by unfold knownB; rw [if_neg h])
    clear h
    generalize l.drop ((keyL l).length + 1) = v at *
    generalize keyL l = k at *
    by_cases e0 : k = [71, 101, 110, 101, 114, 97, 108, 95, 67, 97, 116, 101, 103, 111, 114, 121]
    · subst e0
      have HR2 : Hid (knownB l = catB v) := Lib.hid (by rw [HR.out]; rfl)
      go_enter Tryz.func109, Tryz.ntmps109
      go_wp2_with fail
      refine C.out.mono ?_
      rintro e w1 ⟨rfl, hb⟩
      rw [HC.out]
      rw [show Str.ofL [71, 101, 110, 101, 114, 97, 108, 95, 67, 97, 116, 101, 103, 111, 114, 121] = ⟨#[71, 101, 110, 101, 114, 97, 108, 95, 67, 97, 116, 101, 103, 111, 114, 121]⟩ from rfl]
      go_wp2_with fail
      refine (cat_ofL v _).mono ?_
      rintro e w2 ⟨rfl, rfl⟩
      go_wp2_with fail
      go_ret
      exact ⟨Uni.ret_bool HR2.out.symm, hb⟩
    have b0 : ((Str.ofL k).toList == [71, 101, 110, 101, 114, 97, 108, 95, 67, 97, 116, 101, 103, 111, 114, 121]) = false := by rw [ofL_toList]; exact beq_eq_false_iff_ne.2 e0
    by_cases e1 : k = [103, 99]
    · subst e1
      have HR2 : Hid (knownB l = catB v) := Lib.hid (by rw [HR.out]; rfl)
      go_enter Tryz.func109, Tryz.ntmps109
      go_wp2_with fail
      refine C.out.mono ?_
      rintro e w1 ⟨rfl, hb⟩
      rw [HC.out]
      rw [show Str.ofL [103, 99] = ⟨#[103, 99]⟩ from rfl]
      go_wp2_with fail
      refine (cat_ofL v _).mono ?_
      rintro e w2 ⟨rfl, rfl⟩
      go_wp2_with fail
      go_ret
      exact ⟨Uni.ret_bool HR2.out.symm, hb⟩
    have b1 : ((Str.ofL k).toList == [103, 99]) = false := by rw [ofL_toList]; exact beq_eq_false_iff_ne.2 e1
    by_cases e2 : k = [83, 99, 114, 105, 112, 116]
    · subst e2
      have HR2 : Hid (knownB l = scrB v) := Lib.hid (by rw [HR.out]; rfl)
      go_enter Tryz.func109, Tryz.ntmps109
      go_wp2_with fail
      refine C.out.mono ?_
      rintro e w1 ⟨rfl, hb⟩
      rw [HC.out]
      rw [show Str.ofL [83, 99, 114, 105, 112, 116] = ⟨#[83, 99, 114, 105, 112, 116]⟩ from rfl]
      go_wp2_with fail
      refine (scr_ofL v _).mono ?_
      rintro e w2 ⟨rfl, rfl⟩
      go_wp2_with fail
      go_ret
      exact ⟨Uni.ret_bool HR2.out.symm, hb⟩
    have b2 : ((Str.ofL k).toList == [83, 99, 114, 105, 112, 116]) = false := by rw [ofL_toList]; exact beq_eq_false_iff_ne.2 e2
    by_cases e3 : k = [115, 99]
    · subst e3
      have HR2 : Hid (knownB l = scrB v) := Lib.hid (by rw [HR.out]; rfl)
      go_enter Tryz.func109, Tryz.ntmps109
      go_wp2_with fail
      refine C.out.mono ?_
      rintro e w1 ⟨rfl, hb⟩
      rw [HC.out]
      rw [show Str.ofL [115, 99] = ⟨#[115, 99]⟩ from rfl]
      go_wp2_with fail
      refine (scr_ofL v _).mono ?_
      rintro e w2 ⟨rfl, rfl⟩
      go_wp2_with fail
      go_ret
      exact ⟨Uni.ret_bool HR2.out.symm, hb⟩
    have b3 : ((Str.ofL k).toList == [115, 99]) = false := by rw [ofL_toList]; exact beq_eq_false_iff_ne.2 e3
    by_cases e4 : k = [83, 99, 114, 105, 112, 116, 95, 69, 120, 116, 101, 110, 115, 105, 111, 110, 115]
    · subst e4
      have HR2 : Hid (knownB l = scrB v) := Lib.hid (by rw [HR.out]; rfl)
      go_enter Tryz.func109, Tryz.ntmps109
      go_wp2_with fail
      refine C.out.mono ?_
      rintro e w1 ⟨rfl, hb⟩
      rw [HC.out]
      rw [show Str.ofL [83, 99, 114, 105, 112, 116, 95, 69, 120, 116, 101, 110, 115, 105, 111, 110, 115] = ⟨#[83, 99, 114, 105, 112, 116, 95, 69, 120, 116, 101, 110, 115, 105, 111, 110, 115]⟩ from rfl]
      go_wp2_with fail
      refine (scr_ofL v _).mono ?_
      rintro e w2 ⟨rfl, rfl⟩
      go_wp2_with fail
      go_ret
      exact ⟨Uni.ret_bool HR2.out.symm, hb⟩
    have b4 : ((Str.ofL k).toList == [83, 99, 114, 105, 112, 116, 95, 69, 120, 116, 101, 110, 115, 105, 111, 110, 115]) = false := by rw [ofL_toList]; exact beq_eq_false_iff_ne.2 e4
    by_cases e5 : k = [115, 99, 120]
    · subst e5
      have HR2 : Hid (knownB l = scrB v) := Lib.hid (by rw [HR.out]; rfl)
      go_enter Tryz.func109, Tryz.ntmps109
      go_wp2_with fail
      refine C.out.mono ?_
      rintro e w1 ⟨rfl, hb⟩
      rw [HC.out]
      rw [show Str.ofL [115, 99, 120] = ⟨#[115, 99, 120]⟩ from rfl]
      go_wp2_with fail
      refine (scr_ofL v _).mono ?_
      rintro e w2 ⟨rfl, rfl⟩
      go_wp2_with fail
      go_ret
      exact ⟨Uni.ret_bool HR2.out.symm, hb⟩
    have b5 : ((Str.ofL k).toList == [115, 99, 120]) = false := by rw [ofL_toList]; exact beq_eq_false_iff_ne.2 e5
    have HR2 : Hid (knownB l = false) := Lib.hid (by
      rw [HR.out, show gcB k = false from elem_no (l := gcsL) (x := k) ?_, show scB k = false from elem_no (l := scsL) (x := k) ?_]
      · rfl
      · intro y hy e
        simp only [scsL, List.mem_cons, List.not_mem_nil, or_false] at hy
        rcases hy with rfl | rfl | rfl | rfl
        · exact e2 e
        · exact e3 e
        · exact e4 e
        · exact e5 e
      · intro y hy e
        simp only [gcsL, List.mem_cons, List.not_mem_nil, or_false] at hy
        rcases hy with rfl | rfl
        · exact e0 e
        · exact e1 e)
    clear e0 e1 e2 e3 e4 e5
    go_enter Tryz.func109, Tryz.ntmps109
    go_wp2_with fail
    refine C.out.mono ?_
    rintro e w1 ⟨rfl, hb⟩
    rw [HC.out]
    go_wp2_with fail
    go_ret
    exact ⟨Uni.ret_bool HR2.out.symm, hb⟩

end Reg
end Go.Proofs.YtjoohpdohdehgaaGreatDoor
