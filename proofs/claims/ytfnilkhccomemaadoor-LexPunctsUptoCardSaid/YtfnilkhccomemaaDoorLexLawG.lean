/-
  The law 'LexPuncts'.
-/
import Derived.Test.YtfnilkhccomemaaDoorLexPunT
import Derived.Test.YtfnilkhccomemaaDoorLexCat
namespace Go.Proofs.YtfnilkhccomemaaDoor
namespace Lex
open Go.RowKit
open Str (lenL runeL)

theorem sign_cell (w : World) (j : Nat) (h : j < 57) : (w.alloc (.cells #[.string ⟨#[123]⟩, .string ⟨#[125]⟩, .string ⟨#[40]⟩, .string ⟨#[41]⟩, .string ⟨#[91]⟩, .string ⟨#[93]⟩, .string ⟨#[46]⟩, .string ⟨#[46, 46, 46]⟩, .string ⟨#[59]⟩, .string ⟨#[44]⟩, .string ⟨#[60]⟩, .string ⟨#[62]⟩, .string ⟨#[60, 61]⟩, .string ⟨#[62, 61]⟩, .string ⟨#[61, 61]⟩, .string ⟨#[33, 61]⟩, .string ⟨#[61, 61, 61]⟩, .string ⟨#[33, 61, 61]⟩, .string ⟨#[43]⟩, .string ⟨#[45]⟩, .string ⟨#[42]⟩, .string ⟨#[37]⟩, .string ⟨#[42, 42]⟩, .string ⟨#[43, 43]⟩, .string ⟨#[45, 45]⟩, .string ⟨#[60, 60]⟩, .string ⟨#[62, 62]⟩, .string ⟨#[62, 62, 62]⟩, .string ⟨#[38]⟩, .string ⟨#[124]⟩, .string ⟨#[94]⟩, .string ⟨#[33]⟩, .string ⟨#[126]⟩, .string ⟨#[38, 38]⟩, .string ⟨#[124, 124]⟩, .string ⟨#[63, 63]⟩, .string ⟨#[63]⟩, .string ⟨#[63, 46]⟩, .string ⟨#[58]⟩, .string ⟨#[61]⟩, .string ⟨#[43, 61]⟩, .string ⟨#[45, 61]⟩, .string ⟨#[42, 61]⟩, .string ⟨#[37, 61]⟩, .string ⟨#[42, 42, 61]⟩, .string ⟨#[60, 60, 61]⟩, .string ⟨#[62, 62, 61]⟩, .string ⟨#[62, 62, 62, 61]⟩, .string ⟨#[38, 61]⟩, .string ⟨#[124, 61]⟩, .string ⟨#[94, 61]⟩, .string ⟨#[38, 38, 61]⟩, .string ⟨#[124, 124, 61]⟩, .string ⟨#[63, 63, 61]⟩, .string ⟨#[61, 62]⟩, .string ⟨#[47]⟩, .string ⟨#[47, 61]⟩] 9)).cell? ⟨w.heap.size, j, none⟩ = some (.string (signOf j)) := by
  have h1 : (#[.string ⟨#[123]⟩, .string ⟨#[125]⟩, .string ⟨#[40]⟩, .string ⟨#[41]⟩, .string ⟨#[91]⟩, .string ⟨#[93]⟩, .string ⟨#[46]⟩, .string ⟨#[46, 46, 46]⟩, .string ⟨#[59]⟩, .string ⟨#[44]⟩, .string ⟨#[60]⟩, .string ⟨#[62]⟩, .string ⟨#[60, 61]⟩, .string ⟨#[62, 61]⟩, .string ⟨#[61, 61]⟩, .string ⟨#[33, 61]⟩, .string ⟨#[61, 61, 61]⟩, .string ⟨#[33, 61, 61]⟩, .string ⟨#[43]⟩, .string ⟨#[45]⟩, .string ⟨#[42]⟩, .string ⟨#[37]⟩, .string ⟨#[42, 42]⟩, .string ⟨#[43, 43]⟩, .string ⟨#[45, 45]⟩, .string ⟨#[60, 60]⟩, .string ⟨#[62, 62]⟩, .string ⟨#[62, 62, 62]⟩, .string ⟨#[38]⟩, .string ⟨#[124]⟩, .string ⟨#[94]⟩, .string ⟨#[33]⟩, .string ⟨#[126]⟩, .string ⟨#[38, 38]⟩, .string ⟨#[124, 124]⟩, .string ⟨#[63, 63]⟩, .string ⟨#[63]⟩, .string ⟨#[63, 46]⟩, .string ⟨#[58]⟩, .string ⟨#[61]⟩, .string ⟨#[43, 61]⟩, .string ⟨#[45, 61]⟩, .string ⟨#[42, 61]⟩, .string ⟨#[37, 61]⟩, .string ⟨#[42, 42, 61]⟩, .string ⟨#[60, 60, 61]⟩, .string ⟨#[62, 62, 61]⟩, .string ⟨#[62, 62, 62, 61]⟩, .string ⟨#[38, 61]⟩, .string ⟨#[124, 61]⟩, .string ⟨#[94, 61]⟩, .string ⟨#[38, 38, 61]⟩, .string ⟨#[124, 124, 61]⟩, .string ⟨#[63, 63, 61]⟩, .string ⟨#[61, 62]⟩, .string ⟨#[47]⟩, .string ⟨#[47, 61]⟩] : Array Value) = (signs.map fun l => Value.string (Str.ofL l)).toArray := rfl
  have h2 : (#[.string ⟨#[123]⟩, .string ⟨#[125]⟩, .string ⟨#[40]⟩, .string ⟨#[41]⟩, .string ⟨#[91]⟩, .string ⟨#[93]⟩, .string ⟨#[46]⟩, .string ⟨#[46, 46, 46]⟩, .string ⟨#[59]⟩, .string ⟨#[44]⟩, .string ⟨#[60]⟩, .string ⟨#[62]⟩, .string ⟨#[60, 61]⟩, .string ⟨#[62, 61]⟩, .string ⟨#[61, 61]⟩, .string ⟨#[33, 61]⟩, .string ⟨#[61, 61, 61]⟩, .string ⟨#[33, 61, 61]⟩, .string ⟨#[43]⟩, .string ⟨#[45]⟩, .string ⟨#[42]⟩, .string ⟨#[37]⟩, .string ⟨#[42, 42]⟩, .string ⟨#[43, 43]⟩, .string ⟨#[45, 45]⟩, .string ⟨#[60, 60]⟩, .string ⟨#[62, 62]⟩, .string ⟨#[62, 62, 62]⟩, .string ⟨#[38]⟩, .string ⟨#[124]⟩, .string ⟨#[94]⟩, .string ⟨#[33]⟩, .string ⟨#[126]⟩, .string ⟨#[38, 38]⟩, .string ⟨#[124, 124]⟩, .string ⟨#[63, 63]⟩, .string ⟨#[63]⟩, .string ⟨#[63, 46]⟩, .string ⟨#[58]⟩, .string ⟨#[61]⟩, .string ⟨#[43, 61]⟩, .string ⟨#[45, 61]⟩, .string ⟨#[42, 61]⟩, .string ⟨#[37, 61]⟩, .string ⟨#[42, 42, 61]⟩, .string ⟨#[60, 60, 61]⟩, .string ⟨#[62, 62, 61]⟩, .string ⟨#[62, 62, 62, 61]⟩, .string ⟨#[38, 61]⟩, .string ⟨#[124, 61]⟩, .string ⟨#[94, 61]⟩, .string ⟨#[38, 38, 61]⟩, .string ⟨#[124, 124, 61]⟩, .string ⟨#[63, 63, 61]⟩, .string ⟨#[61, 62]⟩, .string ⟨#[47]⟩, .string ⟨#[47, 61]⟩] : Array Value)[j]? = some (.string (signOf j)) := by
    rw [h1, List.getElem?_toArray, List.getElem?_map, List.getElem?_eq_getElem (show j < signs.length from h), Option.map_some, signOf, List.getD_eq_getElem?_getD, List.getElem?_eq_getElem (show j < signs.length from h)]; rfl
  clear h1
  generalize (#[.string ⟨#[123]⟩, .string ⟨#[125]⟩, .string ⟨#[40]⟩, .string ⟨#[41]⟩, .string ⟨#[91]⟩, .string ⟨#[93]⟩, .string ⟨#[46]⟩, .string ⟨#[46, 46, 46]⟩, .string ⟨#[59]⟩, .string ⟨#[44]⟩, .string ⟨#[60]⟩, .string ⟨#[62]⟩, .string ⟨#[60, 61]⟩, .string ⟨#[62, 61]⟩, .string ⟨#[61, 61]⟩, .string ⟨#[33, 61]⟩, .string ⟨#[61, 61, 61]⟩, .string ⟨#[33, 61, 61]⟩, .string ⟨#[43]⟩, .string ⟨#[45]⟩, .string ⟨#[42]⟩, .string ⟨#[37]⟩, .string ⟨#[42, 42]⟩, .string ⟨#[43, 43]⟩, .string ⟨#[45, 45]⟩, .string ⟨#[60, 60]⟩, .string ⟨#[62, 62]⟩, .string ⟨#[62, 62, 62]⟩, .string ⟨#[38]⟩, .string ⟨#[124]⟩, .string ⟨#[94]⟩, .string ⟨#[33]⟩, .string ⟨#[126]⟩, .string ⟨#[38, 38]⟩, .string ⟨#[124, 124]⟩, .string ⟨#[63, 63]⟩, .string ⟨#[63]⟩, .string ⟨#[63, 46]⟩, .string ⟨#[58]⟩, .string ⟨#[61]⟩, .string ⟨#[43, 61]⟩, .string ⟨#[45, 61]⟩, .string ⟨#[42, 61]⟩, .string ⟨#[37, 61]⟩, .string ⟨#[42, 42, 61]⟩, .string ⟨#[60, 60, 61]⟩, .string ⟨#[62, 62, 61]⟩, .string ⟨#[62, 62, 62, 61]⟩, .string ⟨#[38, 61]⟩, .string ⟨#[124, 61]⟩, .string ⟨#[94, 61]⟩, .string ⟨#[38, 38, 61]⟩, .string ⟨#[124, 124, 61]⟩, .string ⟨#[63, 63, 61]⟩, .string ⟨#[61, 62]⟩, .string ⟨#[47]⟩, .string ⟨#[47, 61]⟩] : Array Value) = cs at h2 ⊢
  have h3 := tok_new w cs 9
  unfold World.cell?
  rw [h3]
  exact h2
theorem sign_size (j : Nat) (h : j < 57) : (signOf j).size ≤ 4 ∧ 0 < (signOf j).size ∧ (signOf j).data.toList = signs.getD j [] := by
  have h1 := signs_ok _ (sign_mem j h)
  have h2 : (signOf j).size = (signs.getD j []).length := by simp [signOf, Str.ofL, ByteArray.size]
  have h3 := Str.pos_of_ne h1.1
  exact ⟨by omega, by omega, by simp [signOf, Str.ofL]⟩
theorem step_long (S A R : ByteArray) (q : Nat) (hA : A.data.toList = signs.getD q []) (hR : Str.ofL ((signs.take q).foldl (longer S.data.toList) []) = R) (hq : q < 57) :
    Str.ofL ((signs.take (q + 1)).foldl (longer S.data.toList) []) = if A.size ≤ S.size ∧ ((S.extract 0 A.size).toList == A.toList) = true ∧ R.size < A.size then A else R := by
  rw [signs_take q hq, List.foldl_append, List.foldl_cons, List.foldl_nil, ← hA]
  generalize (signs.take q).foldl (longer S.data.toList) [] = r at hR
  have e1 : A.data.toList.length = A.size := by simp
  have e2 : S.data.toList.length = S.size := by simp
  have e3 : R.size = r.length := by rw [← hR]; simp [Str.ofL, ByteArray.size]
  have e4 : ((S.extract 0 A.size).toList == A.toList) = true ↔ S.data.toList.take A.size = A.data.toList := by
    rw [beq_iff_eq, Lib.toList_data, Lib.toList_data]
    simp [List.extract_eq_take_drop]
  unfold longer
  rw [e1, e2, e3, ← hR]
  by_cases c : A.size ≤ S.size ∧ S.data.toList.take A.size = A.data.toList ∧ r.length < A.size
  · rw [if_pos c, if_pos ⟨c.1, e4.2 c.2.1, c.2.2⟩, ofL_list]
  · rw [if_neg c, if_neg (fun k => c ⟨k.1, e4.1 k.2.1, k.2.2⟩)]
theorem ba_two {S : ByteArray} {a b : UInt8} (h : pre [a, b] S.data.toList = true) : 1 < S.size ∧ (∀ h', S[0]'h' = a) ∧ (∀ h', S[1]'h' = b) := by
  have h1 := pre_len h
  have h2 : S.data.toList.take 2 = [a, b] := of_decide_eq_true h
  have h3 : S.data.toList.length = S.size := by simp
  have k0 : S.data.toList[0]? = some a := by have := congrArg (fun l => l[0]?) h2; simpa using this
  have k1 : S.data.toList[1]? = some b := by have := congrArg (fun l => l[1]?) h2; simpa using this
  refine ⟨by simp at h1; omega, fun h' => ?_, fun h' => ?_⟩
  · have := List.getElem?_eq_getElem (l := S.data.toList) (i := 0) (by rw [h3]; exact h')
    rw [k0] at this; exact (Option.some.inj this).symm
  · have := List.getElem?_eq_getElem (l := S.data.toList) (i := 1) (by rw [h3]; exact h')
    rw [k1] at this; exact (Option.some.inj this).symm
theorem j57 (z : Int) : ∃ j : Nat, j < 57 ∧ (IntKind.u64.wrap z).tmod 57 = (j : Int) := by
  have h1 : 0 ≤ IntKind.u64.wrap z := u64_nonneg z
  refine ⟨((IntKind.u64.wrap z).tmod 57).toNat, ?_, ?_⟩ <;> rw [Int.tmod_eq_emod_of_nonneg h1] <;> omega

set_option maxHeartbeats 16000000 in
set_option maxRecDepth 20000 in
theorem law_puncts (a0 : Option Addr) (len0 cap0 : Nat) (W : World) (hp : ∀ k, k < len0 → ∃ x z, a0 = some x ∧ W.cell? (x.add k) = some (.int .i64 z) ∧ x.block < W.heap.size) (hT : Tabs W.heap.size W) :
    Calls Tryd.prog 6 #[.slice a0 len0 cap0] W fun e w' => e = .returned (.bool true) ∧ Below W.heap.size W w' := by
  have HT := Lib.hid hT
  have HP := Lib.hid hp
  clear hT hp
  go_enter Tryd.func6, Tryd.ntmps6
  go_wp2_with fail
  refine (awake_any W HT.out).mono ?_
  rintro e w0 ⟨rfl, hb0⟩
  have HS : Hid (∀ j, j < 57 → (w0.alloc (.cells #[.string ⟨#[123]⟩, .string ⟨#[125]⟩, .string ⟨#[40]⟩, .string ⟨#[41]⟩, .string ⟨#[91]⟩, .string ⟨#[93]⟩, .string ⟨#[46]⟩, .string ⟨#[46, 46, 46]⟩, .string ⟨#[59]⟩, .string ⟨#[44]⟩, .string ⟨#[60]⟩, .string ⟨#[62]⟩, .string ⟨#[60, 61]⟩, .string ⟨#[62, 61]⟩, .string ⟨#[61, 61]⟩, .string ⟨#[33, 61]⟩, .string ⟨#[61, 61, 61]⟩, .string ⟨#[33, 61, 61]⟩, .string ⟨#[43]⟩, .string ⟨#[45]⟩, .string ⟨#[42]⟩, .string ⟨#[37]⟩, .string ⟨#[42, 42]⟩, .string ⟨#[43, 43]⟩, .string ⟨#[45, 45]⟩, .string ⟨#[60, 60]⟩, .string ⟨#[62, 62]⟩, .string ⟨#[62, 62, 62]⟩, .string ⟨#[38]⟩, .string ⟨#[124]⟩, .string ⟨#[94]⟩, .string ⟨#[33]⟩, .string ⟨#[126]⟩, .string ⟨#[38, 38]⟩, .string ⟨#[124, 124]⟩, .string ⟨#[63, 63]⟩, .string ⟨#[63]⟩, .string ⟨#[63, 46]⟩, .string ⟨#[58]⟩, .string ⟨#[61]⟩, .string ⟨#[43, 61]⟩, .string ⟨#[45, 61]⟩, .string ⟨#[42, 61]⟩, .string ⟨#[37, 61]⟩, .string ⟨#[42, 42, 61]⟩, .string ⟨#[60, 60, 61]⟩, .string ⟨#[62, 62, 61]⟩, .string ⟨#[62, 62, 62, 61]⟩, .string ⟨#[38, 61]⟩, .string ⟨#[124, 61]⟩, .string ⟨#[94, 61]⟩, .string ⟨#[38, 38, 61]⟩, .string ⟨#[124, 124, 61]⟩, .string ⟨#[63, 63, 61]⟩, .string ⟨#[61, 62]⟩, .string ⟨#[47]⟩, .string ⟨#[47, 61]⟩] 9)).cell? ⟨w0.heap.size, j, none⟩ = some (.string (signOf j))) := Lib.hid (sign_cell w0)
  have HB := Lib.hid (bel_alloc hb0 (.cells #[.string ⟨#[123]⟩, .string ⟨#[125]⟩, .string ⟨#[40]⟩, .string ⟨#[41]⟩, .string ⟨#[91]⟩, .string ⟨#[93]⟩, .string ⟨#[46]⟩, .string ⟨#[46, 46, 46]⟩, .string ⟨#[59]⟩, .string ⟨#[44]⟩, .string ⟨#[60]⟩, .string ⟨#[62]⟩, .string ⟨#[60, 61]⟩, .string ⟨#[62, 61]⟩, .string ⟨#[61, 61]⟩, .string ⟨#[33, 61]⟩, .string ⟨#[61, 61, 61]⟩, .string ⟨#[33, 61, 61]⟩, .string ⟨#[43]⟩, .string ⟨#[45]⟩, .string ⟨#[42]⟩, .string ⟨#[37]⟩, .string ⟨#[42, 42]⟩, .string ⟨#[43, 43]⟩, .string ⟨#[45, 45]⟩, .string ⟨#[60, 60]⟩, .string ⟨#[62, 62]⟩, .string ⟨#[62, 62, 62]⟩, .string ⟨#[38]⟩, .string ⟨#[124]⟩, .string ⟨#[94]⟩, .string ⟨#[33]⟩, .string ⟨#[126]⟩, .string ⟨#[38, 38]⟩, .string ⟨#[124, 124]⟩, .string ⟨#[63, 63]⟩, .string ⟨#[63]⟩, .string ⟨#[63, 46]⟩, .string ⟨#[58]⟩, .string ⟨#[61]⟩, .string ⟨#[43, 61]⟩, .string ⟨#[45, 61]⟩, .string ⟨#[42, 61]⟩, .string ⟨#[37, 61]⟩, .string ⟨#[42, 42, 61]⟩, .string ⟨#[60, 60, 61]⟩, .string ⟨#[62, 62, 61]⟩, .string ⟨#[62, 62, 62, 61]⟩, .string ⟨#[38, 61]⟩, .string ⟨#[124, 61]⟩, .string ⟨#[94, 61]⟩, .string ⟨#[38, 38, 61]⟩, .string ⟨#[124, 124, 61]⟩, .string ⟨#[63, 63, 61]⟩, .string ⟨#[61, 62]⟩, .string ⟨#[47]⟩, .string ⟨#[47, 61]⟩] 9))
  clear hb0
  go_wp2_with fail
  generalize w0.alloc (.cells #[.string ⟨#[123]⟩, .string ⟨#[125]⟩, .string ⟨#[40]⟩, .string ⟨#[41]⟩, .string ⟨#[91]⟩, .string ⟨#[93]⟩, .string ⟨#[46]⟩, .string ⟨#[46, 46, 46]⟩, .string ⟨#[59]⟩, .string ⟨#[44]⟩, .string ⟨#[60]⟩, .string ⟨#[62]⟩, .string ⟨#[60, 61]⟩, .string ⟨#[62, 61]⟩, .string ⟨#[61, 61]⟩, .string ⟨#[33, 61]⟩, .string ⟨#[61, 61, 61]⟩, .string ⟨#[33, 61, 61]⟩, .string ⟨#[43]⟩, .string ⟨#[45]⟩, .string ⟨#[42]⟩, .string ⟨#[37]⟩, .string ⟨#[42, 42]⟩, .string ⟨#[43, 43]⟩, .string ⟨#[45, 45]⟩, .string ⟨#[60, 60]⟩, .string ⟨#[62, 62]⟩, .string ⟨#[62, 62, 62]⟩, .string ⟨#[38]⟩, .string ⟨#[124]⟩, .string ⟨#[94]⟩, .string ⟨#[33]⟩, .string ⟨#[126]⟩, .string ⟨#[38, 38]⟩, .string ⟨#[124, 124]⟩, .string ⟨#[63, 63]⟩, .string ⟨#[63]⟩, .string ⟨#[63, 46]⟩, .string ⟨#[58]⟩, .string ⟨#[61]⟩, .string ⟨#[43, 61]⟩, .string ⟨#[45, 61]⟩, .string ⟨#[42, 61]⟩, .string ⟨#[37, 61]⟩, .string ⟨#[42, 42, 61]⟩, .string ⟨#[60, 60, 61]⟩, .string ⟨#[62, 62, 61]⟩, .string ⟨#[62, 62, 62, 61]⟩, .string ⟨#[38, 61]⟩, .string ⟨#[124, 61]⟩, .string ⟨#[94, 61]⟩, .string ⟨#[38, 38, 61]⟩, .string ⟨#[124, 124, 61]⟩, .string ⟨#[63, 63, 61]⟩, .string ⟨#[61, 62]⟩, .string ⟨#[47]⟩, .string ⟨#[47, 61]⟩] 9) = w1 at *
  generalize w0.heap.size = g at *
  go_loopw [4, 5] (fun s i wr => ∃ (k : Nat) (S : ByteArray), k ≤ 4 ∧ k ≤ len0 ∧ s = .string S ∧ i = .int .i64 k ∧ Wrote signs [] k S ∧ w1 = wr) (fun _ i _ => 4 - (intOf i).toNat)
  case atStart => exact ⟨0, _, by omega, by omega, rfl, rfl, Wrote.start _ _, rfl⟩
  case round =>
    obtain ⟨k, S, hk, hkl, rfl, rfl, hch, rfl⟩ := hrel
    have HC := Lib.hid hch
    have hS := hch.le (by decide) (by decide)
    clear hch
    by_cases hlt : k < len0
    · by_cases h4 : k < 4
      · obtain ⟨x, z, rfl, hcell, hx⟩ := HP.out k hlt
        have hcell' : w1.cell? (x.add k) = some (.int .i64 z) := by rw [HB.out.cell (p := x.add k) (by unfold Addr.add; split <;> exact hx)]; exact hcell
        obtain ⟨j, hj, hjz⟩ := j57 z
        have hj2 : (j : Int) < 57 := by omega
        have hc2 := HS.out j hj
        have hsz := (sign_size j hj).1
        clear hcell hx
        go_wp2_with fail
        go_roundw
        case rel => exact ⟨k + 1, _, by omega, by omega, rfl, rfl, HC.out.add _ (sign_mem j hj), trivial⟩
        case measure => simp [intOf]; omega
      · have hall := wrote_all HC.out
        by_cases h0 : S.data.toList = []
        · have e0 : (S.toList == []) = true := by rw [Lib.toList_data, h0]; rfl
          go_wp2_with fail
          go_ret
          exact ⟨rfl, HB.out⟩
        have e0 : (S.toList == []) = false := by rw [Lib.toList_data, beq_eq_false_iff_ne]; exact h0
        have hs0 : 0 < S.size := by have := Str.pos_of_ne h0; simpa using this
        go_wp2_with fail
        all_goals first | (go_ret; exact ⟨rfl, HB.out⟩) | skip
        all_goals
          have hpp : pre [47, 47] S.data.toList = false ∧ pre [47, 42] S.data.toList = false := by
            refine ⟨Bool.eq_false_iff.2 fun hq => ?_, Bool.eq_false_iff.2 fun hq => ?_⟩ <;> (obtain ⟨q1, q2, q3⟩ := ba_two hq) <;>
              first | (exfalso; omega) | (rename_i kk _ _; exact kk (by rw [q2]; rfl)) | (rename_i kk _ _; rw [q3] at kk; revert kk; decide)
          have HA := Lib.hid (pun_ans S hall h0 hpp.1 hpp.2)
          have HL := Lib.hid (long_sign S.data.toList hall h0)
          clear hpp hall h0 e0
          go_loopw [6, 7, 8] (fun l i a wr => ∃ q : Nat, q ≤ 57 ∧ l = .string (Str.ofL ((signs.take q).foldl (longer S.data.toList) [])) ∧ i = .int .i64 q ∧ w1 = wr) (fun _ i _ _ => 57 - (intOf i).toNat)
          case atStart => exact ⟨0, by omega, rfl, rfl, rfl⟩
          case round =>
            obtain ⟨q, hq, rfl, rfl, rfl⟩ := hrel
            obtain ⟨R, hR⟩ : ∃ R, Str.ofL ((signs.take q).foldl (longer S.data.toList) []) = R := ⟨_, rfl⟩
            rw [hR]
            have HR := Lib.hid hR
            clear hR
            by_cases hq57 : q < 57
            · have hc2 := HS.out q hq57
              obtain ⟨z1, z2, z3⟩ := sign_size q hq57
              have HSL := Lib.hid (step_long S (signOf q) R q z3 HR.out hq57)
              generalize signOf q = A at *
              clear z3
              by_cases c : A.size ≤ S.size ∧ ((S.extract 0 A.size).toList == A.toList) = true ∧ R.size < A.size
              · obtain ⟨c1, c2, c3⟩ := c
                go_wp2_with fail
                go_roundw
                case rel => exact ⟨q + 1, by omega, by rw [HSL.out, if_pos ⟨c1, c2, c3⟩], rfl, trivial⟩
                case measure => simp [intOf]; omega
              · have HSL2 := Lib.hid (HSL.out.trans (if_neg c))
                by_cases c1 : A.size ≤ S.size
                · cases c2 : ((S.extract 0 A.size).toList == A.toList) with
                  | true =>
                    have c3 : ¬ R.size < A.size := fun k => c ⟨c1, c2, k⟩
                    clear c
                    go_wp2_with fail
                    go_roundw
                    case rel => exact ⟨q + 1, by omega, by rw [HSL2.out], rfl, trivial⟩
                    case measure => simp [intOf]; omega
                  | false =>
                    clear c
                    go_wp2_with fail
                    go_roundw
                    case rel => exact ⟨q + 1, by omega, by rw [HSL2.out], rfl, trivial⟩
                    case measure => simp [intOf]; omega
                · clear c
                  go_wp2_with fail
                  go_roundw
                  case rel => exact ⟨q + 1, by omega, by rw [HSL2.out], rfl, trivial⟩
                  case measure => simp [intOf]; omega
            · have hq2 : q = 57 := by omega
              subst hq2
              have HT1 := Lib.hid (HT.out.below HB.out)
              obtain ⟨T, hT⟩ : ∃ T, atS S (S.data.toList.drop (signN S.data.toList)) = T := ⟨_, rfl⟩
              have HR2 : Str.ofL (upTo S.data.toList (S.data.toList.drop (signN S.data.toList))) = R := by rw [up_drop, ← HR.out, show signs.take 57 = signs from rfl, HL.out]
              have HTK : Hid (tokV S ⟨0, [], 5, S.data.toList, S.data.toList.drop (signN S.data.toList), false, []⟩ = .agg #[.int .i64 5, .string R, .int .i64 ((0 : Nat) : Int), .int .i64 (T : Nat), .bool false]) := Lib.hid (tok_ok rfl HR2 (atS_all S) hT)
              have t2 : (R.toList == R.toList) = true := by simp
              clear HR2 hT
              go_wp2_with fail
              refine (next_gen S 0 1 _ _ 0 0 0 HA.out HTK.out (place_ok rfl) rfl rfl _ (by omega) HT1.out).mono ?_
              rintro e w2 ⟨ao1, cap1, rfl, _, hb1⟩
              have HB2 := Lib.hid (bel_alloc (bel_trans HB.out hb1) (.cells #[.int .i64 5, .string R, .int .i64 ((0 : Nat) : Int), .int .i64 (T : Nat), .bool false] 24))
              obtain ⟨⟨c0, c1, c2, c3, c4⟩, _⟩ := five_cells (tok_new w2 #[.int .i64 5, .string R, .int .i64 ((0 : Nat) : Int), .int .i64 (T : Nat), .bool false] 24)
              clear hb1 HT1
              go_wp2_with fail
              refine (num_any _ _).mono ?_
              rintro e w3 ⟨rfl, rfl⟩
              go_wp2_with fail
              go_ret
              exact ⟨rfl, HB2.out⟩
    · have hall := wrote_all HC.out
      by_cases h0 : S.data.toList = []
      · have e0 : (S.toList == []) = true := by rw [Lib.toList_data, h0]; rfl
        go_wp2_with fail
        go_ret
        exact ⟨rfl, HB.out⟩
      have e0 : (S.toList == []) = false := by rw [Lib.toList_data, beq_eq_false_iff_ne]; exact h0
      have hs0 : 0 < S.size := by have := Str.pos_of_ne h0; simpa using this
      go_wp2_with fail
      all_goals first | (go_ret; exact ⟨rfl, HB.out⟩) | skip
      all_goals
        have hpp : pre [47, 47] S.data.toList = false ∧ pre [47, 42] S.data.toList = false := by
          refine ⟨Bool.eq_false_iff.2 fun hq => ?_, Bool.eq_false_iff.2 fun hq => ?_⟩ <;> (obtain ⟨q1, q2, q3⟩ := ba_two hq) <;>
            first | (exfalso; omega) | (rename_i kk _ _; exact kk (by rw [q2]; rfl)) | (rename_i kk _ _; rw [q3] at kk; revert kk; decide)
        have HA := Lib.hid (pun_ans S hall h0 hpp.1 hpp.2)
        have HL := Lib.hid (long_sign S.data.toList hall h0)
        clear hpp hall h0 e0
        go_loopw [6, 7, 8] (fun l i a wr => ∃ q : Nat, q ≤ 57 ∧ l = .string (Str.ofL ((signs.take q).foldl (longer S.data.toList) [])) ∧ i = .int .i64 q ∧ w1 = wr) (fun _ i _ _ => 57 - (intOf i).toNat)
        case atStart => exact ⟨0, by omega, rfl, rfl, rfl⟩
        case round =>
          obtain ⟨q, hq, rfl, rfl, rfl⟩ := hrel
          obtain ⟨R, hR⟩ : ∃ R, Str.ofL ((signs.take q).foldl (longer S.data.toList) []) = R := ⟨_, rfl⟩
          rw [hR]
          have HR := Lib.hid hR
          clear hR
          by_cases hq57 : q < 57
          · have hc2 := HS.out q hq57
            obtain ⟨z1, z2, z3⟩ := sign_size q hq57
            have HSL := Lib.hid (step_long S (signOf q) R q z3 HR.out hq57)
            generalize signOf q = A at *
            clear z3
            by_cases c : A.size ≤ S.size ∧ ((S.extract 0 A.size).toList == A.toList) = true ∧ R.size < A.size
            · obtain ⟨c1, c2, c3⟩ := c
              go_wp2_with fail
              go_roundw
              case rel => exact ⟨q + 1, by omega, by rw [HSL.out, if_pos ⟨c1, c2, c3⟩], rfl, trivial⟩
              case measure => simp [intOf]; omega
            · have HSL2 := Lib.hid (HSL.out.trans (if_neg c))
              by_cases c1 : A.size ≤ S.size
              · cases c2 : ((S.extract 0 A.size).toList == A.toList) with
                | true =>
                  have c3 : ¬ R.size < A.size := fun k => c ⟨c1, c2, k⟩
                  clear c
                  go_wp2_with fail
                  go_roundw
                  case rel => exact ⟨q + 1, by omega, by rw [HSL2.out], rfl, trivial⟩
                  case measure => simp [intOf]; omega
                | false =>
                  clear c
                  go_wp2_with fail
                  go_roundw
                  case rel => exact ⟨q + 1, by omega, by rw [HSL2.out], rfl, trivial⟩
                  case measure => simp [intOf]; omega
              · clear c
                go_wp2_with fail
                go_roundw
                case rel => exact ⟨q + 1, by omega, by rw [HSL2.out], rfl, trivial⟩
                case measure => simp [intOf]; omega
          · have hq2 : q = 57 := by omega
            subst hq2
            have HT1 := Lib.hid (HT.out.below HB.out)
            obtain ⟨T, hT⟩ : ∃ T, atS S (S.data.toList.drop (signN S.data.toList)) = T := ⟨_, rfl⟩
            have HR2 : Str.ofL (upTo S.data.toList (S.data.toList.drop (signN S.data.toList))) = R := by rw [up_drop, ← HR.out, show signs.take 57 = signs from rfl, HL.out]
            have HTK : Hid (tokV S ⟨0, [], 5, S.data.toList, S.data.toList.drop (signN S.data.toList), false, []⟩ = .agg #[.int .i64 5, .string R, .int .i64 ((0 : Nat) : Int), .int .i64 (T : Nat), .bool false]) := Lib.hid (tok_ok rfl HR2 (atS_all S) hT)
            have t2 : (R.toList == R.toList) = true := by simp
            clear HR2 hT
            go_wp2_with fail
            refine (next_gen S 0 1 _ _ 0 0 0 HA.out HTK.out (place_ok rfl) rfl rfl _ (by omega) HT1.out).mono ?_
            rintro e w2 ⟨ao1, cap1, rfl, _, hb1⟩
            have HB2 := Lib.hid (bel_alloc (bel_trans HB.out hb1) (.cells #[.int .i64 5, .string R, .int .i64 ((0 : Nat) : Int), .int .i64 (T : Nat), .bool false] 24))
            obtain ⟨⟨c0, c1, c2, c3, c4⟩, _⟩ := five_cells (tok_new w2 #[.int .i64 5, .string R, .int .i64 ((0 : Nat) : Int), .int .i64 (T : Nat), .bool false] 24)
            clear hb1 HT1
            go_wp2_with fail
            refine (num_any _ _).mono ?_
            rintro e w3 ⟨rfl, rfl⟩
            go_wp2_with fail
            go_ret
            exact ⟨rfl, HB2.out⟩

end Lex
end Go.Proofs.YtfnilkhccomemaaDoor
