/-
  The contracts of the document's own small functions over texts of digits.
-/
import Derived.Test.YtinjaopgnlpncaaGreatDoorNumRun
import Derived.Test.YtinjaopgnlpncaaGreatDoorNumCollect
import Derived.Test.YtinjaopgnlpncaaGreatDoorNumTrim
import Derived.Test.YtinjaopgnlpncaaGreatDoorNumSplit
namespace Go.Proofs.YtinjaopgnlpncaaGreatDoor
namespace Num
open Go.RowKit

theorem plain_skip (s : ByteArray) (k : Nat) (h : k < s.size) (hc : s[k] = 95) : plainL (s.data.toList.take (k + 1)) = plainL (s.data.toList.take k) := by
  rw [take_byte s k h]; simp [plainL, hc]
theorem plain_take (s : ByteArray) (k : Nat) (h : k < s.size) (hc : s[k] ≠ 95) : plainL (s.data.toList.take (k + 1)) = plainL (s.data.toList.take k) ++ [s[k]] := by
  rw [take_byte s k h]; simp [plainL, hc]
theorem plain_le (t : List UInt8) : (plainL t).length ≤ t.length := List.length_filter_le _ _
theorem ret_s {a b : ByteArray} (h : a = b) : Ending.returned (.string a) = .returned (.string b) := by rw [h]

set_option maxHeartbeats 1000000 in
theorem plain_any (s : ByteArray) (w : World) (hlim : s.size ≤ 140737488355328) :
    Calls Tryz.prog 27 #[.string s] w fun e w' => e = .returned (.string ⟨(plainL s.data.toList).toArray⟩) ∧ Below w.heap.size w w' := by
  go_enter Tryz.func27, Tryz.ntmps27
  go_wp2
  go_loopw [3, 4] (fun a i wr => ∃ k : Nat, k ≤ s.size ∧ i = .int .i64 k ∧ Seg wr w.heap.size a (plainL (s.data.toList.take k)) ∧ Below w.heap.size w wr) (fun _ i _ => s.size - (intOf i).toNat)
  case atStart => exact ⟨0, by omega, rfl, Seg.nil _ _, Below.refl _ _⟩
  case round =>
    obtain ⟨k, hk, rfl, hseg, hw⟩ := hrel
    have Hs := Lib.hid hseg; clear hseg
    have hBr : w.heap.size ≤ wr.heap.size := hw.size
    by_cases hlt : k < s.size
    · by_cases hc : s[k] = 95
      · have t : (((s[k]'hlt).toNat : Int) != 95) = false := by rw [bne, t95, hc]; rfl
        have Ht := Lib.hid (plain_skip s k hlt hc)
        clear hc
        go_wp2_with fail
        go_roundw
        case rel => exact ⟨k + 1, by omega, by go_num, by rw [Ht.out]; exact Hs.out, hw⟩
        case measure => simp [intOf]; omega
      · have t : (((s[k]'hlt).toNat : Int) != 95) = true := by rw [bne, t95]; simp [hc]
        have Ht := Lib.hid (plain_take s k hlt hc)
        clear hc
        have hl1 := plain_le (s.data.toList.take k)
        have hl2 := take_le s k
        go_wp2_with (at_builtin; refine wpList_append_seg _ rfl _ _ 42 rfl rfl (Hs.out.keep ((Below.refl _ _).alloc (Nat.le_refl _) _)) _ rfl 1 [s[k]] rfl (src_one wr _ rfl s[k]) ?c1 ?c2 ?_)
        case c1 => simp only [List.length_cons, List.length_nil]; omega
        case c2 => simp; omega
        intro v' w1 hs1 hb1
        rw [← Ht.out] at hs1
        have hb2 : Below w.heap.size w w1 := (hw.alloc hBr _).trans hb1
        have Hs1 := Lib.hid hs1
        clear hs1 hb1
        go_wp2_with fail
        go_roundw
        case rel => exact ⟨k + 1, by omega, by go_num, Hs1.out, hb2⟩
        case measure => simp [intOf]; omega
    · have hcv := seg_string Hs.out
      have Hf := Lib.hid (take_all s k hlt)
      go_wp2_with fail
      go_ret
      exact ⟨ret_s (by rw [Hf.out]), hw⟩

def lenS : Value → Nat
  | .string s => s.size
  | _ => 0

theorem ahead_step (t : ByteArray) (h : 0 < t.size) (hc : t[0] = 48) : aheadL (t.extract 1 t.size).data.toList = aheadL t.data.toList := by
  have e := drop_byte t 0 h
  rw [drop_str]
  show aheadL (t.data.toList.drop 1) = _
  rw [List.drop_zero] at e
  rw [e, aheadL, aheadL, hc]
  simp [List.dropWhile_cons]
theorem ahead_stop (t : ByteArray) (h : 0 < t.size) (hc : t[0] ≠ 48) : aheadL t.data.toList = t.data.toList := by
  have e := drop_byte t 0 h
  rw [List.drop_zero] at e
  rw [e, aheadL, List.dropWhile_cons, if_neg (by simpa using hc)]

set_option maxHeartbeats 1000000 in
theorem ahead_any (s : ByteArray) (w : World) (hlim : s.size ≤ maxLen) :
    Calls Tryz.prog 25 #[.string s] w fun e w' => e = .returned (.string ⟨(aheadL s.data.toList).toArray⟩) ∧ w = w' := by
  unfold maxLen at hlim
  go_enter Tryz.func25, Tryz.ntmps25
  go_wp2
  go_loop [0] (fun a => ∃ t : ByteArray, a = .string t ∧ t.size ≤ 9223372036854775807 ∧ aheadL t.data.toList = aheadL s.data.toList) (fun a => lenS a)
  case atStart => exact ⟨s, rfl, by omega, rfl⟩
  case round =>
    obtain ⟨t, rfl, ht, hl⟩ := hrel
    by_cases hlt : 0 < t.size
    · by_cases hc : t[0] = 48
      · have t1 : (((t[0]'hlt).toNat : Int) == 48) = true := by rw [t48, hc]; rfl
        have Ht := Lib.hid ((ahead_step t hlt hc).trans hl)
        clear hc hl
        go_wp2_with fail
        go_round
        case rel => exact ⟨_, rfl, by simp; omega, Ht.out⟩
        case measure => simp [lenS]; omega
      · have t1 : (((t[0]'hlt).toNat : Int) == 48) = false := by rw [t48]; simp [hc]
        have Hf : Hid (aheadL s.data.toList = t.data.toList) := Lib.hid (by rw [← hl, ahead_stop t hlt hc])
        clear hc hl
        go_wp2_with fail
        go_ret
        exact ⟨ret_s (by rw [Hf.out]), rfl⟩
    · have h0 : t.size = 0 := by omega
      have Hf : Hid (aheadL s.data.toList = t.data.toList) := Lib.hid (by
        rw [← hl]
        have : t.data.toList = [] := List.length_eq_zero_iff.1 (by rw [← Lib.size_eq]; exact h0)
        rw [this]; rfl)
      clear hl
      go_wp2_with fail
      go_ret
      exact ⟨ret_s (by rw [Hf.out]), rfl⟩

theorem numL_dig (s : ByteArray) (k : Nat) (h : k < s.size) (hd : digN s[k] = true) : numL 0 (s.data.toList.take (k + 1)) = 10 * numL 0 (s.data.toList.take k) + (s[k].toNat - 48) := by
  rw [take_byte s k h, numL_snoc, if_pos hd]

set_option maxHeartbeats 1000000 in
theorem number_any (s : ByteArray) (w : World) (hs : s.size ≤ 9) (hd : ∀ c ∈ s.data.toList, digN c = true) :
    Calls Tryz.prog 28 #[.string s] w fun e w' => e = .returned (.int .i64 (numL 0 s.data.toList : Nat)) ∧ w = w' := by
  have Hd : Hid (∀ (k : Nat) (h : k < s.size), 48 ≤ s[k].toNat ∧ s[k].toNat ≤ 57 ∧ numL 0 (s.data.toList.take (k + 1)) = 10 * numL 0 (s.data.toList.take k) + (s[k].toNat - 48)) := Lib.hid (fun k h => by
    have hm : s[k] ∈ s.data.toList := List.mem_of_getElem? (Lib.data_getElem? s k h)
    have h1 := hd _ hm
    have h2 := of_decide_eq_true h1
    exact ⟨h2.1, h2.2, numL_dig s k h h1⟩)
  have Hb : Hid (∀ k, numL 0 (s.data.toList.take k) < 1000000000) := Lib.hid (fun k => by
    have h1 := numL_bound (s.data.toList.take k) 0
    have h2 : (s.data.toList.take k).length ≤ 9 := by rw [List.length_take, ← Lib.size_eq]; omega
    have h3 : 10 ^ (s.data.toList.take k).length ≤ 10 ^ 9 := Nat.pow_le_pow_right (by decide) h2
    omega)
  clear hd
  go_enter Tryz.func28, Tryz.ntmps28
  go_wp2
  go_loop [3, 4] (fun x i => ∃ k : Nat, k ≤ s.size ∧ i = .int .i64 k ∧ x = .int .i64 (numL 0 (s.data.toList.take k) : Nat)) (fun _ i => s.size - (intOf i).toNat)
  case atStart => exact ⟨0, by omega, rfl, rfl⟩
  case round =>
    obtain ⟨k, hk, rfl, rfl⟩ := hrel
    have hb := Hb.out k
    by_cases hlt : k < s.size
    · obtain ⟨d1, d2, d3⟩ := Hd.out k hlt
      have Hn := Lib.hid d3
      clear d3
      generalize numL 0 (s.data.toList.take k) = x at *
      go_wp2_with fail
      go_round
      case rel => exact ⟨k + 1, by omega, by go_num, by rw [Hn.out]; go_num⟩
      case measure => simp [intOf]; omega
    · have Hf := Lib.hid (take_all s k hlt)
      go_wp2_with fail
      go_ret
      exact ⟨ret_int (by rw [Hf.out]), rfl⟩

end Num
end Go.Proofs.YtinjaopgnlpncaaGreatDoor
