/-
  The contracts of the loops that collect digits and read an exponent.
-/
import Derived.Test.YtinjaopgnlpncaaGreatDoorNumAccepts
import Derived.Test.YtinjaopgnlpncaaGreatDoorNumSeg
import Derived.Test.YtinjaopgnlpncaaGreatDoorNumPieces
namespace Go.Proofs.YtinjaopgnlpncaaGreatDoor
namespace Num
open Go.RowKit

/-- A piece comes back that reads ys; what lay below B is as it was. -/
def SegPost (B : Nat) (w : World) (ys : List UInt8) (e : Ending) (w' : World) : Prop := ∃ v', e = .returned v' ∧ Seg w' B v' ys ∧ Below B w w'

theorem take_byte (s : ByteArray) (k : Nat) (h : k < s.size) : s.data.toList.take (k + 1) = s.data.toList.take k ++ [s[k]] := by
  rw [List.take_succ_eq_append_getElem (by simpa using h)]; rfl
theorem collect_skip (s : ByteArray) (k : Nat) (h : k < s.size) (hc : s[k] = 95) : collectL (s.data.toList.take (k + 1)) = collectL (s.data.toList.take k) := by
  rw [take_byte s k h]; simp [collectL, plainL, hc]
theorem collect_take (s : ByteArray) (k : Nat) (h : k < s.size) (hc : s[k] ≠ 95) : collectL (s.data.toList.take (k + 1)) = collectL (s.data.toList.take k) ++ [lowN s[k]] := by
  rw [take_byte s k h]; simp [collectL, plainL, hc]
theorem collect_le (t : List UInt8) : (collectL t).length ≤ t.length := by
  unfold collectL plainL; rw [List.length_map]; exact List.length_filter_le _ _
theorem take_all (s : ByteArray) (k : Nat) (h : ¬ k < s.size) : s.data.toList.take k = s.data.toList := List.take_of_length_le (by simp; omega)
theorem take_le (s : ByteArray) (k : Nat) : (s.data.toList.take k).length ≤ k := List.length_take_le _ _

set_option maxHeartbeats 1000000 in
theorem collect_any (B : Nat) (v : Value) (xs : List UInt8) (s : ByteArray) (w : World) (h : Seg w B v xs) (hB : B ≤ w.heap.size) (hlim : xs.length + s.size ≤ 140737488355328) :
    Calls Tryz.prog 37 #[v, .string s] w (SegPost B w (xs ++ collectL s.data.toList)) := by
  have H0 := Lib.hid h; clear h
  go_enter Tryz.func37, Tryz.ntmps37
  go_wp2
  go_loopw [0, 5, 8] (fun a _ i wr => ∃ k : Nat, k ≤ s.size ∧ i = .int .i64 k ∧ Seg wr B a (xs ++ collectL (s.data.toList.take k)) ∧ Below B w wr) (fun _ _ i _ => s.size - (intOf i).toNat)
  case atStart => exact ⟨0, by omega, rfl, by simpa [collectL, plainL] using H0.out, Below.refl _ _⟩
  case round =>
    obtain ⟨k, hk, rfl, hseg, hw⟩ := hrel
    have Hs := Lib.hid hseg; clear hseg
    have hBr : B ≤ wr.heap.size := Nat.le_trans hB hw.size
    by_cases hlt : k < s.size
    · by_cases hc : s[k] = 95
      · have t : (((s[k]'hlt).toNat : Int) != 95) = false := by rw [bne, t95, hc]; rfl
        have Ht := Lib.hid (collect_skip s k hlt hc)
        clear hc
        go_wp2_with fail
        go_roundw
        case rel => exact ⟨k + 1, by omega, by go_num, by rw [Ht.out]; exact Hs.out, hw⟩
        case measure => simp [intOf]; omega
      · have t : (((s[k]'hlt).toNat : Int) != 95) = true := by rw [bne, t95]; simp [hc]
        have Ht := Lib.hid (collect_take s k hlt hc)
        clear hc
        have hl1 := collect_le (s.data.toList.take k)
        have hl2 := take_le s k
        go_wp2_with (first | (go_at_call 33; refine (lower_any _ _).mono ?_; rintro e w1 ⟨rfl, rfl⟩) | (at_builtin; refine wpList_append_seg _ rfl _ _ 42 rfl rfl (Hs.out.keep ((Below.refl _ _).alloc (Nat.le_refl _) _)) _ rfl 1 [lowN s[k]] rfl (src_one wr _ rfl (lowN s[k])) ?c1 ?c2 ?_))
        case c1 => rw [List.length_append]; simp only [List.length_cons, List.length_nil]; omega
        case c2 => simp; omega
        intro v' w1 hs1 hb1
        rw [← Ht.out] at hs1
        have hb2 : Below B w w1 := (hw.alloc hBr _).trans hb1
        have Hs1 := Lib.hid hs1
        clear hs1 hb1
        go_wp2_with fail
        go_roundw
        case rel => exact ⟨k + 1, by omega, by go_num, Hs1.out, hb2⟩
        case measure => simp [intOf]; omega
    · go_wp2_with fail
      go_ret
      exact ⟨_, rfl, by have := Hs.out; rwa [take_all s k hlt] at this, hw⟩

theorem numL_snoc (l : List UInt8) (c : UInt8) : ∀ p, numL p (l ++ [c]) = if digN c then 10 * numL p l + (c.toNat - 48) else numL p l := by
  induction l with
  | nil => intro p; simp [numL]
  | cons d t ih =>
    intro p
    rw [List.cons_append, numL, numL]
    split <;> exact ih _

end Num
end Go.Proofs.YtinjaopgnlpncaaGreatDoor
