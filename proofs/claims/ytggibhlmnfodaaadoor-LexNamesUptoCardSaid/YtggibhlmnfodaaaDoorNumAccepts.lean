/-
  The contract of the loop that feeds the machine.
-/
import Derived.Test.YtggibhlmnfodaaaDoorNumStep
namespace Go.Proofs.YtggibhlmnfodaaaDoor
namespace Num
open Go.RowKit

theorem drop_byte (s : ByteArray) (k : Nat) (h : k < s.size) : s.data.toList.drop k = s[k] :: s.data.toList.drop (k + 1) := by
  rw [List.drop_eq_getElem_cons (by simpa using h)]; rfl
theorem drop_all (s : ByteArray) (k : Nat) (h : ¬ k < s.size) : s.data.toList.drop k = [] := List.drop_of_length_le (by simp; omega)

theorem pl_small (nx p : Nat) (c : UInt8) (hp : p ≤ 9) (h : stN nx (plN nx p c) ≠ 16) : plN nx p c ≤ 9 := by
  by_cases h10 : nx = 10
  · subst h10
    rw [stN] at h
    by_cases h9 : 9 < plN 10 p c
    · rw [if_pos ⟨rfl, h9⟩] at h; exact absurd rfl h
    · omega
  · rw [pl_ne _ _ _ h10]; exact hp

theorem fin_of (st : Nat) : finN st = (((st : Int) == 1) || ((st : Int) == 2) || ((st : Int) == 5) || ((st : Int) == 6) || ((st : Int) == 10) || ((st : Int) == 13) || ((st : Int) == 15)) := by
  rw [s1, s2, s5, s6, s10, s13, s15]; rfl

/-- Does the machine take it? -/
def accS (s : ByteArray) : Bool := accL 0 0 0 s.data.toList

set_option maxHeartbeats 1000000 in
theorem accepts_any (s : ByteArray) (w : World) (hs : s.size ≤ maxLen) :
    Calls Tryd.prog 49 #[.string s] w fun e w' => e = .returned (.bool (accS s)) ∧ Below w.heap.size w w' := by
  have hm := hs
  unfold maxLen at hs
  have h0 : MachAt w.heap.size (w.alloc (.cells #[.int .i64 0, .int .u8 0, .int .i64 0] 74)) 0 0 0 := by
    show (w.heap.push _)[w.heap.size]? = _
    rw [Array.getElem?_push, if_pos rfl]
    rfl
  have H0 := Lib.hid h0; clear h0
  go_enter Tryd.func49, Tryd.ntmps49
  go_wp2
  go_loopw [4, 8] (fun _ i wr => ∃ (k st : Nat) (base : UInt8) (p : Nat), k ≤ s.size ∧ i = .int .i64 k ∧ p ≤ 9 ∧ accL 0 0 0 s.data.toList = accL st base p (s.data.toList.drop k) ∧ MachAt w.heap.size wr st base p ∧ Below w.heap.size w wr) (fun _ i _ => s.size - (intOf i).toNat)
  case atStart => exact ⟨0, 0, 0, 0, by omega, rfl, by omega, rfl, H0.out, (Below.refl _ _).alloc (Nat.le_refl _) _⟩
  case round =>
    obtain ⟨k, st, base, p, hk, rfl, hp, ha, hM, hw⟩ := hrel
    have Ha := Lib.hid ha; clear ha
    have HM := Lib.hid hM; clear hM
    by_cases hlt : k < s.size
    · have Hd : Hid (accL st base p (s.data.toList.drop k) = accL st base p (s[k] :: s.data.toList.drop (k + 1))) := by unfold Hid; rw [drop_byte s k hlt]
      go_wp2_with fail
      refine (step_any w.heap.size st base p s[k] wr HM.out (by omega)).mono ?_
      rintro e w1 ⟨rfl, hM1, hb1⟩
      have hc := (mach_cells hM1).1
      have HM1 := Lib.hid hM1; clear hM1
      by_cases h16 : stN (nextN st base s[k]) (plN (nextN st base s[k]) p s[k]) = 16
      · rw [h16] at hc
        have Hf : Hid (accS s = false) := by unfold Hid; rw [accS, Ha.out, Hd.out, acc_cons, if_pos h16]
        clear h16
        go_wp2_with fail
        go_ret
        exact ⟨ret_bool (by rw [Hf.out]), hw.trans hb1⟩
      · have hp1 := pl_small _ _ _ hp h16
        have Hn : Hid (accL st base p (s[k] :: s.data.toList.drop (k + 1)) = accL (stN (nextN st base s[k]) (plN (nextN st base s[k]) p s[k])) (baN (nextN st base s[k]) base s[k]) (plN (nextN st base s[k]) p s[k]) (s.data.toList.drop (k + 1))) := by
          unfold Hid; rw [acc_cons, if_neg h16]
        have t16 : ((stN (nextN st base s[k]) (plN (nextN st base s[k]) p s[k]) : Int) == 16) = false := by rw [s16]; simp [h16]
        clear h16
        generalize stN (nextN st base s[k]) (plN (nextN st base s[k]) p s[k]) = st' at *
        generalize plN (nextN st base s[k]) p s[k] = p' at *
        generalize baN (nextN st base s[k]) base s[k] = base' at *
        go_wp2_with fail
        go_roundw
        case rel => exact ⟨k + 1, st', base', p', by omega, by go_num, hp1, by rw [Ha.out, Hd.out, Hn.out], HM1.out, hw.trans hb1⟩
        case measure => simp [intOf]; omega
    · have hc := (mach_cells HM.out).1
      have Hf : Hid (accS s = finN st) := by unfold Hid; rw [accS, Ha.out, drop_all s k hlt]; rfl
      go_wp2_with fail
      all_goals go_ret
      all_goals exact ⟨ret_bool (by rw [Hf.out, fin_of]; simp only [*]; simp), hw⟩

end Num
end Go.Proofs.YtggibhlmnfodaaaDoor
