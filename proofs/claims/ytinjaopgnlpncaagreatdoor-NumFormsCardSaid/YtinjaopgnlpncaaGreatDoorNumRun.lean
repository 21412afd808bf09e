/-
  The contracts of the document's own functions over bytes and runs of digits.
-/
import Derived.Test.YtinjaopgnlpncaaGreatDoorNumCuts
namespace Go.Proofs.YtinjaopgnlpncaaGreatDoor
namespace Num
open Go.RowKit

theorem rvalue_any (c : UInt8) (w : World) : Calls Tryz.prog 81 #[.int .u8 (c.toNat : Int)] w fun e w' => e = .returned (.int .i64 (valN c)) ∧ w = w' := by
  have hb := c.toNat_lt
  by_cases h1 : 48 ≤ c.toNat ∧ c.toNat ≤ 57
  · have g1 : (48 : Int) ≤ (c.toNat : Int) := by omega
    have g2 : (c.toNat : Int) ≤ 57 := by omega
    have Hf : Hid (valN c = c.toNat - 48) := Lib.hid (by rw [valN, if_pos h1])
    clear h1
    go_enter Tryz.func81, Tryz.ntmps81
    go_wp2_with fail
    go_ret
    exact ⟨ret_int (by rw [Hf.out]; omega), rfl⟩
  · by_cases h2 : 97 ≤ c.toNat ∧ c.toNat ≤ 102
    · have g0 : ¬ (c.toNat : Int) ≤ 57 := by omega
      have g1 : (97 : Int) ≤ (c.toNat : Int) := by omega
      have g2 : (c.toNat : Int) ≤ 102 := by omega
      have g3 : (48 : Int) ≤ (c.toNat : Int) := by omega
      have Hf : Hid (valN c = c.toNat - 87) := Lib.hid (by rw [valN, if_neg h1, if_pos h2])
      clear h1 h2
      go_enter Tryz.func81, Tryz.ntmps81
      go_wp2_with fail
      go_ret
      exact ⟨ret_int (by rw [Hf.out]; omega), rfl⟩
    · by_cases h3 : 65 ≤ c.toNat ∧ c.toNat ≤ 70
      · have g0 : ¬ (c.toNat : Int) ≤ 57 := by omega
        have g1 : ¬ (97 : Int) ≤ (c.toNat : Int) := by omega
        have g2 : (c.toNat : Int) ≤ 70 := by omega
        have g3 : (48 : Int) ≤ (c.toNat : Int) := by omega
        have g4 : (65 : Int) ≤ (c.toNat : Int) := by omega
        have Hf : Hid (valN c = c.toNat - 55) := Lib.hid (by rw [valN, if_neg h1, if_neg h2, if_pos h3])
        clear h1 h2 h3
        go_enter Tryz.func81, Tryz.ntmps81
        go_wp2_with fail
        go_ret
        exact ⟨ret_int (by rw [Hf.out]; omega), rfl⟩
      · have Hf : Hid (valN c = 99) := Lib.hid (by rw [valN, if_neg h1, if_neg h2, if_neg h3])
        go_enter Tryz.func81, Tryz.ntmps81
        go_wp2_with fail
        all_goals first
          | (go_ret; exact ⟨ret_int (by rw [Hf.out]; rfl), rfl⟩)
          | (exfalso; omega)

/-- How long a run is that begins at a place; -1: a _ stands wrong. -/
def runI (b : Nat) (l : List UInt8) : Int := match runL b false l with
  | none => -1
  | some k => k

theorem shift_map (x : Option Nat) (a : Nat) : (x.map (· + 1)).map (· + a) = x.map (· + (a + 1)) := by
  cases x with
  | none => rfl
  | some k => simp; omega

theorem head_at (b : Nat) (s : ByteArray) (j : Nat) (h : j < s.size) : headDig b (s.data.toList.drop j) = decide (valN s[j] < b) := by
  rw [drop_byte s j h]; rfl
theorem head_end (b : Nat) (s : ByteArray) (j : Nat) (h : ¬ j < s.size) : headDig b (s.data.toList.drop j) = false := by
  rw [drop_all s j h]; rfl

set_option maxHeartbeats 2000000 in
set_option maxRecDepth 100000 in
theorem run_any (s : ByteArray) (i b : Nat) (w : World) (hs : s.size ≤ maxLen) (hi : i ≤ s.size) (hb : b ≤ 16) :
    Calls Tryz.prog 50 #[.string s, .int .i64 i, .int .i64 b] w fun e w' => e = .returned (.int .i64 (runI b (s.data.toList.drop i))) ∧ w = w' := by
  unfold maxLen at hs
  go_enter Tryz.func50, Tryz.ntmps50
  go_wp2_with fail
  go_loop [1] (fun a => ∃ (j : Nat) (prev : Bool), i ≤ j ∧ j ≤ s.size ∧ a = .int .i64 j ∧ runL b false (s.data.toList.drop i) = (runL b prev (s.data.toList.drop j)).map (· + (j - i)) ∧
      (prev = true → ∃ h : j - 1 < s.size, i < j ∧ s[j - 1]'h ≠ 95) ∧ (prev = false → i < j → ∃ h : j - 1 < s.size, s[j - 1]'h = 95)) (fun a => s.size - (intOf a).toNat)
  case atStart => exact ⟨i, false, Nat.le_refl _, hi, rfl, by rw [Nat.sub_self]; cases runL b false (s.data.toList.drop i) <;> rfl, (fun h => by cases h), fun _ h => absurd h (Nat.lt_irrefl _)⟩
  case round =>
    obtain ⟨j, prev, hij, hj, rfl, hr, hp1, hp0⟩ := hrel
    have Hr := Lib.hid hr; clear hr
    by_cases hlt : j < s.size
    · have Hd := Lib.hid (drop_byte s j hlt)
      by_cases hv : valN (s[j]'hlt) < b
      · -- a digit
        have h95 : s[j]'hlt ≠ 95 := by intro e; rw [e, val_under] at hv; omega
        have t1 : (((s[j]'hlt).toNat : Int) == 95) = false := by rw [t95]; simp [h95]
        have Hn : Hid (runL b false (s.data.toList.drop i) = (runL b true (s.data.toList.drop (j + 1))).map (· + (j + 1 - i))) := Lib.hid (by
          rw [Hr.out, Hd.out, runL, if_pos hv, shift_map, show j - i + 1 = j + 1 - i from by omega])
        have Hq : Hid (∃ h : j + 1 - 1 < s.size, i < j + 1 ∧ s[j + 1 - 1]'h ≠ 95) := Lib.hid ⟨by omega, by omega, h95⟩
        clear hp1 hp0 Hr Hd h95
        go_wp2_with (go_at_call 81; refine (rvalue_any (s[j]'hlt) _).mono ?_; rintro e w1 ⟨rfl, rfl⟩)
        go_round
        case rel => exact ⟨j + 1, true, by omega, by omega, by go_num, Hn.out, fun _ => Hq.out, fun h => by cases h⟩
        case measure => simp [intOf]; omega
      · by_cases h95 : s[j]'hlt = 95
        · have t1 : (((s[j]'hlt).toNat : Int) == 95) = true := by rw [t95]; simp [h95]
          have Hu : Hid (runL b prev (s.data.toList.drop j) = if prev = true ∧ headDig b (s.data.toList.drop (j + 1)) = true then (runL b false (s.data.toList.drop (j + 1))).map (· + 1) else none) := Lib.hid (by
            rw [Hd.out, runL, if_neg hv, if_pos h95])
          have H95 := Lib.hid h95; clear h95 Hd
          cases prev with
          | false =>
            have Hf : Hid (runI b (s.data.toList.drop i) = -1) := Lib.hid (by rw [runI, Hr.out, Hu.out, if_neg (by simp)]; rfl)
            clear Hr Hu hp1
            by_cases hji : j = i
            · subst hji
              clear hp0
              go_wp2_with (go_at_call 81; refine (rvalue_any (s[j]'hlt) _).mono ?_; rintro e w1 ⟨rfl, rfl⟩)
              go_ret
              exact ⟨ret_int Hf.out.symm, rfl⟩
            · obtain ⟨hb1, he1⟩ := hp0 rfl (by omega)
              have t2 : (((s[j - 1]'hb1).toNat : Int) == 95) = true := by rw [t95]; simp [he1]
              have t3 : ((j : Int) == (i : Int)) = false := beq_eq_false_iff_ne.2 (by omega)
              have hj1 : 1 ≤ j := by omega
              clear hp0 he1 hji
              go_wp2_with (go_at_call 81; refine (rvalue_any (s[j]'hlt) _).mono ?_; rintro e w1 ⟨rfl, rfl⟩)
              go_ret
              exact ⟨ret_int Hf.out.symm, rfl⟩
          | true =>
            obtain ⟨hb1, hlt1, he1⟩ := hp1 rfl
            have t2 : (((s[j - 1]'hb1).toNat : Int) == 95) = false := by rw [t95]; simp [he1]
            have t3 : ((j : Int) == (i : Int)) = false := beq_eq_false_iff_ne.2 (by omega)
            have hj1 : 1 ≤ j := by omega
            clear hp0 hp1 he1
            by_cases hl2 : j + 1 < s.size
            · by_cases hv2 : valN (s[j + 1]'hl2) < b
              · have Hn : Hid (runL b false (s.data.toList.drop i) = (runL b false (s.data.toList.drop (j + 1))).map (· + (j + 1 - i))) := Lib.hid (by
                  rw [Hr.out, Hu.out, if_pos ⟨rfl, by rw [head_at b s _ hl2]; simpa using hv2⟩, shift_map, show j - i + 1 = j + 1 - i from by omega])
                have Hq : Hid (∃ h : j + 1 - 1 < s.size, s[j + 1 - 1]'h = 95) := Lib.hid ⟨by omega, H95.out⟩
                clear Hr Hu
                go_wp2_with fail
                refine (rvalue_any (s[j]'hlt) _).mono ?_
                rintro e w1 ⟨rfl, rfl⟩
                go_wp2_with fail
                refine (rvalue_any (s[j + 1]'hl2) _).mono ?_
                rintro e w1 ⟨rfl, rfl⟩
                go_wp2_with fail
                go_round
                case rel => exact ⟨j + 1, false, by omega, by omega, by go_num, Hn.out, (fun h => by cases h), fun _ _ => Hq.out⟩
                case measure => simp [intOf]; omega
              · have Hf : Hid (runI b (s.data.toList.drop i) = -1) := Lib.hid (by rw [runI, Hr.out, Hu.out, if_neg (by rw [head_at b s _ hl2]; simp; omega)]; rfl)
                clear Hr Hu
                go_wp2_with fail
                refine (rvalue_any (s[j]'hlt) _).mono ?_
                rintro e w1 ⟨rfl, rfl⟩
                go_wp2_with fail
                refine (rvalue_any (s[j + 1]'hl2) _).mono ?_
                rintro e w1 ⟨rfl, rfl⟩
                go_wp2_with fail
                go_ret
                exact ⟨ret_int Hf.out.symm, rfl⟩
            · have Hf : Hid (runI b (s.data.toList.drop i) = -1) := Lib.hid (by rw [runI, Hr.out, Hu.out, if_neg (by rw [head_end b s _ hl2]; simp)]; rfl)
              clear Hr Hu
              go_wp2_with fail
              refine (rvalue_any (s[j]'hlt) _).mono ?_
              rintro e w1 ⟨rfl, rfl⟩
              go_wp2_with fail
              go_ret
              exact ⟨ret_int Hf.out.symm, rfl⟩
        · have t1 : (((s[j]'hlt).toNat : Int) == 95) = false := by rw [t95]; simp [h95]
          have Hf : Hid (runI b (s.data.toList.drop i) = (j : Int) - i) := Lib.hid (by
            rw [runI, Hr.out, Hd.out, runL, if_neg hv, if_neg h95]
            simp; omega)
          clear hp1 hp0 Hr Hd h95
          go_wp2_with (go_at_call 81; refine (rvalue_any (s[j]'hlt) _).mono ?_; rintro e w1 ⟨rfl, rfl⟩)
          go_ret
          exact ⟨ret_int Hf.out.symm, rfl⟩
    · have Hf : Hid (runI b (s.data.toList.drop i) = (j : Int) - i) := Lib.hid (by
        rw [runI, Hr.out, drop_all s j hlt, runL]
        simp; omega)
      clear hp1 hp0 Hr
      go_wp2_with fail
      go_ret
      exact ⟨ret_int Hf.out.symm, rfl⟩

end Num
end Go.Proofs.YtinjaopgnlpncaaGreatDoor
