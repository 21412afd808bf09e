/-
  The flags; the whole check.
-/
import Derived.Test.YtjoohpdohdehgaaGreatDoorRegRun
namespace Go.Proofs.YtjoohpdohdehgaaGreatDoor
namespace Reg
open Go.RowKit Go.Maps Go.WideMaps

/-- A flag's bit; a letter that is none has none. -/
def bitN (x : UInt8) : Nat := if flagsL.elem x then 2 ^ flagsL.idxOf x else 0
/-- The bits of these flags, behind those that are there. -/
def bitsP : Nat → List UInt8 → Option Nat
  | m, [] => some m
  | m, x :: l => if bitN x = 0 ∨ m &&& bitN x ≠ 0 then none else bitsP (m ||| bitN x) l

theorem place_bit (x : UInt8) : (Lib.indexByte flagsL x = -1 ∧ bitN x = 0) ∨ ∃ k : Nat, k < 7 ∧ Lib.indexByte flagsL x = k ∧ bitN x = 2 ^ k := by
  by_cases h : x ∈ flagsL
  · refine .inr ?_
    revert h
    simp only [flagsL, List.mem_cons, List.not_mem_nil, or_false]
    rintro (rfl | rfl | rfl | rfl | rfl | rfl | rfl)
    · exact ⟨0, by decide, by decide, by decide⟩
    · exact ⟨1, by decide, by decide, by decide⟩
    · exact ⟨2, by decide, by decide, by decide⟩
    · exact ⟨3, by decide, by decide, by decide⟩
    · exact ⟨4, by decide, by decide, by decide⟩
    · exact ⟨5, by decide, by decide, by decide⟩
    · exact ⟨6, by decide, by decide, by decide⟩
  · refine .inl ⟨?_, ?_⟩
    · simp only [flagsL, List.mem_cons, List.not_mem_nil, or_false, not_or] at h
      obtain ⟨h1, h2, h3, h4, h5, h6, h7⟩ := h
      simp only [flagsL, Lib.indexByte]
      simp [Ne.symm h1, Ne.symm h2, Ne.symm h3, Ne.symm h4, Ne.symm h5, Ne.symm h6, Ne.symm h7]
    · unfold bitN
      rw [if_neg (by simpa using h)]

theorem index_bit (x : UInt8) (w : World) :
    Calls Tryz.prog 28 #[.string ⟨#[100, 103, 105, 109, 115, 117, 121]⟩, .int .u8 x.toNat] w fun e w' => e = .returned (.int .i64 (Lib.indexByte flagsL x)) ∧ w = w' := by
  refine (Tryz.strings_IndexByte _ _ _).mono ?_
  rintro e w1 ⟨rfl, rfl⟩
  exact ⟨by simp [flagsL], rfl⟩

set_option maxHeartbeats 1000000 in
set_option maxRecDepth 20000 in
theorem bit_any (x : UInt8) (w : World) :
    Calls Tryz.prog 18 #[.int .u8 x.toNat] w fun e w' => e = .returned (.int .u8 (bitN x)) ∧ w = w' := by
  have HC := Lib.hid (index_bit x)
  rcases place_bit x with ⟨h1, h2⟩ | ⟨k, hk, h1, h2⟩
  · rw [h1] at HC
    rw [h2]
    clear h1 h2
    go_enter Tryz.func18, Tryz.ntmps18
    go_wp2_with fail
    refine (HC.out _).mono ?_
    rintro e w1 ⟨rfl, rfl⟩
    go_wp2_with fail
    go_ret
    exact ⟨rfl, rfl⟩
  · rw [h1] at HC
    rw [h2]
    clear h1 h2
    have cs : k = 0 ∨ k = 1 ∨ k = 2 ∨ k = 3 ∨ k = 4 ∨ k = 5 ∨ k = 6 := by omega
    clear hk
    rcases cs with rfl | rfl | rfl | rfl | rfl | rfl | rfl
    all_goals
      go_enter Tryz.func18, Tryz.ntmps18
      go_wp2_with fail
      refine (HC.out _).mono ?_
      rintro e w1 ⟨rfl, rfl⟩
      go_wp2_with fail
      go_ret
      exact ⟨rfl, rfl⟩


theorem bit_small (x : UInt8) : bitN x < 128 := by
  rcases place_bit x with ⟨-, h⟩ | ⟨k, hk, -, h⟩
  · omega
  · rw [h]
    have cs : k = 0 ∨ k = 1 ∨ k = 2 ∨ k = 3 ∨ k = 4 ∨ k = 5 ∨ k = 6 := by omega
    rcases cs with rfl | rfl | rfl | rfl | rfl | rfl | rfl <;> decide

theorem bits_small : ∀ (l : List UInt8) (m : Nat), m < 128 → ∀ r, bitsP m l = some r → r < 128
  | [], m, hm, r, h => by cases h; exact hm
  | x :: l, m, hm, r, h => by
    rw [bitsP] at h
    split at h
    · cases h
    · exact bits_small l _ (Nat.or_lt_two_pow (n := 7) hm (bit_small x)) r h

/-- How the flags end. -/
def flagsEnd (r : Option Nat) : Value := match r with
  | some m => .tuple #[.int .u8 m, .bool true]
  | none => .tuple #[.int .u8 0, .bool false]

set_option maxHeartbeats 1000000 in
set_option maxRecDepth 20000 in
theorem collect_any (s : ByteArray) (w : World) (hsz : s.size ≤ maxLen) :
    Calls Tryz.prog 16 #[.string s] w fun e w' => e = .returned (flagsEnd (bitsP 0 s.data.toList)) ∧ w = w' := by
  obtain ⟨R, hR⟩ : ∃ R, bitsP 0 s.data.toList = R := ⟨_, rfl⟩
  have HR := Lib.hid hR
  rw [hR]; clear hR
  have hsz2 : s.size ≤ 9223372036854775807 := hsz
  clear hsz
  go_enter Tryz.func16, Tryz.ntmps16
  go_wp2_with fail
  go_loopg [4, 9] s.size (fun k b i wr => ∃ (j m : Nat), k + j = s.size ∧ i = .int .i64 (j : Int) ∧ b = .int .u8 (m : Int) ∧ m < 128 ∧ bitsP m (s.data.toList.drop j) = R ∧ w = wr)
  case atStart => exact ⟨0, 0, rfl, rfl, rfl, by decide, HR.out, rfl⟩
  case round =>
    obtain ⟨j, m, hk, rfl, rfl, hm, hv, rfl⟩ := hrel
    have HV := Lib.hid hv; have HK := Lib.hid hk; have HM := Lib.hid hm
    clear hv hk hm
    by_cases hj : j < s.size
    · have hjl : j < s.data.toList.length := hj
      obtain ⟨b, hb⟩ : ∃ b, bitN (s[j]'hj) = b := ⟨_, rfl⟩
      have hb7 : b < 128 := by rw [← hb]; exact bit_small _
      have HB : Hid (∀ w, Calls Tryz.prog 18 #[.int .u8 (s[j]'hj).toNat] w fun e w' => e = .returned (.int .u8 b) ∧ w = w') := Lib.hid (fun w => by rw [← hb]; exact bit_any _ w)
      have HV1 : Hid (R = if b = 0 ∨ m &&& b ≠ 0 then none else bitsP (m ||| b) (s.data.toList.drop (j + 1))) := Lib.hid (by
        rw [← HV.out, List.drop_eq_getElem_cons hjl, bitsP]
        have e : s.data.toList[j] = s[j]'hj := by simp [ByteArray.getElem_eq_getElem_data]
        rw [e, hb])
      have HM7 : Hid (m ||| b < 128) := Lib.hid (Nat.or_lt_two_pow (n := 7) HM.out hb7)
      have ba : bits .and .u8 (m : Int) (b : Int) = ((m &&& b : Nat) : Int) := u8_and_nat m b (by have := HM.out; omega) (by omega)
      have bo : bits .or .u8 (m : Int) (b : Int) = ((m ||| b : Nat) : Int) := u8_or_nat m b (by have := HM.out; omega) (by omega)
      clear hb HV hjl hb7
      by_cases h0 : b = 0
      · have HV2 : Hid (R = none) := Lib.hid (by rw [HV1.out, if_pos (.inl h0)])
        have eb : ((b : Int) == 0) = true := by rw [h0]; rfl
        clear h0 ba bo
        go_wp2_with fail
        refine (HB.out _).mono ?_
        rintro e w1 ⟨rfl, rfl⟩
        go_wp2_with fail
        go_ret2
        rw [HV2.out]
        exact ⟨rfl, rfl⟩
      · have eb : ((b : Int) == 0) = false := beq_eq_false_iff_ne.2 (by omega)
        by_cases h1 : m &&& b = 0
        · have HV2 : Hid (bitsP (m ||| b) (s.data.toList.drop (j + 1)) = R) := Lib.hid (by rw [HV1.out, if_neg (by omega)])
          have ea : (((m &&& b : Nat) : Int) != 0) = false := by rw [h1]; rfl
          clear h0 h1
          generalize m &&& b = z at *
          generalize m ||| b = m2 at *
          go_wp2_with fail
          refine (HB.out _).mono ?_
          rintro e w1 ⟨rfl, rfl⟩
          go_wp2_with fail
          go_roundg (s.size - (j + 1))
          case measure => have := HK.out; omega
          case rel => exact ⟨j + 1, m2, by omega, by push_cast; rfl, rfl, HM7.out, HV2.out, rfl⟩
        · have HV2 : Hid (R = none) := Lib.hid (by rw [HV1.out, if_pos (.inr h1)])
          have ea : (((m &&& b : Nat) : Int) != 0) = true := bne_iff_ne.2 (by omega)
          clear h0 h1
          generalize m &&& b = z at *
          generalize m ||| b = m2 at *
          go_wp2_with fail
          refine (HB.out _).mono ?_
          rintro e w1 ⟨rfl, rfl⟩
          go_wp2_with fail
          go_ret2
          rw [HV2.out]
          exact ⟨rfl, rfl⟩
    · have HV2 : Hid (R = some m) := Lib.hid (by rw [← HV.out, List.drop_eq_nil_of_le (Nat.le_of_not_lt hj)]; rfl)
      go_wp2_with fail
      go_ret2
      rw [HV2.out]
      exact ⟨rfl, rfl⟩


/-- Is there a flag that is none, or one that stands there twice? The bits, else. -/
def endP (body flags : ByteArray) : Nat × Nat := match bitsP 0 flags.data.toList with
  | none => (0, 401)
  | some m => if 4096 < body.size then (0, 405) else runP (m &&& 32 != 0) body

set_option maxHeartbeats 1000000 in
set_option maxRecDepth 20000 in
theorem check_bits (body flags : ByteArray) (w : World) (ht : Tabs w.heap.size w) (hsz : flags.size ≤ maxLen) :
    Calls Tryz.prog 10 #[.string body, .string flags] w fun e w' => e = .returned (.tuple #[.int .i64 (endP body flags).1, .int .i64 (endP body flags).2]) ∧ Below w.heap.size w w' := by
  have HT := Lib.hid ht; clear ht
  have HC := Lib.hid (collect_any flags w hsz)
  cases hm : bitsP 0 flags.data.toList with
  | none =>
    have HV : Hid (endP body flags = (0, 401)) := Lib.hid (by unfold endP; rw [hm])
    rw [HV.out]
    rw [hm] at HC
    clear hm
    go_enter Tryz.func10, Tryz.ntmps10
    go_wp2_with fail
    refine HC.out.mono ?_
    rintro e w1 ⟨rfl, rfl⟩
    unfold flagsEnd
    go_wp2_with fail
    go_ret2
    exact ⟨rfl, Below.refl _ _⟩
  | some m =>
    have HV : Hid (endP body flags = if 4096 < body.size then (0, 405) else runP (m &&& 32 != 0) body) := Lib.hid (by unfold endP; rw [hm])
    rw [hm] at HC
    have hm7 : m < 128 := bits_small _ _ (by decide) _ hm
    have ba : bits .and .u8 (m : Int) 32 = ((m &&& 32 : Nat) : Int) := u8_and_nat m 32 (by omega) (by decide)
    have hb : (((m &&& 32 : Nat) : Int) != 0) = (m &&& 32 != 0) := by
      by_cases h : m &&& 32 = 0
      · rw [h]; rfl
      · rw [bne_iff_ne.2 h]; exact bne_iff_ne.2 (by omega)
    have HB : Hid (∀ w, Calls Tryz.prog 18 #[.int .u8 117] w fun e w' => e = .returned (.int .u8 32) ∧ w = w') := Lib.hid (fun w => by
      have := bit_any 117 w
      simpa [show bitN 117 = 32 from by decide] using this)
    clear hm hm7
    by_cases hs : 4096 < body.size
    · have HV2 : Hid (endP body flags = (0, 405)) := Lib.hid (by rw [HV.out, if_pos hs])
      rw [HV2.out]
      go_enter Tryz.func10, Tryz.ntmps10
      go_wp2_with fail
      refine HC.out.mono ?_
      rintro e w1 ⟨rfl, rfl⟩
      unfold flagsEnd
      go_wp2_with fail
      go_ret2
      exact ⟨rfl, Below.refl _ _⟩
    · have HV2 : Hid (endP body flags = runP (m &&& 32 != 0) body) := Lib.hid (by rw [HV.out, if_neg hs])
      rw [HV2.out]
      generalize (m &&& 32 != 0) = u at *
      generalize m &&& 32 = z at *
      have HR := Lib.hid (fun w h => read_any body u w (by omega) h)
      go_enter Tryz.func10, Tryz.ntmps10
      go_wp2_with fail
      refine HC.out.mono ?_
      rintro e w1 ⟨rfl, rfl⟩
      unfold flagsEnd
      go_wp2_with fail
      refine (HB.out _).mono ?_
      rintro e w1 ⟨rfl, rfl⟩
      go_wp2_with fail
      refine (HR.out _ HT.out).mono ?_
      rintro e w1 ⟨rfl, hb1⟩
      go_wp2_with fail
      go_ret2
      exact ⟨rfl, hb1⟩

end Reg
end Go.Proofs.YtjoohpdohdehgaaGreatDoor
