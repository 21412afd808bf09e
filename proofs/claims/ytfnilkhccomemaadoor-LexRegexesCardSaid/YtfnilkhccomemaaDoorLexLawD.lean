/-
  The law 'LexRegexes'.
-/
import Derived.Test.YtfnilkhccomemaaDoorLexCat
namespace Go.Proofs.YtfnilkhccomemaaDoor
namespace Lex
open Go.RowKit
open Str (lenL runeL)

set_option maxHeartbeats 16000000 in
set_option maxRecDepth 20000 in
theorem law_regexes (a0 : Option Addr) (len0 cap0 : Nat) (W : World) (hp : ∀ k, k < len0 → ∃ x z, a0 = some x ∧ W.cell? (x.add k) = some (.int .i64 z) ∧ x.block < W.heap.size) (hT : Tabs W.heap.size W) :
    Calls Tryd.prog 11 #[.slice a0 len0 cap0] W fun e w' => e = .returned (.bool true) ∧ Below W.heap.size W w' := by
  have HT := Lib.hid hT
  have HP := Lib.hid hp
  clear hT hp
  go_enter Tryd.func11, Tryd.ntmps11
  go_wp2_with fail
  refine (awake_any W HT.out).mono ?_
  rintro e w0 ⟨rfl, hb0⟩
  have HB0 := Lib.hid hb0
  clear hb0
  go_wp2_with fail
  go_loopw [3, 4] (fun s i wr => ∃ (k : Nat) (S : ByteArray), k ≤ 20 ∧ k ≤ len0 ∧ s = .string S ∧ i = .int .i64 k ∧ Wrote regL [47, 120] k S ∧ Below W.heap.size W wr) (fun _ i _ => 20 - (intOf i).toNat)
  case atStart => exact ⟨0, _, by omega, by omega, rfl, rfl, Wrote.start _ _, HB0.out⟩
  case round =>
    obtain ⟨k, S, hk, hkl, rfl, rfl, hch, hbel⟩ := hrel
    have HC := Lib.hid hch
    have HB := Lib.hid hbel
    have hS := hch.le (by decide) (by decide)
    clear hch hbel
    by_cases hlt : k < len0
    · by_cases h20 : k < 20
      · obtain ⟨x, z, rfl, hcell, hx⟩ := HP.out k hlt
        have hcell' : wr.cell? (x.add k) = some (.int .i64 z) := by rw [HB.out.cell (p := x.add k) (by unfold Addr.add; split <;> exact hx)]; exact hcell
        have hc2 := cel_alloc hcell' (.cells #[.string ⟨#[97]⟩, .string ⟨#[92, 47]⟩, .string ⟨#[91, 47, 93]⟩, .string ⟨#[91, 94, 92, 93, 47, 93]⟩, .string ⟨#[42]⟩, .string ⟨#[92, 91]⟩, .string ⟨#[40]⟩, .string ⟨#[93]⟩, .string ⟨#[230, 151, 165]⟩] 9)
        clear hcell hx hcell'
        by_cases r0 : (IntKind.u64.wrap z).tmod 9 = 0
        · have HB2 := Lib.hid (bel_alloc HB.out (.cells #[.string ⟨#[97]⟩, .string ⟨#[92, 47]⟩, .string ⟨#[91, 47, 93]⟩, .string ⟨#[91, 94, 92, 93, 47, 93]⟩, .string ⟨#[42]⟩, .string ⟨#[92, 91]⟩, .string ⟨#[40]⟩, .string ⟨#[93]⟩, .string ⟨#[230, 151, 165]⟩] 9))
          go_wp2_with fail
          go_roundw
          case rel => exact ⟨k + 1, _, by omega, by omega, rfl, rfl, HC.out.add [97] (by decide), HB2.out⟩
          case measure => simp [intOf]; omega
        by_cases r1 : (IntKind.u64.wrap z).tmod 9 = 1
        · have HB2 := Lib.hid (bel_alloc HB.out (.cells #[.string ⟨#[97]⟩, .string ⟨#[92, 47]⟩, .string ⟨#[91, 47, 93]⟩, .string ⟨#[91, 94, 92, 93, 47, 93]⟩, .string ⟨#[42]⟩, .string ⟨#[92, 91]⟩, .string ⟨#[40]⟩, .string ⟨#[93]⟩, .string ⟨#[230, 151, 165]⟩] 9))
          go_wp2_with fail
          go_roundw
          case rel => exact ⟨k + 1, _, by omega, by omega, rfl, rfl, HC.out.add [92, 47] (by decide), HB2.out⟩
          case measure => simp [intOf]; omega
        by_cases r2 : (IntKind.u64.wrap z).tmod 9 = 2
        · have HB2 := Lib.hid (bel_alloc HB.out (.cells #[.string ⟨#[97]⟩, .string ⟨#[92, 47]⟩, .string ⟨#[91, 47, 93]⟩, .string ⟨#[91, 94, 92, 93, 47, 93]⟩, .string ⟨#[42]⟩, .string ⟨#[92, 91]⟩, .string ⟨#[40]⟩, .string ⟨#[93]⟩, .string ⟨#[230, 151, 165]⟩] 9))
          go_wp2_with fail
          go_roundw
          case rel => exact ⟨k + 1, _, by omega, by omega, rfl, rfl, HC.out.add [91, 47, 93] (by decide), HB2.out⟩
          case measure => simp [intOf]; omega
        by_cases r3 : (IntKind.u64.wrap z).tmod 9 = 3
        · have HB2 := Lib.hid (bel_alloc HB.out (.cells #[.string ⟨#[97]⟩, .string ⟨#[92, 47]⟩, .string ⟨#[91, 47, 93]⟩, .string ⟨#[91, 94, 92, 93, 47, 93]⟩, .string ⟨#[42]⟩, .string ⟨#[92, 91]⟩, .string ⟨#[40]⟩, .string ⟨#[93]⟩, .string ⟨#[230, 151, 165]⟩] 9))
          go_wp2_with fail
          go_roundw
          case rel => exact ⟨k + 1, _, by omega, by omega, rfl, rfl, HC.out.add [91, 94, 92, 93, 47, 93] (by decide), HB2.out⟩
          case measure => simp [intOf]; omega
        by_cases r4 : (IntKind.u64.wrap z).tmod 9 = 4
        · have HB2 := Lib.hid (bel_alloc HB.out (.cells #[.string ⟨#[97]⟩, .string ⟨#[92, 47]⟩, .string ⟨#[91, 47, 93]⟩, .string ⟨#[91, 94, 92, 93, 47, 93]⟩, .string ⟨#[42]⟩, .string ⟨#[92, 91]⟩, .string ⟨#[40]⟩, .string ⟨#[93]⟩, .string ⟨#[230, 151, 165]⟩] 9))
          go_wp2_with fail
          go_roundw
          case rel => exact ⟨k + 1, _, by omega, by omega, rfl, rfl, HC.out.add [42] (by decide), HB2.out⟩
          case measure => simp [intOf]; omega
        by_cases r5 : (IntKind.u64.wrap z).tmod 9 = 5
        · have HB2 := Lib.hid (bel_alloc HB.out (.cells #[.string ⟨#[97]⟩, .string ⟨#[92, 47]⟩, .string ⟨#[91, 47, 93]⟩, .string ⟨#[91, 94, 92, 93, 47, 93]⟩, .string ⟨#[42]⟩, .string ⟨#[92, 91]⟩, .string ⟨#[40]⟩, .string ⟨#[93]⟩, .string ⟨#[230, 151, 165]⟩] 9))
          go_wp2_with fail
          go_roundw
          case rel => exact ⟨k + 1, _, by omega, by omega, rfl, rfl, HC.out.add [92, 91] (by decide), HB2.out⟩
          case measure => simp [intOf]; omega
        by_cases r6 : (IntKind.u64.wrap z).tmod 9 = 6
        · have HB2 := Lib.hid (bel_alloc HB.out (.cells #[.string ⟨#[97]⟩, .string ⟨#[92, 47]⟩, .string ⟨#[91, 47, 93]⟩, .string ⟨#[91, 94, 92, 93, 47, 93]⟩, .string ⟨#[42]⟩, .string ⟨#[92, 91]⟩, .string ⟨#[40]⟩, .string ⟨#[93]⟩, .string ⟨#[230, 151, 165]⟩] 9))
          go_wp2_with fail
          go_roundw
          case rel => exact ⟨k + 1, _, by omega, by omega, rfl, rfl, HC.out.add [40] (by decide), HB2.out⟩
          case measure => simp [intOf]; omega
        by_cases r7 : (IntKind.u64.wrap z).tmod 9 = 7
        · have HB2 := Lib.hid (bel_alloc HB.out (.cells #[.string ⟨#[97]⟩, .string ⟨#[92, 47]⟩, .string ⟨#[91, 47, 93]⟩, .string ⟨#[91, 94, 92, 93, 47, 93]⟩, .string ⟨#[42]⟩, .string ⟨#[92, 91]⟩, .string ⟨#[40]⟩, .string ⟨#[93]⟩, .string ⟨#[230, 151, 165]⟩] 9))
          go_wp2_with fail
          go_roundw
          case rel => exact ⟨k + 1, _, by omega, by omega, rfl, rfl, HC.out.add [93] (by decide), HB2.out⟩
          case measure => simp [intOf]; omega
        have r8 : (IntKind.u64.wrap z).tmod 9 = 8 := by
          have h1 : 0 ≤ IntKind.u64.wrap z := u64_nonneg z
          rw [Int.tmod_eq_emod_of_nonneg h1] at *
          omega
        clear r0 r1 r2 r3 r4 r5 r6 r7
        have HB2 := Lib.hid (bel_alloc HB.out (.cells #[.string ⟨#[97]⟩, .string ⟨#[92, 47]⟩, .string ⟨#[91, 47, 93]⟩, .string ⟨#[91, 94, 92, 93, 47, 93]⟩, .string ⟨#[42]⟩, .string ⟨#[92, 91]⟩, .string ⟨#[40]⟩, .string ⟨#[93]⟩, .string ⟨#[230, 151, 165]⟩] 9))
        go_wp2_with fail
        go_roundw
        case rel => exact ⟨k + 1, _, by omega, by omega, rfl, rfl, HC.out.add [230, 151, 165] (by decide), HB2.out⟩
        case measure => simp [intOf]; omega
      · obtain ⟨h1, h2⟩ := reg_all S k HC.out
        have HT1 := Lib.hid (HT.out.below HB.out)
        have z1 : (S ++ ⟨#[10, 47]⟩ : ByteArray).size ≤ 4194304 := by rw [cat2_size]; show S.size + 2 ≤ 4194304; omega
        have z2 : (S ++ ⟨#[47, 103, 49]⟩ : ByteArray).size ≤ 4194304 := by rw [cat2_size]; show S.size + 3 ≤ 4194304; omega
        obtain ⟨X1, e1⟩ : ∃ X, (S ++ ⟨#[10, 47]⟩ : ByteArray) = X := ⟨_, rfl⟩
        obtain ⟨X2, e2⟩ : ∃ X, (S ++ ⟨#[47, 103, 49]⟩ : ByteArray) = X := ⟨_, rfl⟩
        rw [e1] at h1 z1
        rw [e2] at h2 z2
        have T1 : Hid (tokV X1 (failA 506 X1.data.toList) = .agg #[.int .i64 0, .string ⟨#[]⟩, .int .i64 0, .int .i64 0, .bool false]) := Lib.hid (tok_no (show (506 : Int) ≠ 0 by decide))
        have P1 : Hid (placeV X1 (failA 506 X1.data.toList) = 0) := Lib.hid (by
          rw [place_no (show (506 : Int) ≠ 0 by decide)]
          exact congrArg Nat.cast (atS_all X1))
        have O2 : Hid (onlyB X2 ⟨0, [], 6, X2.data.toList, [], false, []⟩ 6 = true) := Lib.hid (only_yes X2 6 false)
        have H1 := Lib.hid h1; have H2 := Lib.hid h2
        have E1 := Lib.hid e1; have E2 := Lib.hid e2
        clear h1 h2 e1 e2
        go_wp2_with fail
        rw [E1.out]
        refine (next_gen X1 0 2 _ _ 0 506 0 H1.out T1.out P1.out rfl rfl _ z1 HT1.out).mono ?_
        rintro e w1 ⟨ao1, cap1, rfl, _, hb1⟩
        have hB1 := bel_alloc (bel_trans HB.out hb1) zeroObj
        have HT2 := Lib.hid (HT.out.below hB1)
        clear hb1 HT1
        go_wp2_with fail
        rw [E2.out]
        refine (only_any X2 2 6 _ H2.out _ O2.out _ z2 HT2.out).mono ?_
        rintro e w2 ⟨rfl, hb2⟩
        have HB2 := Lib.hid (bel_trans hB1 hb2)
        clear hb2 hB1 HT2
        go_wp2_with fail
        refine (num_any _ _).mono ?_
        rintro e w6 ⟨rfl, rfl⟩
        go_wp2_with fail
        go_ret
        exact ⟨rfl, HB2.out⟩
    · obtain ⟨h1, h2⟩ := reg_all S k HC.out
      have HT1 := Lib.hid (HT.out.below HB.out)
      have z1 : (S ++ ⟨#[10, 47]⟩ : ByteArray).size ≤ 4194304 := by rw [cat2_size]; show S.size + 2 ≤ 4194304; omega
      have z2 : (S ++ ⟨#[47, 103, 49]⟩ : ByteArray).size ≤ 4194304 := by rw [cat2_size]; show S.size + 3 ≤ 4194304; omega
      obtain ⟨X1, e1⟩ : ∃ X, (S ++ ⟨#[10, 47]⟩ : ByteArray) = X := ⟨_, rfl⟩
      obtain ⟨X2, e2⟩ : ∃ X, (S ++ ⟨#[47, 103, 49]⟩ : ByteArray) = X := ⟨_, rfl⟩
      rw [e1] at h1 z1
      rw [e2] at h2 z2
      have T1 : Hid (tokV X1 (failA 506 X1.data.toList) = .agg #[.int .i64 0, .string ⟨#[]⟩, .int .i64 0, .int .i64 0, .bool false]) := Lib.hid (tok_no (show (506 : Int) ≠ 0 by decide))
      have P1 : Hid (placeV X1 (failA 506 X1.data.toList) = 0) := Lib.hid (by
        rw [place_no (show (506 : Int) ≠ 0 by decide)]
        exact congrArg Nat.cast (atS_all X1))
      have O2 : Hid (onlyB X2 ⟨0, [], 6, X2.data.toList, [], false, []⟩ 6 = true) := Lib.hid (only_yes X2 6 false)
      have H1 := Lib.hid h1; have H2 := Lib.hid h2
      have E1 := Lib.hid e1; have E2 := Lib.hid e2
      clear h1 h2 e1 e2
      go_wp2_with fail
      rw [E1.out]
      refine (next_gen X1 0 2 _ _ 0 506 0 H1.out T1.out P1.out rfl rfl _ z1 HT1.out).mono ?_
      rintro e w1 ⟨ao1, cap1, rfl, _, hb1⟩
      have hB1 := bel_alloc (bel_trans HB.out hb1) zeroObj
      have HT2 := Lib.hid (HT.out.below hB1)
      clear hb1 HT1
      go_wp2_with fail
      rw [E2.out]
      refine (only_any X2 2 6 _ H2.out _ O2.out _ z2 HT2.out).mono ?_
      rintro e w2 ⟨rfl, hb2⟩
      have HB2 := Lib.hid (bel_trans hB1 hb2)
      clear hb2 hB1 HT2
      go_wp2_with fail
      refine (num_any _ _).mono ?_
      rintro e w6 ⟨rfl, rfl⟩
      go_wp2_with fail
      go_ret
      exact ⟨rfl, HB2.out⟩

end Lex
end Go.Proofs.YtfnilkhccomemaaDoor
