/-
  The law 'LexTemplates'.
-/
import Derived.Test.YtfnilkhccomemaaDoorLexCat
namespace Go.Proofs.YtfnilkhccomemaaDoor
namespace Lex
open Go.RowKit
open Str (lenL runeL)

set_option maxHeartbeats 16000000 in
set_option maxRecDepth 20000 in
theorem law_templates (a0 : Option Addr) (len0 cap0 : Nat) (W : World) (hp : ∀ k, k < len0 → ∃ x z, a0 = some x ∧ W.cell? (x.add k) = some (.int .i64 z) ∧ x.block < W.heap.size) (hT : Tabs W.heap.size W) :
    Calls Tryd.prog 9 #[.slice a0 len0 cap0] W fun e w' => e = .returned (.bool true) ∧ Below W.heap.size W w' := by
  have HT := Lib.hid hT
  have HP := Lib.hid hp
  clear hT hp
  go_enter Tryd.func9, Tryd.ntmps9
  go_wp2_with fail
  refine (awake_any W HT.out).mono ?_
  rintro e w0 ⟨rfl, hb0⟩
  have HB0 := Lib.hid hb0
  clear hb0
  go_wp2_with fail
  go_loopw [3, 4] (fun s i wr => ∃ (k : Nat) (S : ByteArray), k ≤ 20 ∧ k ≤ len0 ∧ s = .string S ∧ i = .int .i64 k ∧ Wrote temL [] k S ∧ Below W.heap.size W wr) (fun _ i _ => 20 - (intOf i).toNat)
  case atStart => exact ⟨0, _, by omega, by omega, rfl, rfl, Wrote.start _ _, HB0.out⟩
  case round =>
    obtain ⟨k, S, hk, hkl, rfl, rfl, hch, hbel⟩ := hrel
    have HC := Lib.hid hch
    have HB := Lib.hid hbel
    have hS := hch.le (by decide) (by decide)
    clear hch hbel
    by_cases hlt : k < len0
    · by_cases h20 : k < 20
      · obtain ⟨x, z, rfl, hcell, hx⟩ := HP.out k hlt
        have hcell' : wr.cell? (x.add k) = some (.int .i64 z) := by rw [HB.out.cell (p := x.add k) (by unfold Addr.add; split <;> exact hx)]; exact hcell
        have hc2 := cel_alloc hcell' (.cells #[.string ⟨#[97]⟩, .string ⟨#[92, 96]⟩, .string ⟨#[92, 36, 123]⟩, .string ⟨#[36, 97]⟩, .string ⟨#[123]⟩, .string ⟨#[125]⟩, .string ⟨#[10]⟩, .string ⟨#[92, 92]⟩, .string ⟨#[230, 151, 165]⟩, .string ⟨#[47, 47]⟩] 9)
        clear hcell hx hcell'
        by_cases r0 : (IntKind.u64.wrap z).tmod 10 = 0
        · have HB2 := Lib.hid (bel_alloc HB.out (.cells #[.string ⟨#[97]⟩, .string ⟨#[92, 96]⟩, .string ⟨#[92, 36, 123]⟩, .string ⟨#[36, 97]⟩, .string ⟨#[123]⟩, .string ⟨#[125]⟩, .string ⟨#[10]⟩, .string ⟨#[92, 92]⟩, .string ⟨#[230, 151, 165]⟩, .string ⟨#[47, 47]⟩] 9))
          go_wp2_with fail
          go_roundw
          case rel => exact ⟨k + 1, _, by omega, by omega, rfl, rfl, HC.out.add [97] (by decide), HB2.out⟩
          case measure => simp [intOf]; omega
        by_cases r1 : (IntKind.u64.wrap z).tmod 10 = 1
        · have HB2 := Lib.hid (bel_alloc HB.out (.cells #[.string ⟨#[97]⟩, .string ⟨#[92, 96]⟩, .string ⟨#[92, 36, 123]⟩, .string ⟨#[36, 97]⟩, .string ⟨#[123]⟩, .string ⟨#[125]⟩, .string ⟨#[10]⟩, .string ⟨#[92, 92]⟩, .string ⟨#[230, 151, 165]⟩, .string ⟨#[47, 47]⟩] 9))
          go_wp2_with fail
          go_roundw
          case rel => exact ⟨k + 1, _, by omega, by omega, rfl, rfl, HC.out.add [92, 96] (by decide), HB2.out⟩
          case measure => simp [intOf]; omega
        by_cases r2 : (IntKind.u64.wrap z).tmod 10 = 2
        · have HB2 := Lib.hid (bel_alloc HB.out (.cells #[.string ⟨#[97]⟩, .string ⟨#[92, 96]⟩, .string ⟨#[92, 36, 123]⟩, .string ⟨#[36, 97]⟩, .string ⟨#[123]⟩, .string ⟨#[125]⟩, .string ⟨#[10]⟩, .string ⟨#[92, 92]⟩, .string ⟨#[230, 151, 165]⟩, .string ⟨#[47, 47]⟩] 9))
          go_wp2_with fail
          go_roundw
          case rel => exact ⟨k + 1, _, by omega, by omega, rfl, rfl, HC.out.add [92, 36, 123] (by decide), HB2.out⟩
          case measure => simp [intOf]; omega
        by_cases r3 : (IntKind.u64.wrap z).tmod 10 = 3
        · have HB2 := Lib.hid (bel_alloc HB.out (.cells #[.string ⟨#[97]⟩, .string ⟨#[92, 96]⟩, .string ⟨#[92, 36, 123]⟩, .string ⟨#[36, 97]⟩, .string ⟨#[123]⟩, .string ⟨#[125]⟩, .string ⟨#[10]⟩, .string ⟨#[92, 92]⟩, .string ⟨#[230, 151, 165]⟩, .string ⟨#[47, 47]⟩] 9))
          go_wp2_with fail
          go_roundw
          case rel => exact ⟨k + 1, _, by omega, by omega, rfl, rfl, HC.out.add [36, 97] (by decide), HB2.out⟩
          case measure => simp [intOf]; omega
        by_cases r4 : (IntKind.u64.wrap z).tmod 10 = 4
        · have HB2 := Lib.hid (bel_alloc HB.out (.cells #[.string ⟨#[97]⟩, .string ⟨#[92, 96]⟩, .string ⟨#[92, 36, 123]⟩, .string ⟨#[36, 97]⟩, .string ⟨#[123]⟩, .string ⟨#[125]⟩, .string ⟨#[10]⟩, .string ⟨#[92, 92]⟩, .string ⟨#[230, 151, 165]⟩, .string ⟨#[47, 47]⟩] 9))
          go_wp2_with fail
          go_roundw
          case rel => exact ⟨k + 1, _, by omega, by omega, rfl, rfl, HC.out.add [123] (by decide), HB2.out⟩
          case measure => simp [intOf]; omega
        by_cases r5 : (IntKind.u64.wrap z).tmod 10 = 5
        · have HB2 := Lib.hid (bel_alloc HB.out (.cells #[.string ⟨#[97]⟩, .string ⟨#[92, 96]⟩, .string ⟨#[92, 36, 123]⟩, .string ⟨#[36, 97]⟩, .string ⟨#[123]⟩, .string ⟨#[125]⟩, .string ⟨#[10]⟩, .string ⟨#[92, 92]⟩, .string ⟨#[230, 151, 165]⟩, .string ⟨#[47, 47]⟩] 9))
          go_wp2_with fail
          go_roundw
          case rel => exact ⟨k + 1, _, by omega, by omega, rfl, rfl, HC.out.add [125] (by decide), HB2.out⟩
          case measure => simp [intOf]; omega
        by_cases r6 : (IntKind.u64.wrap z).tmod 10 = 6
        · have HB2 := Lib.hid (bel_alloc HB.out (.cells #[.string ⟨#[97]⟩, .string ⟨#[92, 96]⟩, .string ⟨#[92, 36, 123]⟩, .string ⟨#[36, 97]⟩, .string ⟨#[123]⟩, .string ⟨#[125]⟩, .string ⟨#[10]⟩, .string ⟨#[92, 92]⟩, .string ⟨#[230, 151, 165]⟩, .string ⟨#[47, 47]⟩] 9))
          go_wp2_with fail
          go_roundw
          case rel => exact ⟨k + 1, _, by omega, by omega, rfl, rfl, HC.out.add [10] (by decide), HB2.out⟩
          case measure => simp [intOf]; omega
        by_cases r7 : (IntKind.u64.wrap z).tmod 10 = 7
        · have HB2 := Lib.hid (bel_alloc HB.out (.cells #[.string ⟨#[97]⟩, .string ⟨#[92, 96]⟩, .string ⟨#[92, 36, 123]⟩, .string ⟨#[36, 97]⟩, .string ⟨#[123]⟩, .string ⟨#[125]⟩, .string ⟨#[10]⟩, .string ⟨#[92, 92]⟩, .string ⟨#[230, 151, 165]⟩, .string ⟨#[47, 47]⟩] 9))
          go_wp2_with fail
          go_roundw
          case rel => exact ⟨k + 1, _, by omega, by omega, rfl, rfl, HC.out.add [92, 92] (by decide), HB2.out⟩
          case measure => simp [intOf]; omega
        by_cases r8 : (IntKind.u64.wrap z).tmod 10 = 8
        · have HB2 := Lib.hid (bel_alloc HB.out (.cells #[.string ⟨#[97]⟩, .string ⟨#[92, 96]⟩, .string ⟨#[92, 36, 123]⟩, .string ⟨#[36, 97]⟩, .string ⟨#[123]⟩, .string ⟨#[125]⟩, .string ⟨#[10]⟩, .string ⟨#[92, 92]⟩, .string ⟨#[230, 151, 165]⟩, .string ⟨#[47, 47]⟩] 9))
          go_wp2_with fail
          go_roundw
          case rel => exact ⟨k + 1, _, by omega, by omega, rfl, rfl, HC.out.add [230, 151, 165] (by decide), HB2.out⟩
          case measure => simp [intOf]; omega
        have r9 : (IntKind.u64.wrap z).tmod 10 = 9 := by
          have h1 : 0 ≤ IntKind.u64.wrap z := u64_nonneg z
          rw [Int.tmod_eq_emod_of_nonneg h1] at *
          omega
        clear r0 r1 r2 r3 r4 r5 r6 r7 r8
        have HB2 := Lib.hid (bel_alloc HB.out (.cells #[.string ⟨#[97]⟩, .string ⟨#[92, 96]⟩, .string ⟨#[92, 36, 123]⟩, .string ⟨#[36, 97]⟩, .string ⟨#[123]⟩, .string ⟨#[125]⟩, .string ⟨#[10]⟩, .string ⟨#[92, 92]⟩, .string ⟨#[230, 151, 165]⟩, .string ⟨#[47, 47]⟩] 9))
        go_wp2_with fail
        go_roundw
        case rel => exact ⟨k + 1, _, by omega, by omega, rfl, rfl, HC.out.add [47, 47] (by decide), HB2.out⟩
        case measure => simp [intOf]; omega
      · obtain ⟨h1, h2, h3, h4, h5⟩ := tem_all S k HC.out
        have HT1 := Lib.hid (HT.out.below HB.out)
        have z1 : (⟨#[125]⟩ ++ S ++ ⟨#[36, 123]⟩ : ByteArray).size ≤ 4194304 := by rw [cat3_size]; show 1 + S.size + 2 ≤ 4194304; omega
        have z2 : (⟨#[125]⟩ ++ S ++ ⟨#[96]⟩ : ByteArray).size ≤ 4194304 := by rw [cat3_size]; show 1 + S.size + 1 ≤ 4194304; omega
        have z3 : (⟨#[120, 32, 96]⟩ ++ S : ByteArray).size = 3 + S.size := by rw [cat2_size]; rfl
        have z4 : (⟨#[96]⟩ ++ S ++ ⟨#[96]⟩ : ByteArray).size ≤ 4194304 := by rw [cat3_size]; show 1 + S.size + 1 ≤ 4194304; omega
        have z5 : (⟨#[96]⟩ ++ S ++ ⟨#[36, 123]⟩ : ByteArray).size ≤ 4194304 := by rw [cat3_size]; show 1 + S.size + 2 ≤ 4194304; omega
        obtain ⟨X1, e1⟩ : ∃ X, (⟨#[125]⟩ ++ S ++ ⟨#[36, 123]⟩ : ByteArray) = X := ⟨_, rfl⟩
        obtain ⟨X2, e2⟩ : ∃ X, (⟨#[125]⟩ ++ S ++ ⟨#[96]⟩ : ByteArray) = X := ⟨_, rfl⟩
        obtain ⟨X3, e3⟩ : ∃ X, (⟨#[120, 32, 96]⟩ ++ S : ByteArray) = X := ⟨_, rfl⟩
        obtain ⟨X4, e4⟩ : ∃ X, (⟨#[96]⟩ ++ S ++ ⟨#[96]⟩ : ByteArray) = X := ⟨_, rfl⟩
        obtain ⟨X5, e5⟩ : ∃ X, (⟨#[96]⟩ ++ S ++ ⟨#[36, 123]⟩ : ByteArray) = X := ⟨_, rfl⟩
        rw [e1] at h1 z1
        rw [e2] at h2 z2
        rw [e3] at h3 z3
        rw [e4] at h4 z4
        rw [e5] at h5 z5
        have T1 : Hid (tokV X1 ⟨0, [], 10, X1.data.toList, [], false, []⟩ = .agg #[.int .i64 10, .string X1, .int .i64 0, .int .i64 (X1.size : Nat), .bool false]) := Lib.hid (by rw [tok_ok rfl (by rw [upTo_all, ofL_list]) (atS_all X1) (atS_nil X1)]; rfl)
        have T2 : Hid (tokV X2 ⟨0, [], 9, X2.data.toList, [], false, []⟩ = .agg #[.int .i64 9, .string X2, .int .i64 0, .int .i64 (X2.size : Nat), .bool false]) := Lib.hid (by rw [tok_ok rfl (by rw [upTo_all, ofL_list]) (atS_all X2) (atS_nil X2)]; rfl)
        have T3 : Hid (tokV X3 (failA 505 (96 :: S.data.toList)) = .agg #[.int .i64 0, .string ⟨#[]⟩, .int .i64 0, .int .i64 0, .bool false]) := Lib.hid (tok_no (show (505 : Int) ≠ 0 by decide))
        have P3 : Hid (placeV X3 (failA 505 (96 :: S.data.toList)) = 2) := Lib.hid (by
          rw [place_no (show (505 : Int) ≠ 0 by decide)]
          have hl : S.data.toList.length = S.size := by simp
          show ((X3.size - (96 :: S.data.toList).length : Nat) : Int) = 2
          rw [z3, List.length_cons, hl]; omega)
        have z3' : X3.size ≤ 4194304 := by omega
        have O4 : Hid (onlyB X4 ⟨0, [], 7, X4.data.toList, [], false, []⟩ 7 = true) := Lib.hid (only_yes X4 7 false)
        have O5 : Hid (onlyB X5 ⟨0, [], 8, X5.data.toList, [], false, []⟩ 8 = true) := Lib.hid (only_yes X5 8 false)
        have H1 := Lib.hid h1; have H2 := Lib.hid h2; have H3 := Lib.hid h3; have H4 := Lib.hid h4; have H5 := Lib.hid h5
        have E1 := Lib.hid e1; have E2 := Lib.hid e2; have E3 := Lib.hid e3; have E4 := Lib.hid e4; have E5 := Lib.hid e5
        clear h1 h2 h3 h4 h5 e1 e2 e3 e4 e5 z3
        go_wp2_with fail
        rw [E1.out]
        refine (next_gen X1 0 3 _ _ 0 0 0 H1.out T1.out (place_ok rfl) rfl rfl _ z1 HT1.out).mono ?_
        rintro e w1 ⟨ao1, cap1, rfl, _, hb1⟩
        have hB1 := bel_alloc (bel_trans HB.out hb1) (.cells #[.int .i64 10, .string X1, .int .i64 0, .int .i64 (X1.size : Nat), .bool false] 24)
        have u1 := tok_new w1 #[.int .i64 10, .string X1, .int .i64 0, .int .i64 (X1.size : Nat), .bool false] 24
        have HT2 := Lib.hid (HT.out.below hB1)
        clear hb1 HT1
        go_wp2_with fail
        rw [E2.out]
        refine (next_gen X2 0 3 _ _ 0 0 0 H2.out T2.out (place_ok rfl) rfl rfl _ z2 HT2.out).mono ?_
        rintro e w2 ⟨ao2, cap2, rfl, _, hb2⟩
        have hB2 := bel_alloc (bel_trans hB1 hb2) (.cells #[.int .i64 9, .string X2, .int .i64 0, .int .i64 (X2.size : Nat), .bool false] 24)
        have u2 := blk_alloc (blk_on u1 hb2) (.cells #[.int .i64 9, .string X2, .int .i64 0, .int .i64 (X2.size : Nat), .bool false] 24)
        have v2 := tok_new w2 #[.int .i64 9, .string X2, .int .i64 0, .int .i64 (X2.size : Nat), .bool false] 24
        have HT3 := Lib.hid (HT.out.below hB2)
        clear hb2 HT2 hB1 u1
        go_wp2_with fail
        rw [E3.out]
        refine (next_gen X3 1 1 _ _ 2 505 0 H3.out T3.out P3.out rfl rfl _ z3' HT3.out).mono ?_
        rintro e w3 ⟨ao3, cap3, rfl, _, hb3⟩
        have hB3 := bel_alloc (bel_trans hB2 hb3) zeroObj
        have u3 := blk_alloc (blk_on u2 hb3) zeroObj
        have v3 := blk_alloc (blk_on v2 hb3) zeroObj
        have HT4 := Lib.hid (HT.out.below hB3)
        clear hb3 HT3 hB2 u2 v2
        go_wp2_with fail
        rw [E4.out]
        refine (only_any X4 1 7 _ H4.out _ O4.out _ z4 HT4.out).mono ?_
        rintro e w4 ⟨rfl, hb4⟩
        have hB4 := bel_trans hB3 hb4
        have u4 := blk_on u3 hb4
        have v4 := blk_on v3 hb4
        have HT5 := Lib.hid (HT.out.below hB4)
        clear hb4 HT4 hB3 u3 v3
        go_wp2_with fail
        rw [E5.out]
        refine (only_any X5 2 8 _ H5.out _ O5.out _ z5 HT5.out).mono ?_
        rintro e w5 ⟨rfl, hb5⟩
        have HB5 := Lib.hid (bel_trans hB4 hb5)
        obtain ⟨⟨c0, c1, c2, c3, c4⟩, _⟩ := five_cells (blk_on u4 hb5)
        obtain ⟨⟨d0, d1, d2, d3, d4⟩, _⟩ := five_cells (blk_on v4 hb5)
        have t1 : (X1.toList == (⟨#[125]⟩ ++ S ++ ⟨#[36, 123]⟩ : ByteArray).toList) = true := by rw [E1.out]; simp
        clear hb5 HT5 hB4 u4 v4
        go_wp2_with fail
        refine (num_any _ _).mono ?_
        rintro e w6 ⟨rfl, rfl⟩
        go_wp2_with fail
        refine (num_any _ _).mono ?_
        rintro e w6 ⟨rfl, rfl⟩
        go_wp2_with fail
        refine (num_any _ _).mono ?_
        rintro e w6 ⟨rfl, rfl⟩
        go_wp2_with fail
        go_ret
        exact ⟨rfl, HB5.out⟩
    · obtain ⟨h1, h2, h3, h4, h5⟩ := tem_all S k HC.out
      have HT1 := Lib.hid (HT.out.below HB.out)
      have z1 : (⟨#[125]⟩ ++ S ++ ⟨#[36, 123]⟩ : ByteArray).size ≤ 4194304 := by rw [cat3_size]; show 1 + S.size + 2 ≤ 4194304; omega
      have z2 : (⟨#[125]⟩ ++ S ++ ⟨#[96]⟩ : ByteArray).size ≤ 4194304 := by rw [cat3_size]; show 1 + S.size + 1 ≤ 4194304; omega
      have z3 : (⟨#[120, 32, 96]⟩ ++ S : ByteArray).size = 3 + S.size := by rw [cat2_size]; rfl
      have z4 : (⟨#[96]⟩ ++ S ++ ⟨#[96]⟩ : ByteArray).size ≤ 4194304 := by rw [cat3_size]; show 1 + S.size + 1 ≤ 4194304; omega
      have z5 : (⟨#[96]⟩ ++ S ++ ⟨#[36, 123]⟩ : ByteArray).size ≤ 4194304 := by rw [cat3_size]; show 1 + S.size + 2 ≤ 4194304; omega
      obtain ⟨X1, e1⟩ : ∃ X, (⟨#[125]⟩ ++ S ++ ⟨#[36, 123]⟩ : ByteArray) = X := ⟨_, rfl⟩
      obtain ⟨X2, e2⟩ : ∃ X, (⟨#[125]⟩ ++ S ++ ⟨#[96]⟩ : ByteArray) = X := ⟨_, rfl⟩
      obtain ⟨X3, e3⟩ : ∃ X, (⟨#[120, 32, 96]⟩ ++ S : ByteArray) = X := ⟨_, rfl⟩
      obtain ⟨X4, e4⟩ : ∃ X, (⟨#[96]⟩ ++ S ++ ⟨#[96]⟩ : ByteArray) = X := ⟨_, rfl⟩
      obtain ⟨X5, e5⟩ : ∃ X, (⟨#[96]⟩ ++ S ++ ⟨#[36, 123]⟩ : ByteArray) = X := ⟨_, rfl⟩
      rw [e1] at h1 z1
      rw [e2] at h2 z2
      rw [e3] at h3 z3
      rw [e4] at h4 z4
      rw [e5] at h5 z5
      have T1 : Hid (tokV X1 ⟨0, [], 10, X1.data.toList, [], false, []⟩ = .agg #[.int .i64 10, .string X1, .int .i64 0, .int .i64 (X1.size : Nat), .bool false]) := Lib.hid (by rw [tok_ok rfl (by rw [upTo_all, ofL_list]) (atS_all X1) (atS_nil X1)]; rfl)
      have T2 : Hid (tokV X2 ⟨0, [], 9, X2.data.toList, [], false, []⟩ = .agg #[.int .i64 9, .string X2, .int .i64 0, .int .i64 (X2.size : Nat), .bool false]) := Lib.hid (by rw [tok_ok rfl (by rw [upTo_all, ofL_list]) (atS_all X2) (atS_nil X2)]; rfl)
      have T3 : Hid (tokV X3 (failA 505 (96 :: S.data.toList)) = .agg #[.int .i64 0, .string ⟨#[]⟩, .int .i64 0, .int .i64 0, .bool false]) := Lib.hid (tok_no (show (505 : Int) ≠ 0 by decide))
      have P3 : Hid (placeV X3 (failA 505 (96 :: S.data.toList)) = 2) := Lib.hid (by
        rw [place_no (show (505 : Int) ≠ 0 by decide)]
        have hl : S.data.toList.length = S.size := by simp
        show ((X3.size - (96 :: S.data.toList).length : Nat) : Int) = 2
        rw [z3, List.length_cons, hl]; omega)
      have z3' : X3.size ≤ 4194304 := by omega
      have O4 : Hid (onlyB X4 ⟨0, [], 7, X4.data.toList, [], false, []⟩ 7 = true) := Lib.hid (only_yes X4 7 false)
      have O5 : Hid (onlyB X5 ⟨0, [], 8, X5.data.toList, [], false, []⟩ 8 = true) := Lib.hid (only_yes X5 8 false)
      have H1 := Lib.hid h1; have H2 := Lib.hid h2; have H3 := Lib.hid h3; have H4 := Lib.hid h4; have H5 := Lib.hid h5
      have E1 := Lib.hid e1; have E2 := Lib.hid e2; have E3 := Lib.hid e3; have E4 := Lib.hid e4; have E5 := Lib.hid e5
      clear h1 h2 h3 h4 h5 e1 e2 e3 e4 e5 z3
      go_wp2_with fail
      rw [E1.out]
      refine (next_gen X1 0 3 _ _ 0 0 0 H1.out T1.out (place_ok rfl) rfl rfl _ z1 HT1.out).mono ?_
      rintro e w1 ⟨ao1, cap1, rfl, _, hb1⟩
      have hB1 := bel_alloc (bel_trans HB.out hb1) (.cells #[.int .i64 10, .string X1, .int .i64 0, .int .i64 (X1.size : Nat), .bool false] 24)
      have u1 := tok_new w1 #[.int .i64 10, .string X1, .int .i64 0, .int .i64 (X1.size : Nat), .bool false] 24
      have HT2 := Lib.hid (HT.out.below hB1)
      clear hb1 HT1
      go_wp2_with fail
      rw [E2.out]
      refine (next_gen X2 0 3 _ _ 0 0 0 H2.out T2.out (place_ok rfl) rfl rfl _ z2 HT2.out).mono ?_
      rintro e w2 ⟨ao2, cap2, rfl, _, hb2⟩
      have hB2 := bel_alloc (bel_trans hB1 hb2) (.cells #[.int .i64 9, .string X2, .int .i64 0, .int .i64 (X2.size : Nat), .bool false] 24)
      have u2 := blk_alloc (blk_on u1 hb2) (.cells #[.int .i64 9, .string X2, .int .i64 0, .int .i64 (X2.size : Nat), .bool false] 24)
      have v2 := tok_new w2 #[.int .i64 9, .string X2, .int .i64 0, .int .i64 (X2.size : Nat), .bool false] 24
      have HT3 := Lib.hid (HT.out.below hB2)
      clear hb2 HT2 hB1 u1
      go_wp2_with fail
      rw [E3.out]
      refine (next_gen X3 1 1 _ _ 2 505 0 H3.out T3.out P3.out rfl rfl _ z3' HT3.out).mono ?_
      rintro e w3 ⟨ao3, cap3, rfl, _, hb3⟩
      have hB3 := bel_alloc (bel_trans hB2 hb3) zeroObj
      have u3 := blk_alloc (blk_on u2 hb3) zeroObj
      have v3 := blk_alloc (blk_on v2 hb3) zeroObj
      have HT4 := Lib.hid (HT.out.below hB3)
      clear hb3 HT3 hB2 u2 v2
      go_wp2_with fail
      rw [E4.out]
      refine (only_any X4 1 7 _ H4.out _ O4.out _ z4 HT4.out).mono ?_
      rintro e w4 ⟨rfl, hb4⟩
      have hB4 := bel_trans hB3 hb4
      have u4 := blk_on u3 hb4
      have v4 := blk_on v3 hb4
      have HT5 := Lib.hid (HT.out.below hB4)
      clear hb4 HT4 hB3 u3 v3
      go_wp2_with fail
      rw [E5.out]
      refine (only_any X5 2 8 _ H5.out _ O5.out _ z5 HT5.out).mono ?_
      rintro e w5 ⟨rfl, hb5⟩
      have HB5 := Lib.hid (bel_trans hB4 hb5)
      obtain ⟨⟨c0, c1, c2, c3, c4⟩, _⟩ := five_cells (blk_on u4 hb5)
      obtain ⟨⟨d0, d1, d2, d3, d4⟩, _⟩ := five_cells (blk_on v4 hb5)
      have t1 : (X1.toList == (⟨#[125]⟩ ++ S ++ ⟨#[36, 123]⟩ : ByteArray).toList) = true := by rw [E1.out]; simp
      clear hb5 HT5 hB4 u4 v4
      go_wp2_with fail
      refine (num_any _ _).mono ?_
      rintro e w6 ⟨rfl, rfl⟩
      go_wp2_with fail
      refine (num_any _ _).mono ?_
      rintro e w6 ⟨rfl, rfl⟩
      go_wp2_with fail
      refine (num_any _ _).mono ?_
      rintro e w6 ⟨rfl, rfl⟩
      go_wp2_with fail
      go_ret
      exact ⟨rfl, HB5.out⟩

end Lex
end Go.Proofs.YtfnilkhccomemaaDoor
