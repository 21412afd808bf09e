/-
  The law 'WordLevels'.
-/
import Derived.Test.YtggibhlmnfodaaaWordAwake
import Derived.Test.YtggibhlmnfodaaaLexDec
import Derived.Deep.QuietTactic
import Derived.BigQuiet
namespace Go.Proofs.Ytggibhlmnfodaaa
namespace Word
open Go.RowKit
open Uni (ret_bool ret_int)

theorem u64_range (z : Int) : 0 ≤ IntKind.u64.wrap z ∧ IntKind.u64.wrap z < 18446744073709551616 := by
  unfold IntKind.wrap
  simp only [IntKind.signed, IntKind.bits]
  constructor
  · exact Int.emod_nonneg _ (by decide)
  · exact Int.emod_lt_of_pos _ (by decide)
theorem rem_nat (z : Int) (n : Nat) (h : 0 < n) : ∃ k : Nat, k < n ∧ (IntKind.u64.wrap z).tmod (n : Int) = k := by
  have h1 := (u64_range z).1
  refine ⟨((IntKind.u64.wrap z).tmod (n : Int)).toNat, ?_, ?_⟩
  · rw [Int.tmod_eq_emod_of_nonneg h1]
    have := Int.emod_lt_of_pos (IntKind.u64.wrap z) (show (0 : Int) < n by omega)
    have := Int.emod_nonneg (IntKind.u64.wrap z) (show (n : Int) ≠ 0 by omega)
    omega
  · rw [Int.tmod_eq_emod_of_nonneg h1]
    have := Int.emod_nonneg (IntKind.u64.wrap z) (show (n : Int) ≠ 0 by omega)
    omega

theorem row_pos : ∀ i, i < 12 → 0 < (rowsL.getD i []).length := by decide
theorem row_six : ∀ i, i < 12 → (rowsL.getD i []).length ≤ 6 := by decide
theorem row_lev : ∀ i, i < 12 → ∀ j, j < (rowsL.getD i []).length → levN ⟨((rowsL.getD i []).getD j []).toArray⟩ = i + 1 ∧ rightB ⟨((rowsL.getD i []).getD j []).toArray⟩ = decide (i = 11) := by decide +kernel

theorem below_drewN {B : Nat} {u w : World} (h : Below B u w) (n : Nat) : Below B u (w.drewN n) := h.trans ⟨rfl, rfl, rfl, Nat.le_refl _, fun _ _ => rfl⟩

/-! A numeral is no operator: its last byte is a digit. -/
def dig : Option UInt8 → Bool
  | some c => decide (48 ≤ c.toNat ∧ c.toNat ≤ 57)
  | none => false
theorem dec_dig (n : Nat) : dig (Lib.decDigits n).getLast? = true := by
  rw [Lib.decDigits]
  have hd : ∀ k, k < 10 → dig (some (UInt8.ofNat (48 + k))) = true := by decide
  by_cases h : n < 10
  · rw [dif_pos h]; exact hd n h
  · rw [dif_neg h, List.getLast?_append]
    exact hd (n % 10) (Nat.mod_lt _ (by decide))
theorem cons_dig (c : UInt8) (l : List UInt8) (h : dig l.getLast? = true) : dig (c :: l).getLast? = true := by
  cases l with
  | nil => cases h
  | cons x t => rw [List.getLast?_cons_cons]; exact h
theorem itoa_dig (a : Int) : dig (Lib.itoa a).getLast? = true := by
  unfold Lib.itoa
  by_cases h : a < 0
  · rw [if_pos h]; exact cons_dig _ _ (dec_dig _)
  · rw [if_neg h]; exact dec_dig _
theorem ops_dig : ∀ r ∈ rowsL, ∀ y ∈ r, dig y.getLast? = false := by decide +kernel
theorem itoa_lev (a : Int) : levN ⟨(Lib.itoa a).toArray⟩ = 0 :=
  lev_zero rowsL 0 _ (fun r hr y hy e => by
    have h1 := ops_dig r hr y hy
    rw [← e] at h1
    have h2 := itoa_dig a
    rw [h2] at h1; cases h1)

/-- What is no operator. -/
def others (D : ByteArray) : Array Value := #[.string ⟨#[]⟩, .string ⟨#[61]⟩, .string ⟨#[43, 61]⟩, .string ⟨#[33]⟩, .string ⟨#[126]⟩, .string ⟨#[61, 62]⟩, .string ⟨#[63]⟩, .string ⟨#[46]⟩, .string ⟨#[111, 102]⟩, .string ⟨#[43, 43]⟩, .string D]
theorem others_at (D : ByteArray) (hD : levN D = 0) (r : Nat) (hr : r < 11) : ∃ Z, (others D)[r]? = some (.string Z) ∧ levN Z = 0 := by
  match r, hr with
  | 0, _ => exact ⟨_, rfl, by decide +kernel⟩
  | 1, _ => exact ⟨_, rfl, by decide +kernel⟩
  | 2, _ => exact ⟨_, rfl, by decide +kernel⟩
  | 3, _ => exact ⟨_, rfl, by decide +kernel⟩
  | 4, _ => exact ⟨_, rfl, by decide +kernel⟩
  | 5, _ => exact ⟨_, rfl, by decide +kernel⟩
  | 6, _ => exact ⟨_, rfl, by decide +kernel⟩
  | 7, _ => exact ⟨_, rfl, by decide +kernel⟩
  | 8, _ => exact ⟨_, rfl, by decide +kernel⟩
  | 9, _ => exact ⟨_, rfl, by decide +kernel⟩
  | 10, _ => exact ⟨_, rfl, hD⟩

set_option maxHeartbeats 4000000 in
set_option maxRecDepth 100000 in
theorem law_levels (a b : Int) (w : World) (ha : -9223372036854775808 ≤ a ∧ a ≤ 9223372036854775807) :
    Calls Try.prog 5 #[.int .i64 a, .int .i64 b] w fun e w' => e = .returned (.bool true) ∧ Below w.heap.size w w' := by
  obtain ⟨i, hi, ei⟩ := rem_nat a 12 (by decide)
  obtain ⟨k, hk, ek⟩ := rem_nat b 12 (by decide)
  obtain ⟨r, hr, er⟩ := rem_nat b 11 (by decide)
  have ER := Lib.hid er
  clear er
  obtain ⟨p, hp, ep⟩ := rem_nat b (rowsL.getD i []).length (row_pos i hi)
  obtain ⟨q, hq, eq⟩ := rem_nat a (rowsL.getD k []).length (row_pos k hk)
  obtain ⟨lx, rx⟩ := row_lev i hi p hp
  obtain ⟨ly, _⟩ := row_lev k hk q hq
  have LX := Lib.hid lx
  have RX := Lib.hid rx
  have LY := Lib.hid ly
  have EI := Lib.hid ei
  have EK := Lib.hid ek
  have EP := Lib.hid ep
  have EQ := Lib.hid eq
  have HP := Lib.hid hp
  have HQ := Lib.hid hq
  have N0 := Lib.hid (row_pos i hi)
  have M0 := Lib.hid (row_pos k hk)
  have N6 := Lib.hid (row_six i hi)
  have M6 := Lib.hid (row_six k hk)
  clear lx rx ly ei ek ep eq hp hq
  go_enter Try.func5, Try.ntmps5
  go_wp2_with fail
  refine (awake_any w).mono ?_
  rintro e w0 ⟨rfl, hb0⟩
  have HB0 := Lib.hid hb0
  clear hb0
  have ei : (IntKind.u64.wrap a).tmod 12 = (i : Int) := EI.out
  have ek : (IntKind.u64.wrap b).tmod 12 = (k : Int) := EK.out
  go_wp2_with fail
  generalize hw : World.alloc (World.alloc _ _) _ = w1
  generalize hg : w0.heap.size + 1 + 1 + 1 + 1 + 1 + 1 + 1 + 1 + 1 + 1 + 1 + 1 = g
  have HR : RowsAt g w1 := by rw [← hw, ← hg]; exact lay_rows w0
  have HB1 : Hid (Below w.heap.size w w1) := Lib.hid (bel_trans HB0.out (by rw [← hw]; exact lay_bel w0))
  clear hw hg
  obtain ⟨bi, h1, h2⟩ := HR i hi
  obtain ⟨bk, h3, h4⟩ := HR k hk
  replace h2 := h2 p HP.out
  replace h4 := h4 q HQ.out
  have n0 := N0.out
  have m0 := M0.out
  have n6 := N6.out
  have m6 := M6.out
  have hp := HP.out
  have hq := HQ.out
  have ep := EP.out
  have eq := EQ.out
  generalize (rowsL.getD i []).length = n at *
  generalize (rowsL.getD k []).length = m at *
  generalize (rowsL.getD i []).getD p [] = x at *
  generalize (rowsL.getD k []).getD q [] = y at *
  unfold strV at h2 h4
  generalize (⟨x.toArray⟩ : ByteArray) = X at *
  generalize (⟨y.toArray⟩ : ByteArray) = Y at *
  clear HR
  go_quiet (fail)
  generalize hw2 : World.drewN w1 _ = w2
  have HB2 : Hid (Below w.heap.size w w2) := Lib.hid (by rw [← hw2]; exact below_drewN HB1.out _)
  clear hw2 h1 h2 h3 h4 n0 m0 n6 m6 hp hq ep eq
  go_wp2_with fail
  refine (Num.decimal_any a w2 ha.1 ha.2).mono ?_
  rintro e w3 ⟨rfl, hb3⟩
  have HB3 := Lib.hid (bel_trans HB2.out hb3)
  have HD := Lib.hid (itoa_lev a)
  generalize (⟨(Lib.itoa a).toArray⟩ : ByteArray) = D at *
  obtain ⟨Z, hZ, lz⟩ := others_at D HD.out r hr
  have LZ := Lib.hid lz
  have er : (IntKind.u64.wrap b).tmod 11 = (r : Int) := ER.out
  clear lz hb3
  go_wp2_with fail
  generalize hw4 : World.alloc w3 _ = w4
  generalize hg4 : w3.heap.size = g4 at *
  have hz : w4.cell? ⟨g4, r, none⟩ = some (.string Z) := by
    rw [← hw4, World.cell?_alloc_at _ _ _ _ hg4.symm]; exact hZ
  have HB4 : Hid (Below w.heap.size w w4) := Lib.hid (by rw [← hw4]; exact bel_alloc HB3.out _)
  clear hw4 hg4 hZ
  have b11 : ∃ z, decide (i = 11) = z ∧ ((i : Int) == 11) = z := ⟨decide (i = 11), rfl, by
    by_cases h : i = 11
    · subst h; rfl
    · rw [decide_eq_false h]; exact beq_eq_false_iff_ne.2 (by omega)⟩
  obtain ⟨z, hz1, hz2⟩ := b11
  rw [hz1] at RX
  clear hz1
  refine (level_any X w4).mono ?_
  rintro e w5 ⟨rfl, rfl⟩
  rw [LX.out]
  obtain h | h | h : i < k ∨ i = k ∨ k < i := by omega
  · have b1 : ((i : Int) + 1 == (k : Int) + 1) = false := beq_eq_false_iff_ne.2 (by omega)
    have b2 : ((i : Int) == (k : Int)) = false := beq_eq_false_iff_ne.2 (by omega)
    go_wp2_with fail
    refine (level_any Y w4).mono ?_
    rintro e w5 ⟨rfl, rfl⟩
    rw [LY.out]
    go_wp2_with fail
    refine (level_any X w4).mono ?_
    rintro e w5 ⟨rfl, rfl⟩
    rw [LX.out]
    go_wp2_with fail
    refine (level_any Y w4).mono ?_
    rintro e w5 ⟨rfl, rfl⟩
    rw [LY.out]
    go_wp2_with fail
    refine (level_any Z w4).mono ?_
    rintro e w5 ⟨rfl, rfl⟩
    rw [LZ.out]
    go_wp2_with fail
    refine (right_any X w4).mono ?_
    rintro e w5 ⟨rfl, rfl⟩
    rw [RX.out]
    cases z
    all_goals
      go_wp2_with fail
      refine (level_any X w4).mono ?_
      rintro e w5 ⟨rfl, rfl⟩
      rw [LX.out]
      go_wp2_with fail
      go_ret
      exact ⟨rfl, HB4.out⟩
  · subst h
    go_wp2_with fail
    refine (level_any Y w4).mono ?_
    rintro e w5 ⟨rfl, rfl⟩
    rw [LY.out]
    go_wp2_with fail
    refine (level_any X w4).mono ?_
    rintro e w5 ⟨rfl, rfl⟩
    rw [LX.out]
    go_wp2_with fail
    refine (level_any Y w4).mono ?_
    rintro e w5 ⟨rfl, rfl⟩
    rw [LY.out]
    go_wp2_with fail
    refine (level_any Z w4).mono ?_
    rintro e w5 ⟨rfl, rfl⟩
    rw [LZ.out]
    go_wp2_with fail
    refine (right_any X w4).mono ?_
    rintro e w5 ⟨rfl, rfl⟩
    rw [RX.out]
    cases z
    all_goals
      go_wp2_with fail
      refine (level_any X w4).mono ?_
      rintro e w5 ⟨rfl, rfl⟩
      rw [LX.out]
      go_wp2_with fail
      go_ret
      exact ⟨rfl, HB4.out⟩
  · have b1 : ((i : Int) + 1 == (k : Int) + 1) = false := beq_eq_false_iff_ne.2 (by omega)
    have b2 : ((i : Int) == (k : Int)) = false := beq_eq_false_iff_ne.2 (by omega)
    go_wp2_with fail
    refine (level_any Y w4).mono ?_
    rintro e w5 ⟨rfl, rfl⟩
    rw [LY.out]
    go_wp2_with fail
    refine (level_any X w4).mono ?_
    rintro e w5 ⟨rfl, rfl⟩
    rw [LX.out]
    go_wp2_with fail
    refine (level_any Y w4).mono ?_
    rintro e w5 ⟨rfl, rfl⟩
    rw [LY.out]
    go_wp2_with fail
    refine (level_any Z w4).mono ?_
    rintro e w5 ⟨rfl, rfl⟩
    rw [LZ.out]
    go_wp2_with fail
    refine (right_any X w4).mono ?_
    rintro e w5 ⟨rfl, rfl⟩
    rw [RX.out]
    cases z
    all_goals
      go_wp2_with fail
      refine (level_any X w4).mono ?_
      rintro e w5 ⟨rfl, rfl⟩
      rw [LX.out]
      go_wp2_with fail
      go_ret
      exact ⟨rfl, HB4.out⟩

theorem wf_range {a : Int} (h : (Lit.int .i64 a).wf = true) : -9223372036854775808 ≤ a ∧ a ≤ 9223372036854775807 := by
  simp only [Lit.wf, Bool.and_eq_true, decide_eq_true_eq] at h
  have h1 : IntKind.i64.min = -9223372036854775808 := by decide
  have h2 : IntKind.i64.max = 9223372036854775807 := by decide
  omega

end Word
end Go.Proofs.Ytggibhlmnfodaaa
