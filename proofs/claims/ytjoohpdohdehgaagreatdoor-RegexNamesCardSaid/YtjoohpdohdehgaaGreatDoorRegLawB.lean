/-
  The law on names.
-/
import Derived.Test.YtjoohpdohdehgaaGreatDoorRegLawA
import Derived.Test.YtjoohpdohdehgaaGreatDoorRegDecimal
namespace Go.Proofs.YtjoohpdohdehgaaGreatDoor
namespace Reg
open Go.RowKit

/-- A name of the law. -/
def dig1 (i : Nat) : ByteArray := ⟨#[UInt8.ofNat (48 + i)]⟩
abbrev gName (i : Nat) : ByteArray := ⟨#[103]⟩ ++ dig1 i
theorem names_all : ∀ x y z : Fin 4, endP (((((((⟨#[92, 107, 60]⟩ ++ gName z.1) ++ ⟨#[62, 40, 63, 60]⟩) ++ gName x.1) ++ ⟨#[62, 97, 41]⟩) ++ ⟨#[40, 63, 60]⟩) ++ gName y.1) ++ ⟨#[62, 98, 41]⟩) ⟨#[]⟩
    = if x.1 = y.1 then (17, 404) else if z.1 ≠ x.1 ∧ z.1 ≠ y.1 then (0, 404) else (0, 0) := by decide +kernel
theorem name_eq : ∀ x y : Fin 4, ((gName x.1).toList == (gName y.1).toList) = decide (x.1 = y.1) := by decide +kernel
theorem digit_one (i : Nat) (h : i < 4) : (⟨(Lib.itoa (i : Int)).toArray⟩ : ByteArray) = dig1 i := by
  have : i = 0 ∨ i = 1 ∨ i = 2 ∨ i = 3 := by omega
  have e : Lib.itoa (i : Int) = Lib.decDigits i := Lib.itoa_nonneg i
  rw [e, Lib.decDigits, dif_pos (by omega)]; rfl

set_option maxHeartbeats 2000000 in
set_option maxRecDepth 20000 in
theorem law_names (a b c : Int) (w : World) (ht : Tabs w.heap.size w) :
    Calls Tryz.prog 7 #[.int .i64 a, .int .i64 b, .int .i64 c] w fun e w' => e = .returned (.bool true) ∧ Below w.heap.size w w' := by
  have HT := Lib.hid ht; clear ht
  have ha := i64_mask a 2 3 rfl (by decide)
  have hb := i64_mask b 2 3 rfl (by decide)
  have hc := i64_mask c 2 3 rfl (by decide)
  obtain ⟨i, hi, ei⟩ : ∃ i : Nat, i < 4 ∧ a % ((2 ^ 2 : Nat) : Int) = i := ⟨(a % 4).toNat, by omega, by omega⟩
  obtain ⟨j, hj, ej⟩ : ∃ j : Nat, j < 4 ∧ b % ((2 ^ 2 : Nat) : Int) = j := ⟨(b % 4).toNat, by omega, by omega⟩
  obtain ⟨k, hk, ek⟩ : ∃ k : Nat, k < 4 ∧ c % ((2 ^ 2 : Nat) : Int) = k := ⟨(c % 4).toNat, by omega, by omega⟩
  rw [ei] at ha; rw [ej] at hb; rw [ek] at hc
  have ha' : bits .and .i64 a 3 = (i : Int) := ha
  have hb' : bits .and .i64 b 3 = (j : Int) := hb
  have hc' : bits .and .i64 c 3 = (k : Int) := hc
  have HE := Lib.hid (names_all ⟨i, hi⟩ ⟨j, hj⟩ ⟨k, hk⟩)
  have HD : Hid (∀ n : Nat, n < 4 → ∀ w, Calls Tryz.prog 15 #[.int .i64 (n : Int)] w fun e w' => e = .returned (.string (dig1 n)) ∧ Below w.heap.size w w') := Lib.hid (fun n hn w => by
    have := Num.decimal_any (n : Int) w (by omega) (by omega)
    rwa [digit_one n hn] at this)
  have hxy := name_eq ⟨i, hi⟩ ⟨j, hj⟩
  have hzx := name_eq ⟨k, hk⟩ ⟨i, hi⟩
  have hzy := name_eq ⟨k, hk⟩ ⟨j, hj⟩
  have hsi : (dig1 i).size = 1 := rfl
  have hsj : (dig1 j).size = 1 := rfl
  have hsk : (dig1 k).size = 1 := rfl
  clear ei ej ek ha hb hc
  go_enter Tryz.func7, Tryz.ntmps7
  go_wp2_with fail
  refine (awake_any _ HT.out).mono ?_
  rintro e w1 ⟨rfl, hb1⟩
  have HT1 := Lib.hid (HT.out.below hb1)
  go_wp2_with fail
  refine (HD.out i hi _).mono ?_
  rintro e w2 ⟨rfl, hb2⟩
  have HT2 := Lib.hid (HT1.out.below hb2)
  go_wp2_with fail
  refine (HD.out j hj _).mono ?_
  rintro e w3 ⟨rfl, hb3⟩
  have HT3 := Lib.hid (HT2.out.below hb3)
  go_wp2_with fail
  refine (HD.out k hk _).mono ?_
  rintro e w4 ⟨rfl, hb4⟩
  have HT4 := Lib.hid (HT3.out.below hb4)
  go_wp2_with fail
  have HB5 := Lib.hid (hb1.trans ((hb2.trans ((hb3.trans (hb4.mono hb3.size)).mono hb2.size)).mono hb1.size))
  clear hb1 hb2 hb3 hb4
  by_cases hij : i = j
  · refine (check_is _ _ 17 404 (by rw [HE.out, if_pos hij]) (by decide) _ HT4.out).mono ?_
    rintro e w5 ⟨rfl, hb5⟩
    go_wp2_with fail
    refine (num_any _ _).mono ?_
    rintro e w6 ⟨rfl, rfl⟩
    go_wp2_with fail
    go_ret
    exact ⟨rfl, HB5.out.trans (hb5.mono HB5.out.size)⟩
  · have Hij := Lib.hid hij
    rw [show decide (i = j) = false from decide_eq_false hij] at hxy
    have hxy2 : ((⟨#[103]⟩ ++ dig1 i : ByteArray).toList == (⟨#[103]⟩ ++ dig1 j : ByteArray).toList) = false := hxy
    have hzx2 : ((⟨#[103]⟩ ++ dig1 k : ByteArray).toList == (⟨#[103]⟩ ++ dig1 i : ByteArray).toList) = decide (k = i) := hzx
    have hzy2 : ((⟨#[103]⟩ ++ dig1 k : ByteArray).toList == (⟨#[103]⟩ ++ dig1 j : ByteArray).toList) = decide (k = j) := hzy
    clear hij hxy hzx hzy
    by_cases hki : k = i
    · refine (check_is _ _ 0 0 (by rw [HE.out, if_neg Hij.out, if_neg (fun h => h.1 hki)]) (by decide) _ HT4.out).mono ?_
      rintro e w5 ⟨rfl, hb5⟩
      rw [show decide (k = i) = true from decide_eq_true hki] at hzx2
      clear hki hzy2
      generalize (⟨#[103]⟩ ++ dig1 i : ByteArray) = X at hxy2 hzx2 ⊢
      generalize (⟨#[103]⟩ ++ dig1 j : ByteArray) = Y at hxy2 ⊢
      generalize (⟨#[103]⟩ ++ dig1 k : ByteArray) = Z at hzx2 ⊢
      go_wp2_with fail
      refine (num_any _ _).mono ?_
      rintro e w6 ⟨rfl, rfl⟩
      go_wp2_with fail
      go_ret
      exact ⟨rfl, HB5.out.trans (hb5.mono HB5.out.size)⟩
    · have Hki := Lib.hid hki
      rw [show decide (k = i) = false from decide_eq_false hki] at hzx2
      clear hki
      by_cases hkj : k = j
      · refine (check_is _ _ 0 0 (by rw [HE.out, if_neg Hij.out, if_neg (fun h => h.2 hkj)]) (by decide) _ HT4.out).mono ?_
        rintro e w5 ⟨rfl, hb5⟩
        rw [show decide (k = j) = true from decide_eq_true hkj] at hzy2
        clear hkj
        generalize (⟨#[103]⟩ ++ dig1 i : ByteArray) = X at hxy2 hzx2 ⊢
        generalize (⟨#[103]⟩ ++ dig1 j : ByteArray) = Y at hxy2 hzy2 ⊢
        generalize (⟨#[103]⟩ ++ dig1 k : ByteArray) = Z at hzx2 hzy2 ⊢
        go_wp2_with fail
        refine (num_any _ _).mono ?_
        rintro e w6 ⟨rfl, rfl⟩
        go_wp2_with fail
        go_ret
        exact ⟨rfl, HB5.out.trans (hb5.mono HB5.out.size)⟩
      · refine (check_is _ _ 0 404 (by rw [HE.out, if_neg Hij.out, if_pos ⟨Hki.out, hkj⟩]) (by decide) _ HT4.out).mono ?_
        rintro e w5 ⟨rfl, hb5⟩
        rw [show decide (k = j) = false from decide_eq_false hkj] at hzy2
        clear hkj
        generalize (⟨#[103]⟩ ++ dig1 i : ByteArray) = X at hxy2 hzx2 ⊢
        generalize (⟨#[103]⟩ ++ dig1 j : ByteArray) = Y at hxy2 hzy2 ⊢
        generalize (⟨#[103]⟩ ++ dig1 k : ByteArray) = Z at hzx2 hzy2 ⊢
        go_wp2_with fail
        refine (num_any _ _).mono ?_
        rintro e w6 ⟨rfl, rfl⟩
        go_wp2_with fail
        go_ret
        exact ⟨rfl, HB5.out.trans (hb5.mono HB5.out.size)⟩

end Reg
end Go.Proofs.YtjoohpdohdehgaaGreatDoor
