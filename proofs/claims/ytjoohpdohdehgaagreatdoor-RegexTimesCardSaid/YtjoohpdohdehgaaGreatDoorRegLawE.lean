/-
  The law on quantifiers.
-/
import Derived.Test.YtjoohpdohdehgaaGreatDoorRegLawA
import Derived.Test.YtjoohpdohdehgaaGreatDoorRegNumS
namespace Go.Proofs.YtjoohpdohdehgaaGreatDoor
namespace Reg
open Go.RowKit

theorem ba_data (a b : ByteArray) : (a ++ b).data.toList = a.data.toList ++ b.data.toList := by simp [ByteArray.data_append]
/-- The noughts ahead. -/
def noughts (k : Nat) : ByteArray := (⟨#[48, 48, 48, 48, 48, 48, 48]⟩ : ByteArray).extract 0 k
theorem noughts_data : ∀ k : Fin 8, (noughts k.1).data.toList = List.replicate k.1 48 := by decide +kernel
theorem noughts_size (k : Nat) : (noughts k).size ≤ 7 := by
  unfold noughts
  rw [ByteArray.size_extract]
  show min k 7 - 0 ≤ 7
  omega

theorem times_body (k x y : Nat) (hk : k < 8) (hx : x < 1000000000) (hy : y < 1000000000) :
    endP ((((((⟨#[97, 123]⟩ ++ noughts k) ++ numS x) ++ ⟨#[57, 57, 57, 57, 57, 57, 57, 57, 57, 57, 57, 57, 57, 57, 57, 57, 57, 57, 57, 57, 44]⟩) ++ numS y) ++ ⟨#[57, 57, 57, 57, 57, 57, 57, 57, 57, 57, 57, 57, 57, 57, 57, 57, 57, 57, 57, 57, 125, 63]⟩)) ⟨#[]⟩ = if x ≤ y then (0, 0) else (1, 403) := by
  refine times_two k x y hx hy _ ?_ ?_
  · rw [ba_data, ba_data, ba_data, ba_data, ba_data, noughts_data ⟨k, hk⟩, numS_data, numS_data]
    show ((((([97, 123] ++ List.replicate k 48) ++ decF 9 x) ++ (List.replicate 20 57 ++ [44])) ++ decF 9 y) ++ (List.replicate 20 57 ++ [125, 63]) : List UInt8) = _
    simp only [List.append_assoc, List.cons_append, List.nil_append]
  · have h1 := noughts_size k
    have h2 := numS_size x
    have h3 := numS_size y
    rw [ByteArray.size_append, ByteArray.size_append, ByteArray.size_append, ByteArray.size_append, ByteArray.size_append]
    show 2 + _ + _ + 21 + _ + 22 ≤ 4096
    omega
theorem one_body (x : Nat) : endP ((⟨#[97, 123]⟩ ++ numS x) ++ ⟨#[125]⟩) ⟨#[117]⟩ = (0, 0) := by
  refine times_one x _ ?_ ?_
  · rw [ba_data, ba_data, numS_data]
    show (([97, 123] ++ decF 9 x) ++ [125] : List UInt8) = _
    simp only [List.cons_append, List.nil_append]
  · have h2 := numS_size x
    rw [ByteArray.size_append, ByteArray.size_append]
    show 2 + _ + 1 ≤ 4096
    omega
theorem more_body (x : Nat) : endP ((⟨#[97, 123]⟩ ++ numS x) ++ ⟨#[44, 125]⟩) ⟨#[]⟩ = (0, 0) := by
  refine times_more x _ ?_ ?_
  · rw [ba_data, ba_data, numS_data]
    show (([97, 123] ++ decF 9 x) ++ [44, 125] : List UInt8) = _
    simp only [List.cons_append, List.nil_append]
  · have h2 := numS_size x
    rw [ByteArray.size_append, ByteArray.size_append]
    show 2 + _ + 2 ≤ 4096
    omega

set_option maxHeartbeats 4000000 in
set_option maxRecDepth 20000 in
theorem law_times (a b n : Int) (w : World) (ht : Tabs w.heap.size w) :
    Calls Tryz.prog 8 #[.int .i64 a, .int .i64 b, .int .i64 n] w fun e w' => e = .returned (.bool true) ∧ Below w.heap.size w w' := by
  have HT := Lib.hid ht; clear ht
  have ha := i64_mask a 16 65535 rfl (by decide)
  have hb := i64_mask b 16 65535 rfl (by decide)
  have hn := i64_mask n 3 7 rfl (by decide)
  obtain ⟨x, hx, ei⟩ : ∃ i : Nat, i < 65536 ∧ a % ((2 ^ 16 : Nat) : Int) = i := ⟨(a % 65536).toNat, by omega, by omega⟩
  obtain ⟨y, hy, ej⟩ : ∃ j : Nat, j < 65536 ∧ b % ((2 ^ 16 : Nat) : Int) = j := ⟨(b % 65536).toNat, by omega, by omega⟩
  obtain ⟨k, hk, ek⟩ : ∃ j : Nat, j < 8 ∧ n % ((2 ^ 3 : Nat) : Int) = j := ⟨(n % 8).toNat, by omega, by omega⟩
  rw [ei] at ha; rw [ej] at hb; rw [ek] at hn
  have ha' : bits .and .i64 a 65535 = (x : Int) := ha
  have hb' : bits .and .i64 b 65535 = (y : Int) := hb
  have hn' : bits .and .i64 n 7 = (k : Int) := hn
  have HE := Lib.hid (times_body k x y hk (by omega) (by omega))
  have HO := Lib.hid (one_body x)
  have HM := Lib.hid (more_body x)
  have Hnx := Lib.hid (fun w => numeral_any x (by omega) w)
  have Hny := Lib.hid (fun w => numeral_any y (by omega) w)
  have sx := numS_size x
  have sy := numS_size y
  have sk := noughts_size k
  have Hno : Hid ((⟨#[48, 48, 48, 48, 48, 48, 48]⟩ : ByteArray).extract 0 k = noughts k) := Lib.hid rfl
  clear ei ej ek ha hb hn
  go_enter Tryz.func8, Tryz.ntmps8
  go_wp2_with fail
  refine (awake_any _ HT.out).mono ?_
  rintro e w1 ⟨rfl, hb1⟩
  have HT1 := Lib.hid (HT.out.below hb1)
  go_wp2_with fail
  refine (Hnx.out _).mono ?_
  rintro e w2 ⟨rfl, hb2⟩
  have HT2 := Lib.hid (HT1.out.below hb2)
  go_wp2_with fail
  refine (Hny.out _).mono ?_
  rintro e w3 ⟨rfl, hb3⟩
  have HT3 := Lib.hid (HT2.out.below hb3)
  have HB3 := Lib.hid (hb1.trans ((hb2.trans (hb3.mono hb2.size)).mono hb1.size))
  clear hb1 hb2 hb3
  generalize numS x = X at *
  generalize numS y = Y at *
  go_upto_region 5 with fail
  rw [Hno.out]
  generalize noughts k = Z at *
  clear Hno
  go_wp2_with fail
  by_cases hxy : x ≤ y
  · have hle : (x : Int) ≤ (y : Int) := by omega
    refine (check_is _ _ 0 0 (by rw [HE.out, if_pos hxy]) (by decide) _ HT3.out).mono ?_
    rintro e w4 ⟨rfl, hb4⟩
    have HT4 := Lib.hid (HT3.out.below hb4)
    have HB4 := Lib.hid (HB3.out.trans (hb4.mono HB3.out.size))
    clear hb4
    go_wp2_with fail
    refine (check_is _ _ 0 0 HO.out (by decide) _ HT4.out).mono ?_
    rintro e w5 ⟨rfl, hb5⟩
    have HT5 := Lib.hid (HT4.out.below hb5)
    have HB5 := Lib.hid (HB4.out.trans (hb5.mono HB4.out.size))
    clear hb5
    go_wp2_with fail
    refine (check_is _ _ 0 0 HM.out (by decide) _ HT5.out).mono ?_
    rintro e w6 ⟨rfl, hb6⟩
    have HB6 := Lib.hid (HB5.out.trans (hb6.mono HB5.out.size))
    clear hb6
    go_wp2_with fail
    refine (num_any _ _).mono ?_
    rintro e w7 ⟨rfl, rfl⟩
    go_wp2_with fail
    refine (num_any _ _).mono ?_
    rintro e w7 ⟨rfl, rfl⟩
    go_wp2_with fail
    refine (num_any _ _).mono ?_
    rintro e w7 ⟨rfl, rfl⟩
    go_wp2_with fail
    go_ret
    exact ⟨rfl, HB6.out⟩
  · have hle : ¬ (x : Int) ≤ (y : Int) := by omega
    refine (check_is _ _ 1 403 (by rw [HE.out, if_neg hxy]) (by decide) _ HT3.out).mono ?_
    rintro e w4 ⟨rfl, hb4⟩
    have HT4 := Lib.hid (HT3.out.below hb4)
    have HB4 := Lib.hid (HB3.out.trans (hb4.mono HB3.out.size))
    clear hb4
    go_wp2_with fail
    refine (check_is _ _ 0 0 HO.out (by decide) _ HT4.out).mono ?_
    rintro e w5 ⟨rfl, hb5⟩
    have HT5 := Lib.hid (HT4.out.below hb5)
    have HB5 := Lib.hid (HB4.out.trans (hb5.mono HB4.out.size))
    clear hb5
    go_wp2_with fail
    refine (check_is _ _ 0 0 HM.out (by decide) _ HT5.out).mono ?_
    rintro e w6 ⟨rfl, hb6⟩
    have HB6 := Lib.hid (HB5.out.trans (hb6.mono HB5.out.size))
    clear hb6
    go_wp2_with fail
    refine (num_any _ _).mono ?_
    rintro e w7 ⟨rfl, rfl⟩
    go_wp2_with fail
    refine (num_any _ _).mono ?_
    rintro e w7 ⟨rfl, rfl⟩
    go_wp2_with fail
    refine (num_any _ _).mono ?_
    rintro e w7 ⟨rfl, rfl⟩
    go_wp2_with fail
    go_ret
    exact ⟨rfl, HB6.out⟩

end Reg
end Go.Proofs.YtjoohpdohdehgaaGreatDoor
