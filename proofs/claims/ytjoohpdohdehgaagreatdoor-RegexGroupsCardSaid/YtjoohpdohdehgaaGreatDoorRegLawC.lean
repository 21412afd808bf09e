/-
  The law on groups.
-/
import Derived.Test.YtjoohpdohdehgaaGreatDoorRegLawA
import Derived.Test.YtjoohpdohdehgaaGreatDoorRegNumS
namespace Go.Proofs.YtjoohpdohdehgaaGreatDoor
namespace Reg
open Go.RowKit

/-- A number asked, and so many groups. -/
def gStr (m : Nat) : Nat → ByteArray
  | 0 => ⟨#[92]⟩ ++ numS m
  | k + 1 => gStr m k ++ ⟨#[40, 97, 41]⟩
theorem groups_all : ∀ k m : Fin 32, endP (gStr (m.1 + 1) k.1) ⟨#[]⟩ = if m.1 + 1 ≤ k.1 then (0, 0) else (0, 402) := by decide +kernel
theorem gStr_size (m : Nat) : ∀ k, (gStr m k).size = 1 + (numS m).size + 3 * k
  | 0 => by rw [gStr, ByteArray.size_append]; rfl
  | k + 1 => by rw [gStr, ByteArray.size_append, gStr_size m k]; show _ + 3 = _; omega
theorem num_size (m : Nat) (h : m ≤ 32) : (numS m).size ≤ 2 := by
  have : ∀ m : Fin 33, (numS m.1).size ≤ 2 := by decide +kernel
  exact this ⟨m, by omega⟩

set_option maxHeartbeats 2000000 in
set_option maxRecDepth 20000 in
theorem law_groups (a b : Int) (w : World) (ht : Tabs w.heap.size w) :
    Calls Tryz.prog 5 #[.int .i64 a, .int .i64 b] w fun e w' => e = .returned (.bool true) ∧ Below w.heap.size w w' := by
  have HT := Lib.hid ht; clear ht
  have ha := i64_mask a 5 31 rfl (by decide)
  have hb := i64_mask b 5 31 rfl (by decide)
  obtain ⟨n, hn, ei⟩ : ∃ i : Nat, i < 32 ∧ a % ((2 ^ 5 : Nat) : Int) = i := ⟨(a % 32).toNat, by omega, by omega⟩
  obtain ⟨m, hm, ej⟩ : ∃ j : Nat, j < 32 ∧ b % ((2 ^ 5 : Nat) : Int) = j := ⟨(b % 32).toNat, by omega, by omega⟩
  rw [ei] at ha; rw [ej] at hb
  have ha' : bits .and .i64 a 31 = (n : Int) := ha
  have hb' : bits .and .i64 b 31 = (m : Int) := hb
  have HE := Lib.hid (groups_all ⟨n, hn⟩ ⟨m, hm⟩)
  have HD : Hid (∀ w, Calls Tryz.prog 15 #[.int .i64 (1 + (m : Int))] w fun e w' => e = .returned (.string (numS (m + 1))) ∧ Below w.heap.size w w') := Lib.hid (fun w => by
    rw [show (1 + (m : Int)) = ((m + 1 : Nat) : Int) from by omega]
    exact numeral_any (m + 1) (by omega) w)
  have hsz := num_size (m + 1) (by omega)
  have Hg0 : Hid (⟨#[92]⟩ ++ numS (m + 1) = gStr (m + 1) 0) := Lib.hid rfl
  have Hgs : Hid (∀ k, (gStr (m + 1) k).size ≤ 3 + 3 * k) := Lib.hid (fun k => by rw [gStr_size]; omega)
  clear ei ej ha hb
  go_enter Tryz.func5, Tryz.ntmps5
  go_wp2_with fail
  refine (awake_any _ HT.out).mono ?_
  rintro e w1 ⟨rfl, hb1⟩
  have HT1 := Lib.hid (HT.out.below hb1)
  go_wp2_with fail
  refine (HD.out _).mono ?_
  rintro e w2 ⟨rfl, hb2⟩
  have HT2 := Lib.hid (HT1.out.below hb2)
  go_wp2_with fail
  rw [Hg0.out]
  go_loopg [7, 8] n (fun r s i wr => ∃ k : Nat, r + k = n ∧ i = .int .i64 (k : Int) ∧ s = .string (gStr (m + 1) k) ∧ w2 = wr)
  case atStart => exact ⟨0, by omega, rfl, rfl, rfl⟩
  case round =>
    obtain ⟨k, hk, rfl, rfl, rfl⟩ := hrel
    have HK := Lib.hid hk; clear hk
    have hgk := Hgs.out k
    by_cases hlt : k < n
    · have Hs : Hid (gStr (m + 1) k ++ ⟨#[40, 97, 41]⟩ = gStr (m + 1) (k + 1)) := Lib.hid rfl
      go_wp2_with fail
      rw [Hs.out]
      go_roundg (n - (k + 1))
      case measure => have := HK.out; omega
      case rel => exact ⟨k + 1, by omega, by push_cast; rfl, rfl, rfl⟩
    · have hkn : k = n := by have := HK.out; omega
      have HE2 : Hid (endP (gStr (m + 1) k) ⟨#[]⟩ = if m + 1 ≤ n then (0, 0) else (0, 402)) := Lib.hid (by rw [hkn]; exact HE.out)
      have hle : ¬ (k : Int) < n := by omega
      clear hkn
      by_cases hmn : m + 1 ≤ n
      · go_wp2_with fail
        refine (check_is _ _ 0 0 (by rw [HE2.out, if_pos hmn]) (by decide) _ HT2.out).mono ?_
        rintro e w5 ⟨rfl, hb5⟩
        go_wp2_with fail
        refine (num_any _ _).mono ?_
        rintro e w6 ⟨rfl, rfl⟩
        go_wp2_with fail
        go_ret
        exact ⟨rfl, hb1.trans ((hb2.trans (hb5.mono hb2.size)).mono hb1.size)⟩
      · go_wp2_with fail
        refine (check_is _ _ 0 402 (by rw [HE2.out, if_neg hmn]) (by decide) _ HT2.out).mono ?_
        rintro e w5 ⟨rfl, hb5⟩
        go_wp2_with fail
        refine (num_any _ _).mono ?_
        rintro e w6 ⟨rfl, rfl⟩
        go_wp2_with fail
        go_ret
        exact ⟨rfl, hb1.trans ((hb2.trans (hb5.mono hb2.size)).mono hb1.size)⟩

end Reg
end Go.Proofs.YtjoohpdohdehgaaGreatDoor
