/-
  The law on ranges.
-/
import Derived.Test.YtjoohpdohdehgaaGreatDoorRegAwake
import Derived.Test.YtjoohpdohdehgaaGreatDoorUniBits
import Derived.Laws.Cover4
namespace Go.Proofs.YtjoohpdohdehgaaGreatDoor
namespace Reg
open Go.RowKit

theorem i64_mask (a : Int) (k m : Nat) (hm : m = 2 ^ k - 1) (hk : k < 63) : bits .and .i64 a (m : Int) = a % ((2 ^ k : Nat) : Int) := by
  have hp : 2 ^ k ≤ 2 ^ 62 := Nat.pow_le_pow_right (by decide) (by omega)
  have hp2 : (2 : Nat) ^ 62 < 2 ^ 63 := by decide
  have hm63 : m < 9223372036854775808 := by omega
  show IntKind.i64.wrap ((BitVec.ofInt 64 a &&& BitVec.ofInt 64 (m : Int)).toNat : Int) = _
  rw [BitVec.toNat_and, Uni.ofInt_i64 m hm63, hm, Nat.and_two_pow_sub_one_eq_mod, IntKind.wrap_i64, BitVec.toNat_ofInt]
  have h1 : (((a % ((2 : Nat) ^ 64 : Nat)).toNat % 2 ^ k : Nat) : Int) = a % ((2 ^ k : Nat) : Int) := by
    rw [Int.natCast_emod, Int.toNat_of_nonneg (Int.emod_nonneg _ (by decide))]
    exact Int.emod_emod_of_dvd a (by
      have : (2 : Nat) ^ k ∣ 2 ^ 64 := Nat.pow_dvd_pow 2 (by omega)
      exact Int.natCast_dvd_natCast.2 this)
  rw [h1]
  have h2 : 0 ≤ a % ((2 ^ k : Nat) : Int) := Int.emod_nonneg _ (by have := Nat.pow_pos (n := k) (show 0 < 2 by decide); omega)
  have h3 : a % ((2 ^ k : Nat) : Int) < ((2 ^ k : Nat) : Int) := Int.emod_lt_of_pos _ (by have := Nat.pow_pos (n := k) (show 0 < 2 by decide); omega)
  omega

theorem ranges_all : ∀ i j : Fin 16, endP ((⟨#[120, 91]⟩ ++ runesBytes [97 + (i.1 : Int), 45, 97 + (j.1 : Int)]) ++ ⟨#[93]⟩) ⟨#[]⟩ = if i.1 ≤ j.1 then (0, 0) else (2, 403) := by decide +kernel

theorem runes_made (w : World) (x y : Int) :
    (convert 34 9 (.slice (some ⟨w.heap.size, 0, none⟩) 3 3)).run Tryz.prog (w.alloc (.cells #[.int .i32 x, .int .i32 45, .int .i32 y] 21)) = .ok (.string (runesBytes [x, 45, y])) (w.alloc (.cells #[.int .i32 x, .int .i32 45, .int .i32 y] 21)) := by
  have := run_convert_runes (P := Tryz.prog) (w.alloc (.cells #[.int .i32 x, .int .i32 45, .int .i32 y] 21)) 34 9 21 ⟨w.heap.size, 0, none⟩ 3 3 [x, 45, y] (by simp) Tryz.underlying34 Tryz.underlying21 Tryz.underlying9 (fun j hj => by
    rw [show (⟨w.heap.size, 0, none⟩ : Addr).add j = ⟨w.heap.size, j, none⟩ from by simp [Addr.add]; omega, World.cell?_alloc_at _ _ _ _ rfl]
    match j, hj with
    | 0, _ => rfl
    | 1, _ => rfl
    | 2, _ => rfl)
  exact this

set_option maxHeartbeats 2000000 in
set_option maxRecDepth 20000 in
theorem law_ranges (a b : Int) (w : World) (ht : Tabs w.heap.size w) :
    Calls Tryz.prog 6 #[.int .i64 a, .int .i64 b] w fun e w' => e = .returned (.bool true) ∧ Below w.heap.size w w' := by
  have HT := Lib.hid ht; clear ht
  have ha := i64_mask a 4 15 rfl (by decide)
  have hb := i64_mask b 4 15 rfl (by decide)
  obtain ⟨i, hi, ei⟩ : ∃ i : Nat, i < 16 ∧ a % ((2 ^ 4 : Nat) : Int) = i := ⟨(a % 16).toNat, by omega, by omega⟩
  obtain ⟨j, hj, ej⟩ : ∃ j : Nat, j < 16 ∧ b % ((2 ^ 4 : Nat) : Int) = j := ⟨(b % 16).toNat, by omega, by omega⟩
  rw [ei] at ha; rw [ej] at hb
  have ha' : bits .and .i64 a 15 = (i : Int) := ha
  have hb' : bits .and .i64 b 15 = (j : Int) := hb
  have HE := Lib.hid (ranges_all ⟨i, hi⟩ ⟨j, hj⟩)
  have Hcv := Lib.hid runes_made
  clear ei ej ha hb
  go_enter Tryz.func6, Tryz.ntmps6
  go_wp2_with fail
  refine (awake_any _ HT.out).mono ?_
  rintro e w1 ⟨rfl, hb1⟩
  have HT1 := Lib.hid (HT.out.below hb1)
  go_wp2_with fail
  have hcv := Hcv.out w1 (97 + (i : Int)) (97 + (j : Int))
  obtain ⟨w2, hw2⟩ : ∃ w2, w1.alloc (.cells #[.int .i32 (97 + (i : Int)), .int .i32 45, .int .i32 (97 + (j : Int))] 21) = w2 := ⟨_, rfl⟩
  have hb2 : Below w1.heap.size w1 w2 := by rw [← hw2]; exact (Below.refl _ _).alloc (Nat.le_refl _) _
  have HT2 := Lib.hid (HT1.out.below hb2)
  rw [hw2] at hcv ⊢
  clear hw2 Hcv
  have hRs : (runesBytes [97 + (i : Int), 45, 97 + (j : Int)]).size ≤ 12 := by have := runesBytes_size_le [97 + (i : Int), 45, 97 + (j : Int)]; simpa using this
  generalize runesBytes [97 + (i : Int), 45, 97 + (j : Int)] = R at *
  go_wp2_with fail
  rw [hcv]
  go_wp2_with fail
  by_cases hij : i ≤ j
  · refine (check_is _ _ 0 0 (by rw [HE.out, if_pos hij]) (by decide) _ HT2.out).mono ?_
    rintro e w3 ⟨rfl, hb3⟩
    go_wp2_with fail
    refine (num_any _ _).mono ?_
    rintro e w4 ⟨rfl, rfl⟩
    go_wp2_with fail
    go_ret
    exact ⟨rfl, hb1.trans ((hb2.trans (hb3.mono hb2.size)).mono hb1.size)⟩
  · refine (check_is _ _ 2 403 (by rw [HE.out, if_neg hij]) (by decide) _ HT2.out).mono ?_
    rintro e w3 ⟨rfl, hb3⟩
    go_wp2_with fail
    refine (num_any _ _).mono ?_
    rintro e w4 ⟨rfl, rfl⟩
    go_wp2_with fail
    go_ret
    exact ⟨rfl, hb1.trans ((hb2.trans (hb3.mono hb2.size)).mono hb1.size)⟩

end Reg
end Go.Proofs.YtjoohpdohdehgaaGreatDoor
