/-
  The law on flags.
-/
import Derived.Test.YtjoohpdohdehgaaGreatDoorRegBits
import Derived.Laws.IdiomStrings
import Derived.Laws.BytesArg
namespace Go.Proofs.YtjoohpdohdehgaaGreatDoor
namespace Reg
open Go.RowKit

theorem one_flag : runP false ⟨#[97]⟩ = (0, 0) ∧ runP true ⟨#[97]⟩ = (0, 0) := by decide +kernel
theorem end_a (flags : ByteArray) : endP ⟨#[97]⟩ flags = if goodB [] flags.data.toList = true then (0, 0) else (0, 401) := by
  rw [end_flags]
  by_cases e : goodB [] flags.data.toList = true
  · rw [if_pos e, if_pos e, if_neg (by decide)]
    cases (maskL flags.data.toList &&& 32 != 0)
    · exact one_flag.1
    · exact one_flag.2
  · rw [if_neg e, if_neg e]

theorem byte_made (w : World) (c : UInt8) :
    (convert 38 9 (.slice (some ⟨w.heap.size, 0, none⟩) 1 1)).run Tryz.prog (w.alloc (.cells #[.int .u8 (c.toNat : Int)] 5)) = .ok (.string ⟨#[c]⟩) (w.alloc (.cells #[.int .u8 (c.toNat : Int)] 5)) := by
  have := run_convert_bytes_back (P := Tryz.prog) (w.alloc (.cells #[.int .u8 (c.toNat : Int)] 5)) 38 9 5 ⟨w.heap.size, 0, none⟩ 1 [c] Tryz.underlying38 Tryz.underlying5 Tryz.underlying9 (fun j hj => by
    rw [show (⟨w.heap.size, 0, none⟩ : Addr).add j = ⟨w.heap.size, j, none⟩ from by simp [Addr.add]; omega, World.cell?_alloc_at _ _ _ _ rfl]
    match j, hj with
    | 0, _ => rfl)
  exact this

theorem let_flag : ∀ (r : Nat) (h : r < 8), flagsL.elem ((⟨#[100, 103, 105, 109, 115, 117, 121, 118]⟩ : ByteArray)[r]'h) = ((((⟨#[100, 103, 105, 109, 115, 117, 121, 118]⟩ : ByteArray)[r]'h).toNat : Int) != 118) := by
  intro r h
  have hr : r = 0 ∨ r = 1 ∨ r = 2 ∨ r = 3 ∨ r = 4 ∨ r = 5 ∨ r = 6 ∨ r = 7 := by omega
  rcases hr with rfl | rfl | rfl | rfl | rfl | rfl | rfl | rfl <;> rfl

/-- Is all well, when so many letters have been compared? -/
def wellB (g : Bool) (c : UInt8) (L : List UInt8) (j : Nat) : Bool := g && flagsL.elem c && !(L.take j).elem c
theorem well_start (g : Bool) (c : UInt8) (L : List UInt8) : wellB g c L 0 = (g && flagsL.elem c) := by simp [wellB]
theorem elem_snoc (A : List UInt8) (y c : UInt8) : (A ++ [y]).elem c = (A.elem c || (c == y)) := by rw [Bool.eq_iff_iff]; simp
theorem well_step (g : Bool) (c : UInt8) (L : List UInt8) (j : Nat) (h : j < L.length) : wellB g c L (j + 1) = (wellB g c L j && ((L[j].toNat : Int) != (c.toNat : Int))) := by
  have e : ((L[j].toNat : Int) != (c.toNat : Int)) = !(c == L[j]) := by
    rw [bne, Bool.not_inj_iff, Bool.eq_iff_iff, beq_iff_eq, beq_iff_eq, ← UInt8.toNat_inj]; omega
  rw [e, wellB, wellB, List.take_succ_eq_append_getElem h, elem_snoc, Bool.not_or, Bool.and_assoc, Bool.and_assoc, Bool.and_assoc]
theorem well_end (g : Bool) (c : UInt8) (L : List UInt8) (hg : goodB [] L = g) : wellB g c L L.length = goodB [] (L ++ [c]) := by
  rw [good_snoc, hg, wellB, List.take_length]; rfl

set_option maxHeartbeats 4000000 in
set_option maxRecDepth 20000 in
theorem law_flags (a0 : Option Addr) (len0 cap0 : Nat) (w : World) (hp : ∀ k, k < len0 → ∃ x z, a0 = some x ∧ w.cell? (x.add k) = some (.int .i64 z) ∧ x.block < w.heap.size) (ht : Tabs w.heap.size w) :
    Calls Tryz.prog 9 #[.slice a0 len0 cap0] w fun e w' => e = .returned (.bool true) ∧ Below w.heap.size w w' := by
  have HT := Lib.hid ht
  have HP := Lib.hid hp
  clear ht hp
  go_enter Tryz.func9, Tryz.ntmps9
  go_wp2_with fail
  refine (awake_any w HT.out).mono ?_
  rintro e w0 ⟨rfl, hb0⟩
  have HB0 := Lib.hid hb0
  clear hb0
  go_wp2_with fail
  go_loopg [3, 4, 5] 9 (fun m s f i wr => ∃ (k : Nat) (S : ByteArray), m + k = 9 ∧ k ≤ len0 ∧ s = .string S ∧ f = .bool (goodB [] S.data.toList) ∧ i = .int .i64 (k : Int) ∧ S.size = k ∧ Below w.heap.size w wr)
  case atStart => exact ⟨0, ⟨#[]⟩, by omega, by omega, rfl, rfl, rfl, rfl, HB0.out⟩
  case round =>
    obtain ⟨k, S, hk, hkl, rfl, rfl, rfl, hS, hbel⟩ := hrel
    have HB := Lib.hid hbel
    have HS := Lib.hid hS
    have HK := Lib.hid hk
    have hSl : S.size ≤ 9 := by omega
    clear hbel hk
    by_cases hlt : k < len0
    · by_cases h9 : k < 9
      · obtain ⟨x, z, rfl, hcell, hx⟩ := HP.out k hlt
        have hcell' : wr.cell? (x.add k) = some (.int .i64 z) := by rw [HB.out.cell (p := x.add k) (by unfold Addr.add; split <;> exact hx)]; exact hcell
        obtain ⟨r, hr8, hr⟩ : ∃ r : Nat, r < 8 ∧ (IntKind.u64.wrap z).tmod 8 = (r : Int) := by
          have h0 : 0 ≤ IntKind.u64.wrap z := by rw [IntKind.wrap_u64]; omega
          refine ⟨((IntKind.u64.wrap z).tmod 8).toNat, ?_, ?_⟩
          · rw [Int.tmod_eq_emod_of_nonneg h0]; omega
          · rw [Int.tmod_eq_emod_of_nonneg h0]; omega
        have HL := let_flag r hr8
        clear hS hcell hx
        generalize hg : goodB [] S.data.toList = g at *
        have HG := Lib.hid hg
        clear hg
        have Hcv := Lib.hid (byte_made wr)
        have hSL : S.data.toList.length = S.size := rfl
        have HSL := Lib.hid hSL
        clear hSL
        cases g with
        | false =>
          go_wp2_with fail
          generalize (⟨#[100, 103, 105, 109, 115, 117, 121, 118]⟩ : ByteArray)[r]'hr8 = c at HL ⊢
          have H0 : Hid (wellB false c S.data.toList 0 = false) := Lib.hid (by rw [well_start]; rfl)
          have Hend := Lib.hid (well_end false c S.data.toList HG.out)
          have Hstep := Lib.hid (well_step false c S.data.toList)
          generalize hW : wellB false c S.data.toList = W at H0 Hend Hstep
          clear hW HL
          go_loopg [4, 7] S.size (fun m f jv wr2 => ∃ j : Nat, m + j = S.size ∧ f = .bool (W j) ∧ jv = .int .i64 (j : Int) ∧ wr = wr2)
          case atStart => exact ⟨0, by omega, by rw [H0.out], rfl, rfl⟩
          case round =>
            obtain ⟨j, hj, rfl, rfl, rfl⟩ := hrel
            have HJ := Lib.hid hj; clear hj
            by_cases hjl : j < S.size
            · have Hs1 : Hid (W (j + 1) = (W j && (((S[j]'hjl).toNat : Int) != (c.toNat : Int)))) := Lib.hid (by
                have := Hstep.out j hjl
                rw [this]; rfl)
              cases hW : W j with
              | false =>
                have Hs2 : Hid (W (j + 1) = false) := Lib.hid (by rw [Hs1.out, hW]; rfl)
                clear hW
                go_wp2_with fail
                go_roundg (S.size - (j + 1))
                case measure => have := HJ.out; omega
                case rel => exact ⟨j + 1, by omega, by rw [Hs2.out], by push_cast; rfl, rfl⟩
              | true =>
                have Hs2 : Hid (W (j + 1) = (((S[j]'hjl).toNat : Int) != (c.toNat : Int))) := Lib.hid (by rw [Hs1.out, hW]; rfl)
                clear hW
                go_wp2_with fail
                go_roundg (S.size - (j + 1))
                case measure => have := HJ.out; omega
                case rel => exact ⟨j + 1, by omega, by rw [Hs2.out], by push_cast; rfl, rfl⟩
            · have HWe : Hid (W j = goodB [] (S ++ ⟨#[c]⟩ : ByteArray).data.toList) := Lib.hid (by
                have e : j = S.data.toList.length := by have := HJ.out; rw [HSL.out]; omega
                rw [e, Hend.out]; simp [ByteArray.data_append])
              have hcv := Hcv.out c
              obtain ⟨w2, hw2⟩ : ∃ w2, wr.alloc (.cells #[.int .u8 (c.toNat : Int)] 5) = w2 := ⟨_, rfl⟩
              have HB2 : Hid (Below wr.heap.size wr w2) := Lib.hid (by rw [← hw2]; exact (Below.refl _ _).alloc (Nat.le_refl _) _)
              rw [hw2] at hcv
              generalize W j = f at *
              go_wp2_with fail
              go_roundg (9 - (k + 1))
              case measure => have := HK.out; omega
              case rel => exact ⟨k + 1, _, by omega, by omega, rfl, by rw [HWe.out], by push_cast; rfl, by rw [ByteArray.size_append, HS.out]; rfl, HB.out.trans (HB2.out.mono HB.out.size)⟩
        | true =>
          go_wp2_with fail
          generalize (⟨#[100, 103, 105, 109, 115, 117, 121, 118]⟩ : ByteArray)[r]'hr8 = c at HL ⊢
          have H0 : Hid (wellB true c S.data.toList 0 = ((c.toNat : Int) != 118)) := Lib.hid (by rw [well_start]; rw [HL]; rfl)
          have Hend := Lib.hid (well_end true c S.data.toList HG.out)
          have Hstep := Lib.hid (well_step true c S.data.toList)
          generalize hW : wellB true c S.data.toList = W at H0 Hend Hstep
          clear hW HL
          go_loopg [4, 7] S.size (fun m f jv wr2 => ∃ j : Nat, m + j = S.size ∧ f = .bool (W j) ∧ jv = .int .i64 (j : Int) ∧ wr = wr2)
          case atStart => exact ⟨0, by omega, by rw [H0.out], rfl, rfl⟩
          case round =>
            obtain ⟨j, hj, rfl, rfl, rfl⟩ := hrel
            have HJ := Lib.hid hj; clear hj
            by_cases hjl : j < S.size
            · have Hs1 : Hid (W (j + 1) = (W j && (((S[j]'hjl).toNat : Int) != (c.toNat : Int)))) := Lib.hid (by
                have := Hstep.out j hjl
                rw [this]; rfl)
              cases hW : W j with
              | false =>
                have Hs2 : Hid (W (j + 1) = false) := Lib.hid (by rw [Hs1.out, hW]; rfl)
                clear hW
                go_wp2_with fail
                go_roundg (S.size - (j + 1))
                case measure => have := HJ.out; omega
                case rel => exact ⟨j + 1, by omega, by rw [Hs2.out], by push_cast; rfl, rfl⟩
              | true =>
                have Hs2 : Hid (W (j + 1) = (((S[j]'hjl).toNat : Int) != (c.toNat : Int))) := Lib.hid (by rw [Hs1.out, hW]; rfl)
                clear hW
                go_wp2_with fail
                go_roundg (S.size - (j + 1))
                case measure => have := HJ.out; omega
                case rel => exact ⟨j + 1, by omega, by rw [Hs2.out], by push_cast; rfl, rfl⟩
            · have HWe : Hid (W j = goodB [] (S ++ ⟨#[c]⟩ : ByteArray).data.toList) := Lib.hid (by
                have e : j = S.data.toList.length := by have := HJ.out; rw [HSL.out]; omega
                rw [e, Hend.out]; simp [ByteArray.data_append])
              have hcv := Hcv.out c
              obtain ⟨w2, hw2⟩ : ∃ w2, wr.alloc (.cells #[.int .u8 (c.toNat : Int)] 5) = w2 := ⟨_, rfl⟩
              have HB2 : Hid (Below wr.heap.size wr w2) := Lib.hid (by rw [← hw2]; exact (Below.refl _ _).alloc (Nat.le_refl _) _)
              rw [hw2] at hcv
              generalize W j = f at *
              go_wp2_with fail
              go_roundg (9 - (k + 1))
              case measure => have := HK.out; omega
              case rel => exact ⟨k + 1, _, by omega, by omega, rfl, by rw [HWe.out], by push_cast; rfl, by rw [ByteArray.size_append, HS.out]; rfl, HB.out.trans (HB2.out.mono HB.out.size)⟩
      · go_wp2_with fail
        by_cases hg : goodB [] S.data.toList = true
        · have HE : Hid (endP ⟨#[97]⟩ S = (0, 0)) := Lib.hid (by rw [end_a, if_pos hg])
          rw [hg]
          clear hg
          refine (check_is _ _ 0 0 HE.out (by unfold maxLen; omega) _ (HT.out.below HB.out)).mono ?_
          rintro e w5 ⟨rfl, hb5⟩
          go_wp2_with fail
          refine (num_any _ _).mono ?_
          rintro e w6 ⟨rfl, rfl⟩
          go_wp2_with fail
          go_ret
          exact ⟨rfl, HB.out.trans (hb5.mono HB.out.size)⟩
        · have HE : Hid (endP ⟨#[97]⟩ S = (0, 401)) := Lib.hid (by rw [end_a, if_neg hg])
          rw [Bool.eq_false_iff.2 hg]
          clear hg
          refine (check_is _ _ 0 401 HE.out (by unfold maxLen; omega) _ (HT.out.below HB.out)).mono ?_
          rintro e w5 ⟨rfl, hb5⟩
          go_wp2_with fail
          refine (num_any _ _).mono ?_
          rintro e w6 ⟨rfl, rfl⟩
          go_wp2_with fail
          refine (num_any _ _).mono ?_
          rintro e w7 ⟨rfl, rfl⟩
          go_wp2_with fail
          go_ret
          exact ⟨rfl, HB.out.trans (hb5.mono HB.out.size)⟩
    · go_wp2_with fail
      by_cases hg : goodB [] S.data.toList = true
      · have HE : Hid (endP ⟨#[97]⟩ S = (0, 0)) := Lib.hid (by rw [end_a, if_pos hg])
        rw [hg]
        clear hg
        refine (check_is _ _ 0 0 HE.out (by unfold maxLen; omega) _ (HT.out.below HB.out)).mono ?_
        rintro e w5 ⟨rfl, hb5⟩
        go_wp2_with fail
        refine (num_any _ _).mono ?_
        rintro e w6 ⟨rfl, rfl⟩
        go_wp2_with fail
        go_ret
        exact ⟨rfl, HB.out.trans (hb5.mono HB.out.size)⟩
      · have HE : Hid (endP ⟨#[97]⟩ S = (0, 401)) := Lib.hid (by rw [end_a, if_neg hg])
        rw [Bool.eq_false_iff.2 hg]
        clear hg
        refine (check_is _ _ 0 401 HE.out (by unfold maxLen; omega) _ (HT.out.below HB.out)).mono ?_
        rintro e w5 ⟨rfl, hb5⟩
        go_wp2_with fail
        refine (num_any _ _).mono ?_
        rintro e w6 ⟨rfl, rfl⟩
        go_wp2_with fail
        refine (num_any _ _).mono ?_
        rintro e w7 ⟨rfl, rfl⟩
        go_wp2_with fail
        go_ret
        exact ⟨rfl, HB.out.trans (hb5.mono HB.out.size)⟩

theorem picks_of {w : World} {a : Option Addr} {len cap : Nat} {zs : List Int} (h : (a = none ∧ len = 0 ∧ cap = 0 ∧ zs = []) ∨
    ∃ x, a = some x ∧ len ≤ cap ∧ cap ≤ maxLen ∧ zs.length = cap ∧ (∀ i, i < zs.length → w.cell? (x.add i) = some (.int .i64 (zs.getD i 0))) ∧ ∀ n ∈ zs, (Lit.int .i64 n).wf = true) :
    ∀ k, k < len → ∃ x z, a = some x ∧ w.cell? (x.add k) = some (.int .i64 z) ∧ x.block < w.heap.size := by
  intro k hk
  rcases h with ⟨_, h, _⟩ | ⟨x, ha, hl, _, hz, hc, _⟩
  · omega
  · have h1 := hc k (by omega)
    have h2 := World.block_lt_of_cell? w _ h1
    refine ⟨x, _, ha, h1, ?_⟩
    unfold Addr.add at h2
    split at h2 <;> exact h2

end Reg
end Go.Proofs.YtjoohpdohdehgaaGreatDoor
