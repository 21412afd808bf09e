/-
  The law on what is joined.
-/
import Derived.Test.YtjoohpdohdehgaaGreatDoorRegJoint
namespace Go.Proofs.YtjoohpdohdehgaaGreatDoor
namespace Reg
open Go.RowKit

/-- The byte at a place, and the one behind it. -/
theorem plain_at (s : ByteArray) (i : Nat) (h : i + 1 < s.size) : plainL (s.data.toList.drop i) = (!oddB (s[i]'(by omega)) (s[i + 1]'h) && plainL (s.data.toList.drop (i + 1))) := by
  have h1 : i < s.data.toList.length := by show i < s.size; omega
  have h2 : i + 1 < s.data.toList.length := h
  have e1 : s.data.toList[i] = s[i]'(by omega) := by simp [ByteArray.getElem_eq_getElem_data]
  have e2 : s.data.toList[i + 1] = s[i + 1]'h := by simp [ByteArray.getElem_eq_getElem_data]
  rw [List.drop_eq_getElem_cons h1, List.drop_eq_getElem_cons h2, plainL, e1, e2]
theorem plain_end (s : ByteArray) (i : Nat) (h : ¬ i + 1 < s.size) : plainL (s.data.toList.drop i) = true := by
  have hl : (s.data.toList.drop i).length ≤ 1 := by
    rw [List.length_drop]
    have : s.data.toList.length = s.size := rfl
    omega
  match hd : s.data.toList.drop i with
  | [] => rfl
  | [_] => rfl
  | _ :: _ :: _ => rw [hd] at hl; simp only [List.length_cons] at hl; omega

theorem odd_cases (x y : UInt8) :
    (oddB x y = true ∧ (x.toNat : Int) = 92 ∧ 49 ≤ (y.toNat : Int) ∧ (y.toNat : Int) ≤ 57)
    ∨ (oddB x y = true ∧ (x.toNat : Int) = 92 ∧ (y.toNat : Int) = 107)
    ∨ (oddB x y = false ∧ (x.toNat : Int) = 92 ∧ (y.toNat : Int) < 49)
    ∨ (oddB x y = false ∧ (x.toNat : Int) = 92 ∧ 57 < (y.toNat : Int) ∧ (y.toNat : Int) ≠ 107)
    ∨ (oddB x y = true ∧ (x.toNat : Int) = 63 ∧ (y.toNat : Int) = 60)
    ∨ (oddB x y = false ∧ (x.toNat : Int) = 63 ∧ (y.toNat : Int) ≠ 60)
    ∨ (oddB x y = false ∧ (x.toNat : Int) ≠ 92 ∧ (x.toNat : Int) ≠ 63) := by
  have e : ∀ (z c : UInt8), (z == c) = decide ((z.toNat : Int) = (c.toNat : Int)) := fun z c => by
    rw [Bool.eq_iff_iff, beq_iff_eq, decide_eq_true_eq, ← UInt8.toNat_inj]; omega
  have h1 : oddB x y = ((decide ((x.toNat : Int) = 92) && (decide (49 ≤ y.toNat ∧ y.toNat ≤ 57) || decide ((y.toNat : Int) = 107))) || (decide ((x.toNat : Int) = 63) && decide ((y.toNat : Int) = 60))) := by
    unfold oddB
    rw [e x 92, e y 107, e x 63, e y 60]; rfl
  rw [h1]
  by_cases x1 : (x.toNat : Int) = 92
  · rw [decide_eq_true x1, decide_eq_false (show ¬ (x.toNat : Int) = 63 by omega)]
    by_cases y1 : 49 ≤ y.toNat ∧ y.toNat ≤ 57
    · exact .inl ⟨by rw [decide_eq_true y1]; rfl, rfl.trans x1, by omega, by omega⟩
    · by_cases y2 : (y.toNat : Int) = 107
      · exact .inr (.inl ⟨by rw [decide_eq_true y2]; simp, x1, y2⟩)
      · rw [decide_eq_false y1, decide_eq_false y2]
        by_cases y3 : (y.toNat : Int) < 49
        · exact .inr (.inr (.inl ⟨rfl, x1, y3⟩))
        · exact .inr (.inr (.inr (.inl ⟨rfl, x1, by omega, y2⟩)))
  · rw [decide_eq_false x1]
    by_cases x2 : (x.toNat : Int) = 63
    · rw [decide_eq_true x2]
      by_cases y1 : (y.toNat : Int) = 60
      · exact .inr (.inr (.inr (.inr (.inl ⟨by rw [decide_eq_true y1]; rfl, x2, y1⟩))))
      · exact .inr (.inr (.inr (.inr (.inr (.inl ⟨by rw [decide_eq_false y1]; rfl, x2, y1⟩)))))
    · exact .inr (.inr (.inr (.inr (.inr (.inr ⟨by rw [decide_eq_false x2]; rfl, x1, x2⟩)))))

set_option maxHeartbeats 4000000 in
set_option maxRecDepth 20000 in
theorem plain_any (s : ByteArray) (w : World) (hs : s.size ≤ maxLen) :
    Calls Tryz.prog 14 #[.string s] w fun e w' => e = .returned (.bool (plainL s.data.toList)) ∧ w = w' := by
  have hs2 : s.size ≤ 9223372036854775807 := hs
  clear hs
  obtain ⟨R, hR⟩ : ∃ R, plainL s.data.toList = R := ⟨_, rfl⟩
  have HR := Lib.hid hR
  rw [hR]; clear hR
  go_enter Tryz.func14, Tryz.ntmps14
  go_wp2_with fail
  go_loopg [3] s.size (fun k i wr => ∃ j : Nat, k + j = s.size ∧ (j = 0 ∨ j < s.size) ∧ i = .int .i64 (j : Int) ∧ plainL (s.data.toList.drop j) = R ∧ w = wr)
  case atStart => exact ⟨0, rfl, .inl rfl, rfl, HR.out, rfl⟩
  case round =>
    obtain ⟨j, hk, hj1, rfl, hv, rfl⟩ := hrel
    have HV := Lib.hid hv; have HK := Lib.hid hk
    clear hv hk
    have HJ1 := Lib.hid hj1
    clear hj1
    by_cases hj : j + 1 < s.size
    · have HP := Lib.hid (plain_at s j hj)
      have hj0 : j < s.size := by omega
      rcases odd_cases (s[j]'hj0) (s[j + 1]'hj) with ⟨HO, hx, hy, hz⟩ | ⟨HO, hx, hy⟩ | ⟨HO, hx, hy⟩ | ⟨HO, hx, hy, hz⟩ | ⟨HO, hx, hy⟩ | ⟨HO, hx, hy⟩ | ⟨HO, hx, hz⟩
      · have HV2 : Hid (R = false) := Lib.hid (by rw [← HV.out, HP.out, HO]; rfl)
        clear HO
        go_wp2_with fail
        go_ret
        rw [HV2.out]
        exact ⟨rfl, rfl⟩
      · have HV2 : Hid (R = false) := Lib.hid (by rw [← HV.out, HP.out, HO]; rfl)
        clear HO
        go_wp2_with fail
        go_ret
        rw [HV2.out]
        exact ⟨rfl, rfl⟩
      · have HV2 : Hid (plainL (s.data.toList.drop (j + 1)) = R) := Lib.hid (by rw [← HV.out, HP.out, HO]; rfl)
        clear HO
        have hw : (s[j + 1].toNat : Int) ≠ 107 := by omega
        go_wp2_with fail
        go_roundg (s.size - (j + 1))
        case measure => have := HK.out; omega
        case rel => exact ⟨j + 1, by omega, .inr hj, by push_cast; rfl, HV2.out, rfl⟩
      · have HV2 : Hid (plainL (s.data.toList.drop (j + 1)) = R) := Lib.hid (by rw [← HV.out, HP.out, HO]; rfl)
        clear HO
        have hw : 49 ≤ (s[j + 1].toNat : Int) := by omega
        have hv : ¬ (s[j + 1].toNat : Int) ≤ 57 := by omega
        go_wp2_with fail
        · rename_i h9
          exfalso
          rcases h9 with h | h
          · omega
          · exact hz (eq_of_beq h)
        go_roundg (s.size - (j + 1))
        case measure => have := HK.out; omega
        case rel => exact ⟨j + 1, by omega, .inr hj, by push_cast; rfl, HV2.out, rfl⟩
      · have HV2 : Hid (R = false) := Lib.hid (by rw [← HV.out, HP.out, HO]; rfl)
        clear HO
        go_wp2_with fail
        go_ret
        rw [HV2.out]
        exact ⟨rfl, rfl⟩
      · have HV2 : Hid (plainL (s.data.toList.drop (j + 1)) = R) := Lib.hid (by rw [← HV.out, HP.out, HO]; rfl)
        clear HO
        go_wp2_with fail
        go_roundg (s.size - (j + 1))
        case measure => have := HK.out; omega
        case rel => exact ⟨j + 1, by omega, .inr hj, by push_cast; rfl, HV2.out, rfl⟩
      · have HV2 : Hid (plainL (s.data.toList.drop (j + 1)) = R) := Lib.hid (by rw [← HV.out, HP.out, HO]; rfl)
        clear HO
        go_wp2_with fail
        go_roundg (s.size - (j + 1))
        case measure => have := HK.out; omega
        case rel => exact ⟨j + 1, by omega, .inr hj, by push_cast; rfl, HV2.out, rfl⟩
    · have HV2 : Hid (R = true) := Lib.hid (by rw [← HV.out]; exact plain_end s j hj)
      have hle : ¬ (j : Int) + 1 < s.size := by omega
      have hj9 : j + 1 ≤ 9223372036854775807 := by have := HJ1.out; omega
      go_wp2_with fail
      go_ret
      rw [HV2.out]
      exact ⟨rfl, rfl⟩

set_option maxHeartbeats 4000000 in
set_option maxRecDepth 20000 in
theorem law_joins (a b f : ByteArray) (w : World) (wa : a.size ≤ maxLen) (wb : b.size ≤ maxLen) (wf : f.size ≤ maxLen) (ht : Tabs w.heap.size w) :
    Calls Tryz.prog 4 #[.string a, .string b, .string f] w fun e w' => e = .returned (.bool true) ∧ Below w.heap.size w w' := by
  have HT := Lib.hid ht
  have HC := Lib.hid (fun body w h => check_bits body f w h wf)
  have HPa := Lib.hid (fun w => plain_any a w wa)
  have HPb := Lib.hid (fun w => plain_any b w wb)
  have HJ := Lib.hid (fun pa pb ha hb hl => joins_all a b f pa pb ha hb hl)
  have HEa := Lib.hid (fun h => (end_well (body := a) (flags := f) h).2.1)
  have HEb := Lib.hid (fun h => (end_well (body := b) (flags := f) h).2.1)
  clear ht wa wb wf
  go_enter Tryz.func4, Tryz.ntmps4
  go_wp2_with fail
  refine (awake_any _ HT.out).mono ?_
  rintro e w1 ⟨rfl, hb1⟩
  have HT1 := Lib.hid (HT.out.below hb1)
  go_wp2_with fail
  refine (HC.out a _ HT1.out).mono ?_
  rintro e w2 ⟨rfl, hb2⟩
  have HT2 := Lib.hid (HT1.out.below hb2)
  go_wp2_with fail
  refine (HC.out b _ HT2.out).mono ?_
  rintro e w3 ⟨rfl, hb3⟩
  have HT3 := Lib.hid (HT2.out.below hb3)
  have HB3 := Lib.hid (hb1.trans ((hb2.trans (hb3.mono hb2.size)).mono hb1.size))
  clear hb1 hb2 hb3 HT HT1 HT2
  generalize endP a f = ea at *
  generalize endP b f = eb at *
  obtain ⟨xa, ca⟩ := ea
  obtain ⟨xb, cb⟩ := eb
  go_upto_region 5 with fail
  go_cut [57] from 31 to 57 (fun c wx => ∃ t, c = .bool t ∧ (t = false → plainL a.data.toList = true ∧ plainL b.data.toList = true ∧ ca = 0 ∧ cb = 0 ∧ a.size + b.size + 9 ≤ 4096) ∧ w3 = wx)
  case first =>
    cases hpa : plainL a.data.toList with
    | false =>
      rw [hpa] at HPa
      have H := Lib.hid hpa; clear hpa
      go_wp2_with fail
      refine (HPa.out _).mono ?_
      rintro e w4 ⟨rfl, rfl⟩
      go_wp2_with fail
      go_meet
      exact ⟨true, rfl, (fun h => by cases h), rfl⟩
    | true =>
      rw [hpa] at HPa
      have H := Lib.hid hpa; clear hpa
      cases hpb : plainL b.data.toList with
      | false =>
        rw [hpb] at HPb
        have H2 := Lib.hid hpb; clear hpb
        go_wp2_with fail
        refine (HPa.out _).mono ?_
        rintro e w4 ⟨rfl, rfl⟩
        go_wp2_with fail
        refine (HPb.out _).mono ?_
        rintro e w4 ⟨rfl, rfl⟩
        go_wp2_with fail
        go_meet
        exact ⟨true, rfl, (fun h => by cases h), rfl⟩
      | true =>
        rw [hpb] at HPb
        have H2 := Lib.hid hpb; clear hpb
        by_cases h1 : ca = 0
        · by_cases h2 : cb = 0
          · have la := HEa.out h1
            have lb := HEb.out h2
            have e1 : ((ca : Int) != 0) = false := by rw [h1]; rfl
            have e2 : ((cb : Int) != 0) = false := by rw [h2]; rfl
            have HV : Hid (ca = 0 ∧ cb = 0) := Lib.hid ⟨h1, h2⟩
            clear h1 h2
            by_cases h3 : 4096 < a.size + b.size + 9
            · have e3 : (4096 : Int) < (a.size : Int) + (b.size : Int) + 9 := by omega
              go_wp2_with fail
              refine (HPa.out _).mono ?_
              rintro e w4 ⟨rfl, rfl⟩
              go_wp2_with fail
              refine (HPb.out _).mono ?_
              rintro e w4 ⟨rfl, rfl⟩
              go_wp2_with fail
              refine (num_any _ _).mono ?_
              rintro e w4 ⟨rfl, rfl⟩
              go_wp2_with fail
              refine (num_any _ _).mono ?_
              rintro e w4 ⟨rfl, rfl⟩
              go_wp2_with fail
              go_meet
              exact ⟨true, rfl, (fun h => by cases h), rfl⟩
            · have e3 : ¬ (4096 : Int) < (a.size : Int) + (b.size : Int) + 9 := by omega
              go_wp2_with fail
              refine (HPa.out _).mono ?_
              rintro e w4 ⟨rfl, rfl⟩
              go_wp2_with fail
              refine (HPb.out _).mono ?_
              rintro e w4 ⟨rfl, rfl⟩
              go_wp2_with fail
              refine (num_any _ _).mono ?_
              rintro e w4 ⟨rfl, rfl⟩
              go_wp2_with fail
              refine (num_any _ _).mono ?_
              rintro e w4 ⟨rfl, rfl⟩
              go_wp2_with fail
              go_meet
              exact ⟨_, rfl, fun _ => ⟨H.out, H2.out, HV.out.1, HV.out.2, by omega⟩, rfl⟩
          · have e1 : ((ca : Int) != 0) = false := by rw [h1]; rfl
            have e2 : ((cb : Int) != 0) = true := bne_iff_ne.2 (by omega)
            clear h1 h2
            go_wp2_with fail
            refine (HPa.out _).mono ?_
            rintro e w4 ⟨rfl, rfl⟩
            go_wp2_with fail
            refine (HPb.out _).mono ?_
            rintro e w4 ⟨rfl, rfl⟩
            go_wp2_with fail
            refine (num_any _ _).mono ?_
            rintro e w4 ⟨rfl, rfl⟩
            go_wp2_with fail
            refine (num_any _ _).mono ?_
            rintro e w4 ⟨rfl, rfl⟩
            go_wp2_with fail
            go_meet
            exact ⟨true, rfl, (fun h => by cases h), rfl⟩
        · have e1 : ((ca : Int) != 0) = true := bne_iff_ne.2 (by omega)
          clear h1
          go_wp2_with fail
          refine (HPa.out _).mono ?_
          rintro e w4 ⟨rfl, rfl⟩
          go_wp2_with fail
          refine (HPb.out _).mono ?_
          rintro e w4 ⟨rfl, rfl⟩
          go_wp2_with fail
          refine (num_any _ _).mono ?_
          rintro e w4 ⟨rfl, rfl⟩
          go_wp2_with fail
          go_meet
          exact ⟨true, rfl, (fun h => by cases h), rfl⟩
  case rest =>
    obtain ⟨t, rfl, ht, rfl⟩ := hcut
    cases t with
    | true =>
      clear ht
      go_wp2_with fail
      go_ret
      exact ⟨rfl, HB3.out⟩
    | false =>
      obtain ⟨pa, pb, h1, h2, hl⟩ := ht rfl
      have HK := Lib.hid (HJ.out pa pb h1 h2 hl)
      have la : a.size ≤ 4096 := by omega
      have lb : b.size ≤ 4096 := by omega
      have HG : Hid (∀ body, endP body f = (0, 0) → ∀ w, Tabs w.heap.size w → Calls Tryz.prog 10 #[.string body, .string f] w fun e w' => e = .returned (.tuple #[.int .i64 0, .int .i64 0]) ∧ Below w.heap.size w w') := Lib.hid (fun body hr w h => by
        have := HC.out body w h
        rw [hr] at this
        exact this)
      clear ht pa pb h1 h2 HC HPa HPb HJ HEa HEb
      go_wp2_with fail
      refine (HG.out _ HK.out.1 _ HT3.out).mono ?_
      rintro e w4 ⟨rfl, hb4⟩
      have HT4 := Lib.hid (HT3.out.below hb4)
      go_wp2_with fail
      refine (HG.out _ HK.out.2.1 _ HT4.out).mono ?_
      rintro e w5 ⟨rfl, hb5⟩
      have HT5 := Lib.hid (HT4.out.below hb5)
      go_wp2_with fail
      refine (HG.out _ HK.out.2.2 _ HT5.out).mono ?_
      rintro e w6 ⟨rfl, hb6⟩
      go_wp2_with fail
      refine (num_any _ _).mono ?_
      rintro e w7 ⟨rfl, rfl⟩
      go_wp2_with fail
      refine (num_any _ _).mono ?_
      rintro e w7 ⟨rfl, rfl⟩
      go_wp2_with fail
      refine (num_any _ _).mono ?_
      rintro e w7 ⟨rfl, rfl⟩
      go_wp2_with fail
      go_ret
      exact ⟨rfl, HB3.out.trans ((hb4.trans ((hb5.trans (hb6.mono hb5.size)).mono hb4.size)).mono HB3.out.size)⟩

end Reg
end Go.Proofs.YtjoohpdohdehgaaGreatDoor
