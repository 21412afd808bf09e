/-
  The contract of str.Check.
-/
import Derived.Test.YtggibhlmnfodaaaDoorStrEscape
import Derived.Test.YtggibhlmnfodaaaDoorStrScan
namespace Go.Proofs.YtggibhlmnfodaaaDoor
namespace Str
open Go.RowKit

theorem peek_cells (b : Nat) (s : ByteArray) (i : Nat) (w : World) (hs : s.size ≤ maxLen) (hi : i ≤ s.size) (wx : World) (h : Held b s i w wx) :
    Calls Tryd.prog 46 #[.pointer (some ⟨b, 0, none⟩)] wx fun e w' => e = .returned (.int .i64 (headV (sufL s i))) ∧ Held b s i w w' :=
  peek_held b s i w hs hi wx h

theorem Held.drew {b : Nat} {s : ByteArray} {i : Nat} {w wx : World} (h : Held b s i w wx) : Held b s i w wx.drew := ⟨⟨h.1.lt, h.1.got⟩, h.2.trans ⟨rfl, rfl, rfl, Nat.le_refl _, fun _ _ _ => rfl⟩⟩
theorem held_alloc (w : World) (s : ByteArray) (i : Nat) (k : Nat) (hk : k ≤ w.heap.size) : Below k w (w.alloc (.cells #[.string s, .int .i64 i] 69)) := (Below.refl _ _).alloc hk _

/-- A literal's check, told by its first byte. -/
theorem lit_bad (s : ByteArray) (h : s.size = 0) : litL s.data.toList = (0, none) := by
  have : s.data.toList = [] := List.eq_nil_of_length_eq_zero (by simpa using h)
  rw [this]; rfl
theorem lit_none (s : ByteArray) (h : 0 < s.size) (h1 : s[0] ≠ 39) (h2 : s[0] ≠ 34) : litL s.data.toList = (0, none) := by
  have : s.data.toList = s[0] :: sufL s 1 := by have := suf_cons s 0 h; simpa [sufL] using this
  rw [this, litL, if_neg (by rintro (h | h) <;> contradiction)]
theorem lit_some (s : ByteArray) (h : 0 < s.size) (h1 : s[0] = 39 ∨ s[0] = 34) (R : Nat × Option (List Piece)) (hR : scanL s[0] (sufL s 1) = R) :
    litL s.data.toList = (match R.2 with | none => (R.1 + 1, none) | some ps => if R.1 + 2 < s.size then (R.1 + 2, none) else (0, some ps)) := by
  have : s.data.toList = s[0] :: sufL s 1 := by have := suf_cons s 0 h; simpa [sufL] using this
  rw [this, litL, if_pos h1, hR, suf_len]
  cases R.2 with
  | none => rfl
  | some ps =>
    by_cases e : R.1 + 2 < s.size
    · simp only [if_pos e, if_pos (show R.1 + 1 < s.size - 1 by omega)]
    · simp only [if_neg e, if_neg (show ¬ R.1 + 1 < s.size - 1 by omega)]

/-- Check's answer. -/
def Checked (s : ByteArray) (w : World) (e : Ending) (w' : World) : Prop :=
  e = .returned (.tuple #[.int .i64 ((litL s.data.toList).1 : Nat), .int .i64 (codeL (litL s.data.toList) : Nat)]) ∧ Below w.heap.size w w'

theorem wrapb (q : UInt8) : IntKind.i64.wrap (q.toNat : Int) = q.toNat := by
  have : ∀ n : Nat, n < 256 → IntKind.i64.wrap (n : Int) = n := by decide +kernel
  exact this _ q.toNat_lt
theorem head_q (s : ByteArray) (i : Nat) (q : UInt8) : headV (sufL s i) = q.toNat ↔ (sufL s i).head? = some q := by
  have := head_byte (sufL s i) q.toNat q.toNat_lt
  rw [this]
  simp

set_option maxHeartbeats 2000000 in
set_option maxRecDepth 20000 in
theorem check_lit (s : ByteArray) (w : World) (hs : s.size ≤ maxLen) (hT : Tabs w) (h0 : 0 < s.size) (q : UInt8) (hq : q = 39 ∨ q = 34) (hsq : s[0] = q) :
    Calls Tryd.prog 40 #[.string s] w (Checked s w) := by
  have hm := hs
  unfold maxLen at hs
  obtain ⟨R, hR⟩ : ∃ R, scanL q (sufL s 1) = R := ⟨_, rfl⟩
  have HF := Lib.hid (lit_some s h0 (by rw [hsq]; exact hq) R (by rw [hsq]; exact hR))
  have HR := Lib.hid hR
  clear hR
  have hqz : ((q.toNat : Int) == 39) = true ∨ (((q.toNat : Int) == 39) = false ∧ ((q.toNat : Int) == 34) = true) := by
    rcases hq with rfl | rfl
    · exact Or.inl rfl
    · exact Or.inr ⟨rfl, rfl⟩
  have Hq := Lib.hid hq
  have hqt : q.toNat = 39 ∨ q.toNat = 34 := by rcases hq with rfl | rfl <;> simp
  have hq256 : (q.toNat : Int) < 256 := by omega
  have hne : ¬ s = ByteArray.empty := by intro e; rw [e] at h0; exact absurd h0 (by decide)
  have hne2 : ((s.size : Int) == 0) = false := beq_eq_false_iff_ne.2 (by omega)
  clear hq
  go_enter Tryd.func40, Tryd.ntmps40
  go_upto_region 1 with fail
  go_cut [20] from 8 to 20 (fun c wx => c = .bool false ∧ wx = w)
  case first =>
    rcases Hq.out with rfl | rfl
    all_goals
      go_wp2_with fail
      go_meet
      exact ⟨rfl, rfl⟩
  case rest =>
    obtain ⟨rfl, hw⟩ := hcut
    rw [hw]
    clear hw
    go_wp2_with fail
    have h2b : 2 ≤ w.heap.size := hT.1
    have hA := Rd.alloc s 1 w
    have hBa : Bar w.heap.size w (w.alloc (.cells #[.string s, .int .i64 1] 69)) := ⟨rfl, rfl, rfl, by simp, fun k h1 h2 => Below.heap_alloc _ _ _ h1⟩
    have HA := Lib.hid (And.intro hA hBa)
    clear hA hBa
    obtain ⟨b, hb⟩ : ∃ b, w.heap.size = b := ⟨_, rfl⟩
    rw [hb] at h2b HA ⊢
    have HB := Lib.hid hb
    clear hb
    go_loopg [5, 6] s.size (fun g _ _ wr => ∃ i : Nat, 1 ≤ i ∧ g + i = s.size + 1 ∧ i ≤ s.size ∧ Rd b s i wr ∧ Bar b w wr ∧ R.1 + 1 = i + (scanL q (sufL s i)).1 ∧ R.2.isSome = (scanL q (sufL s i)).2.isSome)
    case atStart => exact ⟨1, by omega, by omega, by omega, HA.out.1, HA.out.2, by rw [HR.out]; omega, by rw [HR.out]⟩
    case round =>
      obtain ⟨i, hi1, hg, hi, hRd, hBar, hr1, hr2⟩ := hrel
      have HT1 : Hid (Tabs wr) := Lib.hid (hT.bar hBar h2b)
      have HBar := Lib.hid hBar
      have HRd := Lib.hid hRd
      have HR1 := Lib.hid hr1
      have HR2 := Lib.hid hr2
      have HG := Lib.hid hg
      clear hBar hr1 hr2 hg
      have HP := Lib.hid (peek_cells b s i wr hm hi)
      have h0' := hRd.cell0
      have h1' := hRd.cell1
      have hK : Held b s i wr wr := ⟨HRd.out, Bar.refl _ _⟩
      clear hRd
      have hD := head_q s i q
      go_upto_region 4 with fail
      go_cut [27] from 23 to 27 (fun c wx => c = .bool (decide ((sufL s i).head? ≠ some q)) ∧ Held b s i wr wx)
      case first =>
        obtain ⟨C, hC⟩ : ∃ C, headV (sufL s i) = C := ⟨_, rfl⟩
        rw [hC] at HP hD
        clear hC
        by_cases hq : C = (q.toNat : Int)
        · have hne : (C != (q.toNat : Int)) = false := by simp [hq]
          have HD : Hid (decide ((sufL s i).head? ≠ some q) = false) := Lib.hid (by simp [hD.1 hq])
          clear hD hq
          go_region_held3 (fun wx => Held b s i wr wx)
            (first | exact hK | exact hK.drew | assumption)
            (first
            | (go_at_call 46; refine (HP.out _ ?_).mono ?_; (first | exact hK | exact hK.drew | assumption); rintro e wx ⟨rfl, hK⟩))
          all_goals (go_wp2_with fail; go_meet; exact ⟨by rw [HD.out, wrapb, hne], hK⟩)
        · have hne : (C != (q.toNat : Int)) = true := by simp [hq]
          have HD : Hid (decide ((sufL s i).head? ≠ some q) = true) := Lib.hid (by simp; exact fun e => hq (hD.2 e))
          clear hD hq
          go_region_held3 (fun wx => Held b s i wr wx)
            (first | exact hK | exact hK.drew | assumption)
            (first
            | (go_at_call 46; refine (HP.out _ ?_).mono ?_; (first | exact hK | exact hK.drew | assumption); rintro e wx ⟨rfl, hK⟩))
          all_goals (go_wp2_with fail; go_meet; exact ⟨by rw [HD.out, wrapb, hne], hK⟩)
      case rest =>
        obtain ⟨rfl, hx⟩ := hcut
        have HX := Lib.hid hx
        have g0 := hx.1.cell0
        have g1 := hx.1.cell1
        have gf := hx.1.frozen 1
        clear hx hK HP hD h0' h1'
        by_cases hq : (sufL s i).head? = some q
        · have HS := Lib.hid (scan_close q (sufL s i) hq)
          have hlt : i < s.size := by
            rcases Nat.lt_or_ge i s.size with h | h
            · exact h
            · rw [suf_nil s i (by omega)] at hq; cases hq
          rw [decide_eq_false (by simpa using hq)]
          clear hq
          obtain ⟨ps, hps⟩ : ∃ ps, R.2 = some ps := by
            have h := HR2.out
            rw [HS.out] at h
            cases hR2 : R.2 with
            | none => rw [hR2] at h; cases h
            | some ps => exact ⟨ps, rfl⟩
          have hR1 : R.1 + 1 = i := by have h := HR1.out; rw [HS.out] at h; exact h
          have HL : Hid (litL s.data.toList = if i + 1 < s.size then (i + 1, none) else (0, some ps)) := Lib.hid (by
            have h := HF.out
            rw [hps] at h
            rw [h]
            show (if R.1 + 2 < s.size then (R.1 + 2, none) else (0, some ps)) = _
            rw [show R.1 + 2 = i + 1 by omega])
          clear hR1 hps
          by_cases hend : i + 1 < s.size
          · go_wp2_with fail
            go_ret2
            refine ⟨?_, (HBar.out.trans HX.out.2).below (by rw [← HB.out]; exact Nat.le_refl _) (Nat.le_refl _)⟩
            rw [HL.out, if_pos hend]; rfl
          · go_wp2_with fail
            go_ret2
            refine ⟨?_, (HBar.out.trans HX.out.2).below (by rw [← HB.out]; exact Nat.le_refl _) (Nat.le_refl _)⟩
            rw [HL.out, if_neg hend]; rfl
        · rw [decide_eq_true (by simpa using hq)]
          have HQ := Lib.hid hq
          clear hq
          have HTX : Hid (Tabs wc) := Lib.hid (HT1.out.bar HX.out.2 h2b)
          go_wp2_with fail
          refine (part_any b s i wc hm hi HX.out.1 h2b HTX.out).mono ?_
          rintro e w2 hw2
          obtain ⟨rfl, hW⟩ := hw2.two
          have HW := Lib.hid hW
          have hg1 := hW.1.cell1
          clear hW hw2
          have HN := Lib.hid (scan_bad q (sufL s i) HQ.out)
          have HP2 := Lib.hid (fun v => scan_step q (sufL s i) v HQ.out)
          have HPP := Lib.hid (part_pos (sufL s i))
          have HPL := Lib.hid (part_le (sufL s i)).1
          have HSD := Lib.hid (suf_drop s i)
          rw [suf_len] at HPP HPL
          obtain ⟨K, hK⟩ : ∃ K, partL (sufL s i) = K := ⟨_, rfl⟩
          rw [hK] at HN HP2 HPP HPL HW hg1 ⊢
          clear hK
          obtain ⟨k, v⟩ := K
          cases v with
          | none =>
            have HS := Lib.hid (HN.out rfl)
            go_wp2_with fail
            go_ret2
            refine ⟨?_, ((HBar.out.trans HX.out.2).trans HW.out.2).below (by rw [← HB.out]; exact Nat.le_refl _) (Nat.le_refl _)⟩
            have h1 := HR1.out
            have h2 := HR2.out
            rw [HS.out] at h1 h2
            have h3 := HF.out
            cases hR2 : R.2 with
            | some ps => rw [hR2] at h2; cases h2
            | none =>
              rw [hR2] at h3
              rw [h3]
              show _ = Ending.returned (.tuple #[.int .i64 ((R.1 + 1 : Nat) : Int), .int .i64 300])
              rw [h1]
              simp
          | some v =>
            have HS := Lib.hid (HP2.out v rfl)
            have hpp := HPP.out v rfl
            go_wp2_with fail
            go_roundg (gk - k)
            case rel =>
              have h1 := HR1.out
              have h2 := HR2.out
              rw [HS.out] at h1 h2
              have h3 := HG.out
              have hle : k ≤ s.size - i := HPL.out
              have hk1 : 1 ≤ k := hpp.1
              refine ⟨i + k, by omega, by omega, by omega, HW.out.1, (HBar.out.trans HX.out.2).trans HW.out.2, ?_, ?_⟩
              · rw [HSD.out] at h1
                simp only at h1
                omega
              · rw [h2, HSD.out]; simp
            case measure =>
              have h3 := HG.out
              have hle : k ≤ s.size - i := HPL.out
              have hk1 : 1 ≤ k := hpp.1
              omega

theorem check_nil (w : World) : Calls Tryd.prog 40 #[.string ByteArray.empty] w fun e w' => e = .returned (.tuple #[.int .i64 0, .int .i64 300]) ∧ Below w.heap.size w w' := by
  go_enter Tryd.func40, Tryd.ntmps40
  go_wp2_with fail
  go_ret2
  exact ⟨rfl, Below.refl _ _⟩

set_option maxHeartbeats 1000000 in
theorem check_any (s : ByteArray) (w : World) (hs : s.size ≤ maxLen) (hT : Tabs w) : Calls Tryd.prog 40 #[.string s] w (Checked s w) := by
  have hm := hs
  unfold maxLen at hs
  by_cases h0 : 0 < s.size
  · by_cases h1 : s[0] = 39
    · exact check_lit s w hm hT h0 39 (Or.inl rfl) h1
    by_cases h2 : s[0] = 34
    · exact check_lit s w hm hT h0 34 (Or.inr rfl) h2
    have HL := Lib.hid (lit_none s h0 h1 h2)
    have t1 : (((s[0]'h0).toNat : Int) != 39) = true := bne_iff_ne.2 (fun e => h1 (byte_of (n := 39) e (by decide)))
    have t2 : (((s[0]'h0).toNat : Int) != 34) = true := bne_iff_ne.2 (fun e => h2 (byte_of (n := 34) e (by decide)))
    have hne2 : ((s.size : Int) == 0) = false := beq_eq_false_iff_ne.2 (by omega)
    have hne : ¬ s = ByteArray.empty := by intro e; rw [e] at h0; exact absurd h0 (by decide)
    clear h1 h2
    go_enter Tryd.func40, Tryd.ntmps40
    go_wp2_with fail
    go_ret2
    exact ⟨by rw [HL.out]; rfl, Below.refl _ _⟩
  · have HL := lit_bad s (by omega)
    obtain rfl : s = ByteArray.empty := by
      apply ByteArray.ext
      exact Array.eq_empty_of_size_eq_zero (by have : s.size = 0 := by omega
                                               exact this)
    refine (check_nil w).mono ?_
    rintro e w' ⟨rfl, hb⟩
    exact ⟨by rw [HL]; rfl, hb⟩

end Str
end Go.Proofs.YtggibhlmnfodaaaDoor
