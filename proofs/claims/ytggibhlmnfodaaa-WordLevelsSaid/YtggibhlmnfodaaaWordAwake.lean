/-
  The laws' own first question; the law that says what a word, an operator is.
-/
import Derived.Test.YtggibhlmnfodaaaWordName
import Derived.Test.YtggibhlmnfodaaaWordRes
import Derived.Test.YtggibhlmnfodaaaWordLev
import Derived.Test.YtggibhlmnfodaaaWordRow
import Derived.Test.YtggibhlmnfodaaaUniAwake
namespace Go.Proofs.Ytggibhlmnfodaaa
namespace Word
open Go.RowKit
open Uni (lenN runeN startB partB ret_bool ret_int badFrom badAt badCode)

theorem name_a1 : nameB ⟨#[97, 49]⟩ = true := by decide +kernel
theorem name_1a : nameB ⟨#[49, 97]⟩ = false := by decide +kernel
theorem res_let : resB ⟨#[108, 101, 116]⟩ false = true := by decide +kernel
theorem res_await1 : resB ⟨#[97, 119, 97, 105, 116]⟩ true = true := by decide +kernel
theorem res_await0 : resB ⟨#[97, 119, 97, 105, 116]⟩ false = false := by decide +kernel
theorem lev_63 : levN ⟨#[63, 63]⟩ = 1 := by decide +kernel
theorem lev_42 : levN ⟨#[42, 42]⟩ = 12 := by decide +kernel
theorem right_42 : rightB ⟨#[42, 42]⟩ = true := by decide +kernel
theorem right_43 : rightB ⟨#[43]⟩ = false := by decide +kernel

set_option maxHeartbeats 1000000 in
theorem awake_any (w : World) :
    Calls Try.prog 14 #[] w fun e w' => e = .returned (.bool true) ∧ Below w.heap.size w w' := by
  go_enter Try.func14, Try.ntmps14
  go_wp2_with fail
  refine (name_any _ w (by decide)).mono ?_
  rintro e w1 ⟨rfl, hb1⟩
  rw [name_a1]
  go_wp2_with fail
  refine (name_any _ w1 (by decide)).mono ?_
  rintro e w2 ⟨rfl, hb2⟩
  rw [name_1a]
  go_wp2_with fail
  refine (reserved_any _ _ w2).mono ?_
  rintro e w3 ⟨rfl, rfl⟩
  rw [res_let]
  go_wp2_with fail
  refine (reserved_any _ _ w2).mono ?_
  rintro e w3 ⟨rfl, rfl⟩
  rw [res_await1]
  go_wp2_with fail
  refine (reserved_any _ _ w2).mono ?_
  rintro e w3 ⟨rfl, rfl⟩
  rw [res_await0]
  go_wp2_with fail
  refine (level_any _ w2).mono ?_
  rintro e w3 ⟨rfl, rfl⟩
  rw [lev_63]
  go_wp2_with fail
  refine (level_any _ w2).mono ?_
  rintro e w3 ⟨rfl, rfl⟩
  rw [lev_42]
  go_wp2_with fail
  refine (right_any _ w2).mono ?_
  rintro e w3 ⟨rfl, rfl⟩
  rw [right_42]
  go_wp2_with fail
  refine (right_any _ w2).mono ?_
  rintro e w3 ⟨rfl, rfl⟩
  rw [right_43]
  go_wp2_with fail
  go_ret
  exact ⟨rfl, bel_trans hb1 hb2⟩

set_option maxHeartbeats 400000 in
theorem refname_any (s : ByteArray) (w : World) (hs : s.size ≤ maxLen) :
    Calls Try.prog 7 #[.string s] w fun e w' => e = .returned (.bool (nameB s)) ∧ Below w.heap.size w w' := by
  go_enter Try.func7, Try.ntmps7
  go_wp2_with fail
  refine (rname_any s w hs).mono ?_
  rintro e w1 ⟨rfl, hb1⟩
  go_wp2_with fail
  go_ret
  exact ⟨rfl, hb1⟩

set_option maxHeartbeats 1000000 in
theorem law_kinds (s : ByteArray) (m : Bool) (w : World) (hs : s.size ≤ maxLen) :
    Calls Try.prog 3 #[.string s, .bool m] w fun e w' => e = .returned (.bool true) ∧ Below w.heap.size w w' := by
  go_enter Try.func3, Try.ntmps3
  go_wp2_with fail
  refine (name_any s w hs).mono ?_
  rintro e w1 ⟨rfl, hb1⟩
  go_wp2_with fail
  refine (refname_any s w1 hs).mono ?_
  rintro e w2 ⟨rfl, hb2⟩
  have hc2 := bel_trans hb1 hb2
  go_wp2_with fail
  refine (reserved_any s m w2).mono ?_
  rintro e w3 ⟨rfl, rfl⟩
  go_wp2_with fail
  refine (rreserved_any s m w2).mono ?_
  rintro e w3 ⟨rfl, hb3⟩
  have hc3 := bel_trans hc2 hb3
  go_wp2_with fail
  refine (level_any s w3).mono ?_
  rintro e w4 ⟨rfl, rfl⟩
  go_wp2_with fail
  refine (rlevel_any s w3).mono ?_
  rintro e w4 ⟨rfl, hb4⟩
  have hc4 := bel_trans hc3 hb4
  go_wp2_with fail
  refine (right_any s w4).mono ?_
  rintro e w5 ⟨rfl, rfl⟩
  go_wp2_with fail
  refine (rright_any s w4).mono ?_
  rintro e w5 ⟨rfl, rfl⟩
  go_wp2_with fail
  refine (awake_any w4).mono ?_
  rintro e w5 ⟨rfl, hb5⟩
  go_wp2_with fail
  go_ret
  exact ⟨rfl, bel_trans hc4 hb5⟩

/-! A name is a valid text; a reserved word is a name. -/
theorem goes_valid (s : ByteArray) : ∀ n i, s.size - i ≤ n → goes s i = true → badFrom s i = none
  | n, i, hn, h => by
    by_cases hlt : i < s.size
    · have hp : partB ((Utf8.decode s i).1 : Int) = true := by
        cases e : partB ((Utf8.decode s i).1 : Int) with
        | true => rfl
        | false => rw [goes_no s i hlt e] at h; cases h
      have h0 : lenN s i ≠ 0 := fun e => by rw [none_part s i e] at hp; cases hp
      have hst := Uni.step_pos s i
      rw [goes_on s i hlt hp] at h
      match n, hn with
      | 0, hn => omega
      | n + 1, hn =>
        have := goes_valid s n (i + (Utf8.decode s i).2) (by omega) h
        rw [Uni.decode_eq, if_neg h0] at this
        rw [Uni.bad_step s i hlt h0]
        exact this
    · exact Uni.bad_end s i hlt
theorem name_valid (s : ByteArray) (h : nameB s = true) : badFrom s 0 = none := by
  unfold nameB at h
  simp only [Bool.and_eq_true] at h
  exact goes_valid s _ 0 (Nat.le_refl _) h.2.2
theorem code_zero (s : ByteArray) (h : nameB s = true) : badCode s = 0 := by rw [badCode, name_valid s h]
theorem name_bad (s : ByteArray) (h : badCode s ≠ 0) : nameB s = false := by
  cases e : nameB s with
  | false => rfl
  | true => exact absurd (code_zero s e) h
theorem words_names : ∀ l ∈ awaitL :: resL, nameB ⟨l.toArray⟩ = true := by decide +kernel
theorem res_name (s : ByteArray) (h : resB s true = true) : nameB s = true := by
  have hm : s.data.toList ∈ awaitL :: resL := by
    unfold resB at h
    by_cases e : s.data.toList = awaitL
    · rw [e]; exact List.mem_cons_self
    · rw [if_neg e] at h
      exact List.mem_cons_of_mem _ (List.elem_iff.1 h)
  have := words_names _ hm
  rwa [of_list] at this
theorem res_more (s : ByteArray) (h : resB s false = true) : resB s true = true := by
  unfold resB at h ⊢
  by_cases e : s.data.toList = awaitL
  · rw [if_pos e]
  · rw [if_neg e] at h ⊢; exact h

set_option maxHeartbeats 2000000 in
set_option maxRecDepth 20000 in
theorem law_names (s : ByteArray) (w : World) (hs : s.size ≤ maxLen) :
    Calls Try.prog 4 #[.string s] w fun e w' => e = .returned (.bool true) ∧ Below w.heap.size w w' := by
  have hm := hs
  unfold maxLen at hs
  obtain ⟨E, hE⟩ : ∃ E, (!s.toList.isEmpty) = E := ⟨_, rfl⟩
  have hEs : E = decide (0 < s.size) := by
    rw [← hE, Lib.toList_data]
    have h2 : s.data.toList.length = s.size := by simp
    cases e : s.data.toList with
    | nil => rw [e] at h2; rw [decide_eq_false (by rw [← h2]; simp)]; rfl
    | cons a b => rw [e] at h2; rw [decide_eq_true (by rw [← h2]; simp)]; rfl
  have HE := Lib.hid hEs
  clear hEs
  go_enter Try.func4, Try.ntmps4
  go_wp2_with fail
  refine (awake_any w).mono ?_
  rintro e w0 ⟨rfl, hb0⟩
  have HB0 := Lib.hid hb0
  clear hb0
  go_wp2_with fail
  go_loopw [3, 4, 6] (fun b f _ wr => ∃ (i : Nat) (x z : Bool), i ≤ s.size ∧ b = .bool x ∧ f = .bool z ∧ z = decide (i = 0) ∧ (i = 0 → x = E) ∧ (0 < i → nameB s = (x && goes s i)) ∧ wr.heap[w0.heap.size]? = some (.stringIter s i) ∧ Below w.heap.size w wr) (fun _ _ _ wr => s.size - wr.iterPos w0.heap.size)
  case atStart => exact ⟨0, E, true, by omega, rfl, rfl, rfl, fun _ => rfl, fun h => absurd h (by omega), World.iter_heap w0 s 0, bel_alloc HB0.out _⟩
  case round =>
    obtain ⟨i, x, z, hi, rfl, rfl, hz, hx0, hx1, hk, hw⟩ := hrel
    have HZ := Lib.hid hz
    clear hz
    have Hx0 := Lib.hid hx0
    have Hx1 := Lib.hid hx1
    have Hk := Lib.hid hk
    have Hw := Lib.hid hw
    have Hp := Lib.hid (iterPos_of hk)
    have Hle0 := Lib.hid HB0.out.size
    clear hx0 hx1 hw
    by_cases hlt : i < s.size
    · have hn := fun ty => Lib.run_next_any_at (P := Try.prog) wr w0.heap.size s i ty hk hlt
      clear hk
      have hd := decode_le s i
      have hp := Uni.step_pos s i
      have hl := Uni.step_le s i hlt
      have Hit := Lib.hid (Lib.iterAt_heap wr w0.heap.size s i (i + (Utf8.decode s i).2) Hk.out)
      have Hbi := Lib.hid (Uni.below_iterAt Hw.out w0.heap.size Hle0.out s (i + (Utf8.decode s i).2))
      have Hw2 : Hid (w0.heap.size < (wr.iterAt w0.heap.size s (i + (Utf8.decode s i).2)).heap.size) := Lib.hid (Array.getElem?_eq_some_iff.1 Hit.out).1
      have Hlt := Lib.hid hlt
      cases z with
      | true =>
        have h0 : i = 0 := of_decide_eq_true HZ.out.symm
        have Hx : Hid (x = true) := Lib.hid (by rw [Hx0.out h0, HE.out]; exact decide_eq_true (by omega))
        obtain ⟨y, hy⟩ : ∃ y, startB ((Utf8.decode s i).1 : Int) = y := ⟨_, rfl⟩
        have Hf : Hid (nameB s = (y && goes s (i + (Utf8.decode s i).2))) := Lib.hid (by
          subst h0
          rw [← hy]
          cases e : startB ((Utf8.decode s 0).1 : Int) with
          | false => rw [name_no s e]; rfl
          | true => rw [name_yes s Hlt.out e, goes_on s 0 Hlt.out (Uni.start_part _ e)]; rfl)
        have Hy := Lib.hid hy
        clear Hx0 Hx1 h0 hy
        obtain rfl := Hx.out
        go_wp2_with fail
        generalize wr.iterAt w0.heap.size s (i + (Utf8.decode s i).2) = w2 at *
        refine (Uni.start_any _ _).mono ?_
        rintro e w3 ⟨rfl, hb3⟩
        have Hk3 : Hid (w3.heap[w0.heap.size]? = some (.stringIter s (i + (Utf8.decode s i).2))) := Lib.hid ((hb3.block _ Hw2.out).trans Hit.out)
        have Hb3 := Lib.hid (bel_trans Hbi.out hb3)
        have Hp3 := Lib.hid (iterPos_of Hk3.out)
        clear hb3
        rw [Hy.out]
        cases y
        all_goals
          go_wp2_with fail
          go_roundw
          case rel => exact ⟨i + (Utf8.decode s i).2, _, false, hl, rfl, rfl, by rw [decide_eq_false (by omega)], fun h => absurd h (by omega), fun _ => Hf.out, Hk3.out, Hb3.out⟩
          case measure => rw [Hp3.out, Hp.out]; omega
      | false =>
        have h0 : ¬ i = 0 := of_decide_eq_false HZ.out.symm
        have Hx : Hid (nameB s = (x && goes s i)) := Lib.hid (Hx1.out (by omega))
        clear Hx0 Hx1
        cases x with
        | false =>
          go_wp2_with fail
          generalize wr.iterAt w0.heap.size s (i + (Utf8.decode s i).2) = w2 at *
          have Hp3 := Lib.hid (iterPos_of Hit.out)
          go_roundw
          case rel => exact ⟨i + (Utf8.decode s i).2, _, false, hl, rfl, rfl, by rw [decide_eq_false (by omega)], fun h => absurd h (by omega), fun _ => Hx.out, Hit.out, Hbi.out⟩
          case measure => rw [Hp3.out, Hp.out]; omega
        | true =>
          go_wp2_with fail
          generalize wr.iterAt w0.heap.size s (i + (Utf8.decode s i).2) = w2 at *
          refine (Uni.part_any _ _).mono ?_
          rintro e w3 ⟨rfl, hb3⟩
          have Hk3 : Hid (w3.heap[w0.heap.size]? = some (.stringIter s (i + (Utf8.decode s i).2))) := Lib.hid ((hb3.block _ Hw2.out).trans Hit.out)
          have Hb3 := Lib.hid (bel_trans Hbi.out hb3)
          have Hp3 := Lib.hid (iterPos_of Hk3.out)
          clear hb3
          obtain ⟨y, hy⟩ : ∃ y, partB ((Utf8.decode s i).1 : Int) = y := ⟨_, rfl⟩
          have Hf : Hid (nameB s = (y && goes s (i + (Utf8.decode s i).2))) := Lib.hid (by
            rw [Hx.out, ← hy, goes_step s i Hlt.out]; rfl)
          rw [hy]
          clear hy
          cases y
          all_goals
            go_wp2_with fail
            go_roundw
            case rel => exact ⟨i + (Utf8.decode s i).2, _, false, hl, rfl, rfl, by rw [decide_eq_false (by omega)], fun h => absurd h (by omega), fun _ => Hf.out, Hk3.out, Hb3.out⟩
            case measure => rw [Hp3.out, Hp.out]; omega
    · have hn := fun ty => Lib.run_next_end_at (P := Try.prog) wr w0.heap.size s i ty hk hlt
      clear hk
      have Hf : Hid (nameB s = x) := Lib.hid (by
        by_cases h0 : i = 0
        · rw [Hx0.out h0, HE.out, decide_eq_false (by omega)]; exact name_empty s (by omega)
        · rw [Hx1.out (by omega), goes_end s i hlt, Bool.and_true])
      have Hrn : Hid (resB s true = true → x = true) := Lib.hid (fun h => by rw [← Hf.out]; exact res_name s h)
      have Hrm := Lib.hid (res_more s)
      have Hbad : Hid (badCode s ≠ 0 → x = false) := Lib.hid (fun h => by rw [← Hf.out]; exact name_bad s h)
      obtain ⟨r1, hr1⟩ : ∃ r, resB s true = r := ⟨_, rfl⟩
      obtain ⟨r0, hr0⟩ : ∃ r, resB s false = r := ⟨_, rfl⟩
      obtain ⟨c, hc⟩ : ∃ c, badCode s = c := ⟨_, rfl⟩
      rw [hr1] at Hrn Hrm
      rw [hr0] at Hrm
      rw [hc] at Hbad
      have R1 := Lib.hid hr1; have R0 := Lib.hid hr0; have HC := Lib.hid hc
      clear hr1 hr0 hc Hx0 Hx1
      cases r1 with
      | true =>
        cases x with
        | false => exact absurd (Hrn.out rfl) (by decide)
        | true =>
          clear Hrn
          go_wp2_with fail
          refine (reserved_any s true wr).mono ?_
          rintro e v0 ⟨rfl, rfl⟩
          rw [R1.out]
          go_wp2_with fail
          refine (name_any s wr hm).mono ?_
          rintro e v0 ⟨rfl, hv0⟩
          rw [Hf.out]
          have HV0 := Lib.hid (bel_trans Hw.out hv0)
          clear hv0
          go_wp2_with fail
          refine (reserved_any s false v0).mono ?_
          rintro e v1 ⟨rfl, rfl⟩
          rw [R0.out]
          cases r0 with
          | true =>
            go_wp2_with fail
            refine (reserved_any s true v0).mono ?_
            rintro e v1 ⟨rfl, rfl⟩
            rw [R1.out]
            go_wp2_with fail
            refine (Uni.valid_any s v0 hm).mono ?_
            rintro e v1 ⟨rfl, hv1⟩
            rw [HC.out]
            have HV1 := Lib.hid (bel_trans HV0.out hv1)
            clear hv1
            go_wp2_with fail
            refine (Uni.num_any _ v1).mono ?_
            rintro e v2 ⟨rfl, rfl⟩
            by_cases e : c = 0
            · subst e
              go_wp2_with fail
              refine (name_any s v1 hm).mono ?_
              rintro e v2 ⟨rfl, hv2⟩
              rw [Hf.out]
              go_wp2_with fail
              go_ret
              exact ⟨rfl, bel_trans HV1.out hv2⟩
            · exact absurd (Hbad.out e) (by decide)
          | false =>
            go_wp2_with fail
            refine (Uni.valid_any s v0 hm).mono ?_
            rintro e v1 ⟨rfl, hv1⟩
            rw [HC.out]
            have HV1 := Lib.hid (bel_trans HV0.out hv1)
            clear hv1
            go_wp2_with fail
            refine (Uni.num_any _ v1).mono ?_
            rintro e v2 ⟨rfl, rfl⟩
            by_cases e : c = 0
            · subst e
              go_wp2_with fail
              refine (name_any s v1 hm).mono ?_
              rintro e v2 ⟨rfl, hv2⟩
              rw [Hf.out]
              go_wp2_with fail
              go_ret
              exact ⟨rfl, bel_trans HV1.out hv2⟩
            · exact absurd (Hbad.out e) (by decide)
      | false =>
        cases r0 with
        | true => exact absurd (Hrm.out rfl) (by decide)
        | false =>
          clear Hrn Hrm
          go_wp2_with fail
          refine (reserved_any s true wr).mono ?_
          rintro e v0 ⟨rfl, rfl⟩
          rw [R1.out]
          go_wp2_with fail
          refine (reserved_any s false wr).mono ?_
          rintro e v0 ⟨rfl, rfl⟩
          rw [R0.out]
          cases x with
          | true =>
            go_wp2_with fail
            refine (Uni.valid_any s wr hm).mono ?_
            rintro e v1 ⟨rfl, hv1⟩
            rw [HC.out]
            have HV1 := Lib.hid (bel_trans Hw.out hv1)
            clear hv1
            go_wp2_with fail
            refine (Uni.num_any _ v1).mono ?_
            rintro e v2 ⟨rfl, rfl⟩
            by_cases e : c = 0
            · subst e
              go_wp2_with fail
              refine (name_any s v1 hm).mono ?_
              rintro e v2 ⟨rfl, hv2⟩
              rw [Hf.out]
              go_wp2_with fail
              go_ret
              exact ⟨rfl, bel_trans HV1.out hv2⟩
            · exact absurd (Hbad.out e) (by decide)
          | false =>
            go_wp2_with fail
            refine (Uni.valid_any s wr hm).mono ?_
            rintro e v1 ⟨rfl, hv1⟩
            rw [HC.out]
            have HV1 := Lib.hid (bel_trans Hw.out hv1)
            clear hv1
            go_wp2_with fail
            refine (Uni.num_any _ v1).mono ?_
            rintro e v2 ⟨rfl, rfl⟩
            by_cases e : c = 0
            · subst e
              go_wp2_with fail
              refine (name_any s v1 hm).mono ?_
              rintro e v2 ⟨rfl, hv2⟩
              rw [Hf.out]
              go_wp2_with fail
              go_ret
              exact ⟨rfl, bel_trans HV1.out hv2⟩
            · have bc : ((c : Int) == 0) = false := beq_eq_false_iff_ne.2 (by omega)
              clear e
              go_wp2_with fail
              refine (name_any s v1 hm).mono ?_
              rintro e v2 ⟨rfl, hv2⟩
              rw [Hf.out]
              go_wp2_with fail
              go_ret
              exact ⟨rfl, bel_trans HV1.out hv2⟩

end Word
end Go.Proofs.Ytggibhlmnfodaaa
