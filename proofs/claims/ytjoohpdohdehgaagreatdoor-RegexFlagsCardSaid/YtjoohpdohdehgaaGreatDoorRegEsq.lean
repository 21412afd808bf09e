/-
  Properties; what may be escaped; what stands behind a backslash.
-/
import Derived.Test.YtjoohpdohdehgaaGreatDoorRegEsc
namespace Go.Proofs.YtjoohpdohdehgaaGreatDoor
namespace Reg
open Go.RowKit
open Str (lenL runeL hexV)

theorem known_held (K : Box) (m : List UInt8) (u : World) (d : List UInt8) (t : ByteArray) (ht : t = Str.ofL d) (hs : d.length ≤ 4096) (wx : World) (h : Rd K m wx) (hb : Bar K.b u wx) :
    Calls Tryz.prog 109 #[.string t] wx fun e w' => e = .returned (.bool (knownB d)) ∧ w'.cell? ⟨K.b, 0, none⟩ = some (.string K.s) ∧ w'.cell? ⟨K.b, 1, none⟩ = some (.int .i64 (K.at m)) ∧ Rd K m w' ∧ Bar K.b u w' := by
  subst ht
  exact (known_any d wx hs).mono fun _ _ ⟨he, hw⟩ => ⟨he, (h.on hw).cell0, (h.on hw).cell1, h.on hw, hb.on hw⟩

set_option maxHeartbeats 2000000 in
set_option maxRecDepth 20000 in
theorem property_any (K : Box) (l : List UInt8) (w : World) (h : Rd K l w) :
    Calls Tryz.prog 97 #[K.ptr] w (PostN K w (propP l)) := by
  have hs := h.small
  have H := Lib.hid h; clear h
  obtain ⟨R, hR⟩ : ∃ R, propP l = R := ⟨_, rfl⟩
  have HN := Lib.hid hR
  rw [hR]; clear hR
  go_enter Tryz.func97, Tryz.ntmps97
  go_wp2_with fail
  refine (expect_any K l 123 (by decide) _ H.out).mono ?_
  intro e w1 hp
  cases hc : expP 123 l with
  | error x =>
    rw [hc] at hp
    obtain ⟨rfl, hb⟩ := hp
    have He : Hid (R = .error x) := Lib.hid (by rw [← HN.out, propP, hc])
    clear hc
    unfold thrown
    go_wp2_with fail
    rw [He.out]
    exact ⟨rfl, rfl, hb⟩
  | ok l1 =>
    rw [hc] at hp
    obtain ⟨rfl, hr, hb⟩ := hp
    have HN2 : Hid (R = match tillP anyP 125 (l1.length + 1) l1 with
      | .error e => .error e
      | .ok r => if knownB (l1.take (l1.length - r.length)) = true then .ok r.tail else .error (l1.length, 404)) := Lib.hid (by rw [← HN.out, propP, hc]; rfl)
    have HR0 := Lib.hid hr
    have g1 := hr.cell1
    have hle := at_le K l1
    clear hc hr
    go_wp2_with fail
    go_loopg [9] l1.length (fun k _ wr => ∃ d m n, k = m.length ∧ l1 = d ++ m ∧ m.length < n ∧ tillP anyP 125 (l1.length + 1) l1 = tillP anyP 125 n m ∧ Rd K m wr ∧ Bar K.b w wr)
    case atStart => exact ⟨[], l1, _, rfl, rfl, Nat.lt_succ_self _, rfl, HR0.out, hb⟩
    case round =>
      obtain ⟨d, m, n, hk, hl, hn, ht, hrd, hbar⟩ := hrel
      obtain ⟨n, rfl⟩ : ∃ n', n = n' + 1 := ⟨n - 1, by omega⟩
      have HK := Lib.hid hk; have HL := Lib.hid hl; have HT := Lib.hid ht; have HR := Lib.hid hrd; have Hn := Lib.hid hn
      clear hk hl ht hrd hn g1
      go_wp2_with fail
      refine (peek_any K m _ HR.out).mono ?_
      rintro e w2 ⟨rfl, hr1, hb1⟩
      have HR1 := Lib.hid hr1; clear hr1
      by_cases hq : hd m = 125
      · have eb : (hd m != 125) = false := by rw [hq]; rfl
        obtain ⟨x, t, hm, hx⟩ := hd_cons hq (by decide)
        subst hm
        have He : Hid (R = if knownB d = true then .ok t else .error (l1.length, 404)) := Lib.hid (by rw [HN2.out, HT.out, tillP, if_pos hq]; simp only [take_left HL.out]; rfl)
        have ham := at_mid HR0.out.len HL.out
        have HE := Lib.hid (extract_mid HR0.out.suf HL.out)
        have hdl : d.length ≤ 4096 := by have e := congrArg List.length HL.out; have := HR0.out.len; rw [List.length_append] at e; omega
        obtain ⟨ham1, ham2, -⟩ := ham
        have hi1 : ((K.at l1 : Nat) : Int) ≤ (K.at (x :: t) : Nat) := by omega
        have Ht := Lib.hid (at_tail K x t HR1.out.len)
        have CC := Lib.hid (known_held K (x :: t) w d _ HE.out hdl)
        have h0 := HR1.out.cell0
        have h1 := HR1.out.cell1
        have hK : Rd K (x :: t) w2 := HR1.out
        have hB : Bar K.b w w2 := hbar.on hb1
        have CD : ∀ wx n, Rd K (x :: t) wx → Rd K (x :: t) (wx.drewN n) := fun wx n hx => hx.drewN n
        have CE : ∀ wx n, Bar K.b w wx → Bar K.b w (wx.drewN n) := fun wx n hx => hx.drewN n
        clear hq hx hbar hb1 hdl
        go_upto_region 4 with fail
        go_cut [25] from 14 to 24 (fun a wx => a = .bool (!knownB d) ∧ Rd K (x :: t) wx ∧ Bar K.b w wx)
        case first =>
          go_region_held3 (fun wx => wx.cell? ⟨K.b, 0, none⟩ = some (.string K.s) ∧ wx.cell? ⟨K.b, 1, none⟩ = some (.int .i64 (K.at (x :: t))) ∧ Rd K (x :: t) wx ∧ Bar K.b w wx)
            (first | exact ⟨h0, h1, hK, hB⟩ | exact ⟨h0, h1, CD _ 1 hK, CE _ 1 hB⟩ | assumption)
            (first
            | (go_at_call 109; refine (CC.out _ ?_ ?_).mono ?_; (first | exact hK | assumption | exact CD _ 1 hK); (first | exact hB | assumption | exact CE _ 1 hB); rintro e wx ⟨rfl, h0, h1, hK, hB⟩))
          all_goals (go_wp2_with fail; go_meet; exact ⟨rfl, hK, hB⟩)
        case rest =>
          obtain ⟨rfl, hx, hxb⟩ := hcut
          have HX2 := Lib.hid hx
          clear h0 h1 hK hx CD CE CC hB
          cases hkn : knownB d with
          | true =>
            have HV : Hid (R = .ok t) := Lib.hid (by rw [He.out, if_pos hkn])
            clear hkn
            have g1 := HX2.out.cell1
            have gf := HX2.out.frozen 1
            go_wp2_with fail
            go_end0
            rw [HV.out]
            exact ⟨rfl, HX2.out.to (tail_suf _) Ht.out, hxb.set _ _ _⟩
          | false =>
            have HV : Hid (R = .error (l1.length, 404)) := Lib.hid (by rw [He.out, if_neg (by rw [hkn]; decide)])
            clear hkn
            go_wp2_with fail
            refine (throw_any _ _ _).mono ?_
            rintro e w3 ⟨rfl, rfl⟩
            unfold thrown
            go_wp2_with fail
            rw [HV.out]
            exact ⟨rfl, rfl, hxb⟩
      · have eb : (hd m != 125) = true := by rw [bne_iff_ne]; exact hq
        go_wp2_with fail
        refine (character_any K m _ HR1.out).mono ?_
        intro e w3 hp
        cases hc : chrP anyP m with
        | error x =>
          rw [hc] at hp
          obtain ⟨rfl, hb3⟩ := hp
          have He : Hid (R = .error x) := Lib.hid (by rw [HN2.out, HT.out, tillP, if_neg hq, hc])
          clear hc hq
          unfold thrown
          go_wp2_with fail
          rw [He.out]
          exact ⟨rfl, rfl, (hbar.on hb1).trans hb3⟩
        | ok q =>
          rw [hc] at hp
          obtain ⟨rfl, hr3, hb3⟩ := hp
          obtain ⟨c', hcm, hcn⟩ := chr_ok hc
          have HR3 := Lib.hid hr3; have HC := Lib.hid hcm; have HCN := Lib.hid hcn
          have He : Hid (tillP anyP 125 (l1.length + 1) l1 = tillP anyP 125 n q.2) := Lib.hid (by rw [HT.out, tillP, if_neg hq, hc])
          clear hc hq hr3 hcm hcn
          have hlen : Hid (q.2.length < m.length) := Lib.hid (by
            have := Str.pos_of_ne HCN.out
            have e := congrArg List.length HC.out
            rw [List.length_append] at e; omega)
          go_wp2_with fail
          go_roundg q.2.length
          case measure => rw [HK.out]; exact hlen.out
          case rel => exact ⟨d ++ c', q.2, n, rfl, by rw [HL.out, List.append_assoc, ← HC.out], by have := hlen.out; have := Hn.out; omega, He.out, HR3.out, (hbar.on hb1).trans hb3⟩

set_option maxHeartbeats 400000 in
theorem escapable_any (K : Box) (l : List UInt8) (c : Nat) (hc : c ≤ 1114111) (w : World) (h : Rd K l w) :
    Calls Tryz.prog 98 #[K.ptr, .int .i64 c] w fun e w' => e = .returned (.bool (escapB K.u c)) ∧ Below w.heap.size w w' := by
  have h2 := h.cell2
  clear h
  have hc2 : (c : Int) < 2147483648 := by omega
  cases hu : K.u with
  | true =>
    rw [hu] at h2
    have C := Lib.hid (contains_any (c : Int) (by omega) (by omega) w)
    have HV : Hid (escapB true c = synB c) := Lib.hid rfl
    clear hu
    go_enter Tryz.func98, Tryz.ntmps98
    go_wp2_with fail
    refine C.out.mono ?_
    rintro e w1 ⟨rfl, hb⟩
    go_wp2_with fail
    go_ret
    exact ⟨Uni.ret_bool HV.out.symm, hb⟩
  | false =>
    rw [hu] at h2
    have C := Lib.hid (Uni.part_any (c : Int) w)
    have HV : Hid (escapB false c = !Uni.partB c) := Lib.hid rfl
    clear hu
    go_enter Tryz.func98, Tryz.ntmps98
    go_wp2_with fail
    refine C.out.mono ?_
    rintro e w1 ⟨rfl, hb⟩
    go_wp2_with fail
    go_ret
    exact ⟨Uni.ret_bool HV.out.symm, hb⟩

set_option maxHeartbeats 400000 in
theorem control_any (c : Int) (v : Int) (h : (c = 102 ∧ v = 12) ∨ (c = 110 ∧ v = 10) ∨ (c = 114 ∧ v = 13) ∨ (c = 116 ∧ v = 9) ∨ (c = 118 ∧ v = 11)) (w : World) :
    Calls Tryz.prog 93 #[.int .i64 c] w fun e w' => e = .returned (.int .i64 v) ∧ w = w' := by
  rcases h with ⟨rfl, rfl⟩ | ⟨rfl, rfl⟩ | ⟨rfl, rfl⟩ | ⟨rfl, rfl⟩ | ⟨rfl, rfl⟩
  all_goals
    go_enter Tryz.func93, Tryz.ntmps93
    go_wp2_with fail
    go_ret
    exact ⟨rfl, rfl⟩

theorem let_small (c : Int) (h : letB c = true) : c < 128 := by have := of_decide_eq_true h; omega
theorem chr_le {p : Int → Bool} {l : List UInt8} {r : Nat × List UInt8} (h : chrP p l = .ok r) : r.1 ≤ 1114111 := by
  unfold chrP at h
  by_cases e : lenL l = 0 ∨ Uni.endsB (runeL l) = true ∨ p (runeL l) = false
  · rw [if_pos e] at h; cases h
  · rw [if_neg e] at h
    cases h
    exact Str.runeL_le _ (fun x => e (Or.inl x))

set_option maxHeartbeats 8000000 in
set_option maxRecDepth 20000 in
theorem escape_any (K : Box) (l : List UInt8) (w : World) (h : Rd K l w) :
    Calls Tryz.prog 78 #[K.ptr] w (Post K w (fun v : Int => .int .i64 v) (escP K.u l)) := by
  have h1 := h.cell1
  have H := Lib.hid h; clear h
  obtain ⟨R, hR⟩ : ∃ R, escP K.u l = R := ⟨_, rfl⟩
  have HN0 := Lib.hid hR
  rw [hR]; clear hR
  go_enter Tryz.func78, Tryz.ntmps78
  go_wp2_with fail
  refine (character_any K l _ H.out).mono ?_
  intro e w1 hp
  cases hc : chrP anyP l with
  | error x =>
    rw [hc] at hp
    obtain ⟨rfl, hb⟩ := hp
    have He : Hid (R = .error x) := Lib.hid (by rw [← HN0.out, escP, hc])
    clear hc
    unfold thrown
    go_wp2_with fail
    rw [He.out]
    exact ⟨rfl, rfl, hb⟩
  | ok r =>
    rw [hc] at hp
    obtain ⟨rfl, hr, hb⟩ := hp
    have hc9 := chr_le hc
    have HN1 : Hid (R = escQ K.u l r.1 r.2) := Lib.hid (by rw [← HN0.out, escP, hc])
    clear hc HN0
    obtain ⟨c, l1⟩ := r
    have HN : Hid (R = escQ K.u l c l1) := HN1
    have HR1 : Hid (Rd K l1 w1) := Lib.hid hr
    clear HN1 hr h1
    replace hc9 : c ≤ 1114111 := hc9
    by_cases e100 : c = 100
    · subst e100
      have HV : Hid (R = .ok (-1, l1)) := Lib.hid (by rw [HN.out]; rfl)
      go_wp2_with fail
      go_ret
      rw [HV.out]
      exact ⟨rfl, HR1.out, hb⟩
    have b100 : ((c : Int) == 100) = false := beq_eq_false_iff_ne.2 (by omega)
    by_cases e68 : c = 68
    · subst e68
      have HV : Hid (R = .ok (-1, l1)) := Lib.hid (by rw [HN.out]; rfl)
      go_wp2_with fail
      go_ret
      rw [HV.out]
      exact ⟨rfl, HR1.out, hb⟩
    have b68 : ((c : Int) == 68) = false := beq_eq_false_iff_ne.2 (by omega)
    by_cases e115 : c = 115
    · subst e115
      have HV : Hid (R = .ok (-1, l1)) := Lib.hid (by rw [HN.out]; rfl)
      go_wp2_with fail
      go_ret
      rw [HV.out]
      exact ⟨rfl, HR1.out, hb⟩
    have b115 : ((c : Int) == 115) = false := beq_eq_false_iff_ne.2 (by omega)
    by_cases e83 : c = 83
    · subst e83
      have HV : Hid (R = .ok (-1, l1)) := Lib.hid (by rw [HN.out]; rfl)
      go_wp2_with fail
      go_ret
      rw [HV.out]
      exact ⟨rfl, HR1.out, hb⟩
    have b83 : ((c : Int) == 83) = false := beq_eq_false_iff_ne.2 (by omega)
    by_cases e119 : c = 119
    · subst e119
      have HV : Hid (R = .ok (-1, l1)) := Lib.hid (by rw [HN.out]; rfl)
      go_wp2_with fail
      go_ret
      rw [HV.out]
      exact ⟨rfl, HR1.out, hb⟩
    have b119 : ((c : Int) == 119) = false := beq_eq_false_iff_ne.2 (by omega)
    by_cases e87 : c = 87
    · subst e87
      have HV : Hid (R = .ok (-1, l1)) := Lib.hid (by rw [HN.out]; rfl)
      go_wp2_with fail
      go_ret
      rw [HV.out]
      exact ⟨rfl, HR1.out, hb⟩
    have b87 : ((c : Int) == 87) = false := beq_eq_false_iff_ne.2 (by omega)
    by_cases e102 : c = 102
    · subst e102
      have HV : Hid (R = .ok (12, l1)) := Lib.hid (by rw [HN.out]; rfl)
      go_wp2_with fail
      refine (control_any 102 12 (by decide) _).mono ?_
      rintro e w2 ⟨rfl, rfl⟩
      go_wp2_with fail
      go_ret
      rw [HV.out]
      exact ⟨rfl, HR1.out, hb⟩
    have b102 : ((c : Int) == 102) = false := beq_eq_false_iff_ne.2 (by omega)
    by_cases e110 : c = 110
    · subst e110
      have HV : Hid (R = .ok (10, l1)) := Lib.hid (by rw [HN.out]; rfl)
      go_wp2_with fail
      refine (control_any 110 10 (by decide) _).mono ?_
      rintro e w2 ⟨rfl, rfl⟩
      go_wp2_with fail
      go_ret
      rw [HV.out]
      exact ⟨rfl, HR1.out, hb⟩
    have b110 : ((c : Int) == 110) = false := beq_eq_false_iff_ne.2 (by omega)
    by_cases e114 : c = 114
    · subst e114
      have HV : Hid (R = .ok (13, l1)) := Lib.hid (by rw [HN.out]; rfl)
      go_wp2_with fail
      refine (control_any 114 13 (by decide) _).mono ?_
      rintro e w2 ⟨rfl, rfl⟩
      go_wp2_with fail
      go_ret
      rw [HV.out]
      exact ⟨rfl, HR1.out, hb⟩
    have b114 : ((c : Int) == 114) = false := beq_eq_false_iff_ne.2 (by omega)
    by_cases e116 : c = 116
    · subst e116
      have HV : Hid (R = .ok (9, l1)) := Lib.hid (by rw [HN.out]; rfl)
      go_wp2_with fail
      refine (control_any 116 9 (by decide) _).mono ?_
      rintro e w2 ⟨rfl, rfl⟩
      go_wp2_with fail
      go_ret
      rw [HV.out]
      exact ⟨rfl, HR1.out, hb⟩
    have b116 : ((c : Int) == 116) = false := beq_eq_false_iff_ne.2 (by omega)
    by_cases e118 : c = 118
    · subst e118
      have HV : Hid (R = .ok (11, l1)) := Lib.hid (by rw [HN.out]; rfl)
      go_wp2_with fail
      refine (control_any 118 11 (by decide) _).mono ?_
      rintro e w2 ⟨rfl, rfl⟩
      go_wp2_with fail
      go_ret
      rw [HV.out]
      exact ⟨rfl, HR1.out, hb⟩
    have b118 : ((c : Int) == 118) = false := beq_eq_false_iff_ne.2 (by omega)
    by_cases e99 : c = 99
    · subst e99
      have HN2 : Hid (R = match chrP letB l1 with
        | .error e => .error e
        | .ok q => .ok ((q.1 % 32 : Nat), q.2)) := Lib.hid (by rw [HN.out]; rfl)
      clear HN
      go_wp2_with fail
      refine (character_letter K l1 _ HR1.out).mono ?_
      intro e w2 hp
      cases hc : chrP letB l1 with
      | error x =>
        rw [hc] at hp
        obtain ⟨rfl, hb2⟩ := hp
        have HV : Hid (R = .error x) := Lib.hid (by rw [HN2.out, hc])
        clear hc
        unfold thrown
        go_wp2_with fail
        rw [HV.out]
        exact ⟨rfl, rfl, hb.trans hb2⟩
      | ok q =>
        rw [hc] at hp
        obtain ⟨rfl, hr2, hb2⟩ := hp
        obtain ⟨y, -, hy, -⟩ := chr_ascii let_small hc
        have hq : q.1 < 256 := by have := y.toNat_lt; omega
        have HV : Hid (R = .ok ((q.1 % 32 : Nat), q.2)) := Lib.hid (by rw [HN2.out, hc])
        have HM := Lib.hid (Uni.mask31 q.1 hq)
        have HR2 := Lib.hid hr2
        clear hc hr2 hy
        go_wp2_with fail
        go_ret
        rw [HV.out]
        exact ⟨Uni.ret_int HM.out, HR2.out, hb.trans hb2⟩
    have b99 : ((c : Int) == 99) = false := beq_eq_false_iff_ne.2 (by omega)
    by_cases e48 : c = 48
    · subst e48
      have HN2 : Hid (R = if digB (hd l1) = true then wrong l1 else .ok (0, l1)) := Lib.hid (by rw [HN.out]; rfl)
      clear HN
      go_wp2_with fail
      refine (peek_any K l1 _ HR1.out).mono ?_
      rintro e w2 ⟨rfl, hr2, hb2⟩
      have HR2 := Lib.hid hr2; clear hr2
      go_wp2_with fail
      refine (digit_any _ _).mono ?_
      rintro e w3 ⟨rfl, rfl⟩
      cases hD : digB (hd l1) with
      | true =>
        have HV : Hid (R = wrong l1) := Lib.hid (by rw [HN2.out, if_pos hD])
        clear hD
        go_wp2_with fail
        refine (refuse_any K l1 _ HR2.out).mono ?_
        rintro e w4 ⟨rfl, rfl⟩
        unfold thrown
        go_wp2_with fail
        rw [HV.out]
        exact ⟨rfl, rfl, hb.on hb2⟩
      | false =>
        have HV : Hid (R = .ok (0, l1)) := Lib.hid (by rw [HN2.out, if_neg (by rw [hD]; decide)])
        clear hD
        go_wp2_with fail
        go_ret
        rw [HV.out]
        exact ⟨rfl, HR2.out, hb.on hb2⟩
    have b48 : ((c : Int) == 48) = false := beq_eq_false_iff_ne.2 (by omega)
    by_cases e120 : c = 120
    · subst e120
      have HN2 : Hid (R = match hexP 2 0 l1 with
        | .error e => .error e
        | .ok q => .ok (q.1, q.2)) := Lib.hid (by rw [HN.out]; rfl)
      clear HN
      go_wp2_with fail
      refine (digits_any K l1 2 (by decide) (by decide) _ HR1.out).mono ?_
      intro e w9 hp
      cases hc : hexP 2 0 l1 with
      | error x =>
        rw [hc] at hp
        obtain ⟨rfl, hb9⟩ := hp
        have HV : Hid (R = .error x) := Lib.hid (by rw [HN2.out, hc])
        clear hc
        unfold thrown
        go_wp2_with fail
        rw [HV.out]
        exact ⟨rfl, rfl, (hb).trans hb9⟩
      | ok q =>
        rw [hc] at hp
        obtain ⟨rfl, hr9, hb9⟩ := hp
        have HV : Hid (R = .ok ((q.1 : Nat), q.2)) := Lib.hid (by rw [HN2.out, hc])
        have HR9 := Lib.hid hr9
        clear hc hr9
        go_wp2_with fail
        go_ret
        rw [HV.out]
        exact ⟨rfl, HR9.out, (hb).trans hb9⟩
    have b120 : ((c : Int) == 120) = false := beq_eq_false_iff_ne.2 (by omega)
    by_cases e117 : c = 117
    · subst e117
      have HN2 : Hid (R = match (if K.u = true ∧ hd l1 = 123 then braP l1.tail else hexP 4 0 l1) with
        | .error e => .error e
        | .ok q => .ok (q.1, q.2)) := Lib.hid (by rw [HN.out]; rfl)
      clear HN
      cases hu : K.u with
      | false =>
        have g2 : w1.cell? ⟨K.b, 2, none⟩ = some (.bool false) := by rw [← hu]; exact HR1.out.cell2
        have HN3 : Hid (R = match hexP 4 0 l1 with
          | .error e => .error e
          | .ok q => .ok (q.1, q.2)) := Lib.hid (by rw [HN2.out, if_neg (fun x => by rw [hu] at x; exact absurd x.1 (by decide))])
        clear hu
        go_wp2_with fail
        refine (digits_any K l1 4 (by decide) (by decide) _ HR1.out).mono ?_
        intro e w9 hp
        cases hc : hexP 4 0 l1 with
        | error x =>
          rw [hc] at hp
          obtain ⟨rfl, hb9⟩ := hp
          have HV : Hid (R = .error x) := Lib.hid (by rw [HN3.out, hc])
          clear hc
          unfold thrown
          go_wp2_with fail
          rw [HV.out]
          exact ⟨rfl, rfl, (hb).trans hb9⟩
        | ok q =>
          rw [hc] at hp
          obtain ⟨rfl, hr9, hb9⟩ := hp
          have HV : Hid (R = .ok ((q.1 : Nat), q.2)) := Lib.hid (by rw [HN3.out, hc])
          have HR9 := Lib.hid hr9
          clear hc hr9
          go_wp2_with fail
          go_ret
          rw [HV.out]
          exact ⟨rfl, HR9.out, (hb).trans hb9⟩
      | true =>
        have g2 : w1.cell? ⟨K.b, 2, none⟩ = some (.bool true) := by rw [← hu]; exact HR1.out.cell2
        by_cases hq : hd l1 = 123
        · have HN3 : Hid (R = match braP l1.tail with
            | .error e => .error e
            | .ok q => .ok (q.1, q.2)) := Lib.hid (by rw [HN2.out, if_pos ⟨hu, hq⟩])
          have eb : (hd l1 == 123) = true := beq_iff_eq.2 hq
          have HT := Lib.hid (tak_yes hq)
          clear hu hq
          go_wp2_with fail
          refine (take_any K l1 123 (by decide) _ HR1.out).mono ?_
          rintro e w2 ⟨rfl, hr2, hb2⟩
          rw [HT.out] at hr2
          have HR2 := Lib.hid hr2; clear hr2
          go_wp2_with fail
          refine (braced_any K l1.tail _ HR2.out).mono ?_
          intro e w9 hp
          cases hc : braP l1.tail with
          | error x =>
            rw [hc] at hp
            obtain ⟨rfl, hb9⟩ := hp
            have HV : Hid (R = .error x) := Lib.hid (by rw [HN3.out, hc])
            clear hc
            unfold thrown
            go_wp2_with fail
            rw [HV.out]
            exact ⟨rfl, rfl, (hb.trans hb2).trans hb9⟩
          | ok q =>
            rw [hc] at hp
            obtain ⟨rfl, hr9, hb9⟩ := hp
            have HV : Hid (R = .ok ((q.1 : Nat), q.2)) := Lib.hid (by rw [HN3.out, hc])
            have HR9 := Lib.hid hr9
            clear hc hr9
            go_wp2_with fail
            go_ret
            rw [HV.out]
            exact ⟨rfl, HR9.out, (hb.trans hb2).trans hb9⟩
        · have HN3 : Hid (R = match hexP 4 0 l1 with
            | .error e => .error e
            | .ok q => .ok (q.1, q.2)) := Lib.hid (by rw [HN2.out, if_neg (fun x => hq x.2)])
          have eb : (hd l1 == 123) = false := beq_eq_false_iff_ne.2 hq
          have HT := Lib.hid (tak_no hq)
          clear hu hq
          go_wp2_with fail
          refine (take_any K l1 123 (by decide) _ HR1.out).mono ?_
          rintro e w2 ⟨rfl, hr2, hb2⟩
          rw [HT.out] at hr2
          have HR2 := Lib.hid hr2; clear hr2
          go_wp2_with fail
          refine (digits_any K l1 4 (by decide) (by decide) _ HR2.out).mono ?_
          intro e w9 hp
          cases hc : hexP 4 0 l1 with
          | error x =>
            rw [hc] at hp
            obtain ⟨rfl, hb9⟩ := hp
            have HV : Hid (R = .error x) := Lib.hid (by rw [HN3.out, hc])
            clear hc
            unfold thrown
            go_wp2_with fail
            rw [HV.out]
            exact ⟨rfl, rfl, (hb.trans hb2).trans hb9⟩
          | ok q =>
            rw [hc] at hp
            obtain ⟨rfl, hr9, hb9⟩ := hp
            have HV : Hid (R = .ok ((q.1 : Nat), q.2)) := Lib.hid (by rw [HN3.out, hc])
            have HR9 := Lib.hid hr9
            clear hc hr9
            go_wp2_with fail
            go_ret
            rw [HV.out]
            exact ⟨rfl, HR9.out, (hb.trans hb2).trans hb9⟩
    have b117 : ((c : Int) == 117) = false := beq_eq_false_iff_ne.2 (by omega)
    have HN2 : Hid (R = if K.u = true ∧ (c = 112 ∨ c = 80) then (match propP l1 with
      | .error e => .error e
      | .ok m => .ok (-1, m)) else if escapB K.u c = true then .ok (c, l1) else wrong l) := Lib.hid (by
        rw [HN.out, escQ, if_neg (by omega), if_neg e102, if_neg e110, if_neg e114, if_neg e116, if_neg e118, if_neg e99, if_neg e48, if_neg e120, if_neg e117]; rfl)
    clear HN e100 e68 e115 e83 e119 e87 e102 e110 e114 e116 e118 e99 e48 e120 e117
    have g1 := HR1.out.cell1
    cases hu : K.u with
    | true =>
      have g2 : w1.cell? ⟨K.b, 2, none⟩ = some (.bool true) := by rw [← hu]; exact HR1.out.cell2
      by_cases e112 : c = 112
      · have HN3 : Hid (R = match propP l1 with
          | .error e => .error e
          | .ok m => .ok (-1, m)) := Lib.hid (by rw [HN2.out, if_pos ⟨hu, Or.inl e112⟩])
        subst e112
        clear hu
        go_wp2_with fail
        refine (property_any K l1 _ HR1.out).mono ?_
        intro e w9 hp
        cases hc : propP l1 with
        | error x =>
          rw [hc] at hp
          obtain ⟨rfl, hb9⟩ := hp
          have HV : Hid (R = .error x) := Lib.hid (by rw [HN3.out, hc])
          clear hc
          unfold thrown
          go_wp2_with fail
          rw [HV.out]
          exact ⟨rfl, rfl, hb.trans hb9⟩
        | ok q =>
          rw [hc] at hp
          obtain ⟨rfl, hr9, hb9⟩ := hp
          have HV : Hid (R = .ok (-1, q)) := Lib.hid (by rw [HN3.out, hc])
          have HR9 := Lib.hid hr9
          clear hc hr9
          go_wp2_with fail
          go_ret
          rw [HV.out]
          exact ⟨rfl, HR9.out, hb.trans hb9⟩
      by_cases e80 : c = 80
      · have HN3 : Hid (R = match propP l1 with
          | .error e => .error e
          | .ok m => .ok (-1, m)) := Lib.hid (by rw [HN2.out, if_pos ⟨hu, Or.inr e80⟩])
        subst e80
        clear hu
        go_wp2_with fail
        refine (property_any K l1 _ HR1.out).mono ?_
        intro e w9 hp
        cases hc : propP l1 with
        | error x =>
          rw [hc] at hp
          obtain ⟨rfl, hb9⟩ := hp
          have HV : Hid (R = .error x) := Lib.hid (by rw [HN3.out, hc])
          clear hc
          unfold thrown
          go_wp2_with fail
          rw [HV.out]
          exact ⟨rfl, rfl, hb.trans hb9⟩
        | ok q =>
          rw [hc] at hp
          obtain ⟨rfl, hr9, hb9⟩ := hp
          have HV : Hid (R = .ok (-1, q)) := Lib.hid (by rw [HN3.out, hc])
          have HR9 := Lib.hid hr9
          clear hc hr9
          go_wp2_with fail
          go_ret
          rw [HV.out]
          exact ⟨rfl, HR9.out, hb.trans hb9⟩
      have HN3 : Hid (R = if escapB K.u c = true then .ok ((c : Int), l1) else wrong l) := Lib.hid (by rw [HN2.out, if_neg (by omega)])
      have b112 : ((c : Int) == 112) = false := beq_eq_false_iff_ne.2 (by omega)
      have b80 : ((c : Int) == 80) = false := beq_eq_false_iff_ne.2 (by omega)
      clear hu e112 e80
      go_wp2_with fail
      refine (escapable_any K l1 c hc9 _ HR1.out).mono ?_
      rintro e w2 ⟨rfl, hb2⟩
      cases hE : escapB K.u c with
      | true =>
        have HV : Hid (R = .ok ((c : Int), l1)) := Lib.hid (by rw [HN3.out, if_pos hE])
        have HR2 := Lib.hid (HR1.out.on hb2)
        clear hE
        go_wp2_with fail
        go_ret
        rw [HV.out]
        exact ⟨rfl, HR2.out, hb.on hb2⟩
      | false =>
        have HV : Hid (R = wrong l) := Lib.hid (by rw [HN3.out, if_neg (by rw [hE]; decide)])
        clear hE
        go_wp2_with fail
        refine (throw_any _ _ _).mono ?_
        rintro e w3 ⟨rfl, rfl⟩
        unfold thrown
        go_wp2_with fail
        rw [HV.out]
        exact ⟨rfl, rfl, hb.on hb2⟩
    | false =>
      have g2 : w1.cell? ⟨K.b, 2, none⟩ = some (.bool false) := by rw [← hu]; exact HR1.out.cell2
      have HN3 : Hid (R = if escapB K.u c = true then .ok ((c : Int), l1) else wrong l) := Lib.hid (by rw [HN2.out, if_neg (fun x => by rw [hu] at x; exact absurd x.1 (by decide))])
      clear hu
      go_wp2_with fail
      refine (escapable_any K l1 c hc9 _ HR1.out).mono ?_
      rintro e w2 ⟨rfl, hb2⟩
      cases hE : escapB K.u c with
      | true =>
        have HV : Hid (R = .ok ((c : Int), l1)) := Lib.hid (by rw [HN3.out, if_pos hE])
        have HR2 := Lib.hid (HR1.out.on hb2)
        clear hE
        go_wp2_with fail
        go_ret
        rw [HV.out]
        exact ⟨rfl, HR2.out, hb.on hb2⟩
      | false =>
        have HV : Hid (R = wrong l) := Lib.hid (by rw [HN3.out, if_neg (by rw [hE]; decide)])
        clear hE
        go_wp2_with fail
        refine (throw_any _ _ _).mono ?_
        rintro e w3 ⟨rfl, rfl⟩
        unfold thrown
        go_wp2_with fail
        rw [HV.out]
        exact ⟨rfl, rfl, hb.on hb2⟩

end Reg
end Go.Proofs.YtjoohpdohdehgaaGreatDoor
