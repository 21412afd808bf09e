/-
  A character is read; the small predicates.
-/
import Derived.Test.YtjoohpdohdehgaaGreatDoorRegRd
import Derived.Deep.RegionHeld3
namespace Go.Proofs.YtjoohpdohdehgaaGreatDoor
namespace Reg
open Go.RowKit
open Str (lenL runeL hexV)

theorem extract_suf (s : ByteArray) (i : Nat) : (s.extract i s.size) = Str.ofL (Str.sufL s i) := by
  apply ByteArray.ext
  apply Array.ext'
  have : (s.extract i s.size).data.toList = s.data.toList.drop i := by
    simp only [ByteArray.data_extract, Array.toList_extract, List.extract_eq_take_drop]
    exact List.take_of_length_le (by simp)
  rw [this]; rfl
theorem decode_ofL (l : List UInt8) : Lib.decodeGo (Str.ofL l) = if l = [] then (65533, 0) else if lenL l = 0 then (65533, 1) else (runeL l, lenL l) := by
  unfold Lib.decodeGo
  rw [Str.ofL_size]
  by_cases h : l = []
  · subst h; rfl
  · rw [if_neg (by intro e; exact h (List.eq_nil_of_length_eq_zero e)), if_neg h, Uni.decode_eq]
    unfold lenL runeL
    rw [if_neg h]

theorem decode_held (K : Box) (l : List UInt8) (u : World) (t : ByteArray) (w : World) (h : Rd K l w) (hb : Bar K.b u w) :
    Calls Tryz.prog 79 #[.string t] w fun e w' => e = .returned (.tuple #[.int .i32 (Lib.decodeGo t).1, .int .i64 (Lib.decodeGo t).2]) ∧ w'.cell? ⟨K.b, 0, none⟩ = some (.string K.s) ∧ w'.cell? ⟨K.b, 1, none⟩ = some (.int .i64 (K.at l)) ∧ Rd K l w' ∧ Bar K.b u w' :=
  (Tryz.utf8_DecodeRuneInString t w h.tabs.at.utf).mono fun _ _ ⟨he, hw⟩ => ⟨he, (h.on hw).cell0, (h.on hw).cell1, h.on hw, hb.on hw⟩

set_option maxHeartbeats 400000 in
theorem anything_any (c : Int) (w : World) :
    Calls Tryz.prog 57 #[.int .i64 c] w fun e w' => e = .returned (.bool (anyP c)) ∧ Below w.heap.size w w' := by
  go_enter Tryz.func57, Tryz.ntmps57
  go_wp2_with fail
  go_ret
  exact ⟨rfl, Below.refl _ _⟩

set_option maxHeartbeats 400000 in
theorem digit_any (c : Int) (w : World) :
    Calls Tryz.prog 75 #[.int .i64 c] w fun e w' => e = .returned (.bool (digB c)) ∧ w = w' := by
  by_cases c1 : 48 ≤ c
  · by_cases c2 : c ≤ 57
    · have Hd : Hid (digB c = true) := Lib.hid (decide_eq_true ⟨c1, c2⟩)
      go_enter Tryz.func75, Tryz.ntmps75
      go_wp2_with fail
      go_ret
      exact ⟨Uni.ret_bool Hd.out.symm, rfl⟩
    · have Hd : Hid (digB c = false) := Lib.hid (decide_eq_false (fun h => c2 h.2))
      go_enter Tryz.func75, Tryz.ntmps75
      go_wp2_with fail
      go_ret
      exact ⟨Uni.ret_bool Hd.out.symm, rfl⟩
  · have Hd : Hid (digB c = false) := Lib.hid (decide_eq_false (fun h => c1 h.1))
    go_enter Tryz.func75, Tryz.ntmps75
    go_wp2_with fail
    go_ret
    exact ⟨Uni.ret_bool Hd.out.symm, rfl⟩

set_option maxHeartbeats 400000 in
theorem letter_any (c : Int) (w : World) :
    Calls Tryz.prog 94 #[.int .i64 c] w fun e w' => e = .returned (.bool (letB c)) ∧ Below w.heap.size w w' := by
  by_cases c1 : 65 ≤ c
  · by_cases c2 : c ≤ 90
    · have Hd : Hid (letB c = true) := Lib.hid (decide_eq_true (by omega))
      go_enter Tryz.func94, Tryz.ntmps94
      go_wp2_with fail
      go_ret
      exact ⟨Uni.ret_bool Hd.out.symm, Below.refl _ _⟩
    · by_cases c3 : 97 ≤ c
      · by_cases c4 : c ≤ 122
        · have Hd : Hid (letB c = true) := Lib.hid (decide_eq_true (by omega))
          go_enter Tryz.func94, Tryz.ntmps94
          go_wp2_with fail
          go_ret
          exact ⟨Uni.ret_bool Hd.out.symm, Below.refl _ _⟩
        · have Hd : Hid (letB c = false) := Lib.hid (decide_eq_false (by omega))
          go_enter Tryz.func94, Tryz.ntmps94
          go_wp2_with fail
          go_ret
          exact ⟨Uni.ret_bool Hd.out.symm, Below.refl _ _⟩
      · have Hd : Hid (letB c = false) := Lib.hid (decide_eq_false (by omega))
        go_enter Tryz.func94, Tryz.ntmps94
        go_wp2_with fail
        go_ret
        exact ⟨Uni.ret_bool Hd.out.symm, Below.refl _ _⟩
  · have c3 : ¬ 97 ≤ c := by omega
    have Hd : Hid (letB c = false) := Lib.hid (decide_eq_false (by omega))
    go_enter Tryz.func94, Tryz.ntmps94
    go_wp2_with fail
    go_ret
    exact ⟨Uni.ret_bool Hd.out.symm, Below.refl _ _⟩

set_option maxHeartbeats 400000 in
theorem hexadecimal_no (c : Int) (w : World) (h0 : ¬ 48 ≤ c ∨ ¬ c ≤ 57) :
    Calls Tryz.prog 107 #[.int .i64 c] w fun e w' => e = .returned (.bool (hexB c)) ∧ w = w' := by
  have hd : digB c = false := decide_eq_false (by omega)
  have Hdig := Lib.hid hd; clear hd
  by_cases c1 : 65 ≤ c
  · by_cases c2 : c ≤ 70
    · have Hd : Hid (hexB c = true) := Lib.hid (decide_eq_true (by omega))
      clear h0
      go_enter Tryz.func107, Tryz.ntmps107
      go_wp2_with fail
      refine (digit_any _ _).mono ?_
      rintro e w1 ⟨rfl, rfl⟩
      rw [Hdig.out]
      go_wp2_with fail
      go_ret
      exact ⟨Uni.ret_bool Hd.out.symm, rfl⟩
    · have b2 : decide (c ≤ 70) = false := decide_eq_false c2
      by_cases c3 : 97 ≤ c
      · by_cases c4 : c ≤ 102
        · have Hd : Hid (hexB c = true) := Lib.hid (decide_eq_true (by omega))
          clear h0
          go_enter Tryz.func107, Tryz.ntmps107
          go_wp2_with fail
          refine (digit_any _ _).mono ?_
          rintro e w1 ⟨rfl, rfl⟩
          rw [Hdig.out]
          go_wp2_with fail
          go_ret
          exact ⟨Uni.ret_bool Hd.out.symm, rfl⟩
        · have b4 : decide (c ≤ 102) = false := decide_eq_false c4
          have Hd : Hid (hexB c = false) := Lib.hid (decide_eq_false (by omega))
          clear h0
          go_enter Tryz.func107, Tryz.ntmps107
          go_wp2_with fail
          refine (digit_any _ _).mono ?_
          rintro e w1 ⟨rfl, rfl⟩
          rw [Hdig.out]
          go_wp2_with fail
          go_ret
          exact ⟨Uni.ret_bool Hd.out.symm, rfl⟩
      · have Hd : Hid (hexB c = false) := Lib.hid (decide_eq_false (by omega))
        clear h0
        go_enter Tryz.func107, Tryz.ntmps107
        go_wp2_with fail
        refine (digit_any _ _).mono ?_
        rintro e w1 ⟨rfl, rfl⟩
        rw [Hdig.out]
        go_wp2_with fail
        go_ret
        exact ⟨Uni.ret_bool Hd.out.symm, rfl⟩
  · have c3 : ¬ 97 ≤ c := by omega
    have Hd : Hid (hexB c = false) := Lib.hid (decide_eq_false (by omega))
    clear h0
    go_enter Tryz.func107, Tryz.ntmps107
    go_wp2_with fail
    refine (digit_any _ _).mono ?_
    rintro e w1 ⟨rfl, rfl⟩
    rw [Hdig.out]
    go_wp2_with fail
    go_ret
    exact ⟨Uni.ret_bool Hd.out.symm, rfl⟩

set_option maxHeartbeats 400000 in
theorem hexadecimal_same (c : Int) (w : World) :
    Calls Tryz.prog 107 #[.int .i64 c] w fun e w' => e = .returned (.bool (hexB c)) ∧ w = w' := by
  by_cases h : 48 ≤ c ∧ c ≤ 57
  · have hd : digB c = true := decide_eq_true h
    have Hdig := Lib.hid hd; clear hd
    have Hd : Hid (hexB c = true) := Lib.hid (decide_eq_true (Or.inl h))
    clear h
    go_enter Tryz.func107, Tryz.ntmps107
    go_wp2_with fail
    refine (digit_any _ _).mono ?_
    rintro e w1 ⟨rfl, rfl⟩
    rw [Hdig.out]
    go_wp2_with fail
    go_ret
    exact ⟨Uni.ret_bool Hd.out.symm, rfl⟩
  · exact hexadecimal_no c w (by omega)
theorem hexadecimal_any (c : Int) (w : World) :
    Calls Tryz.prog 107 #[.int .i64 c] w fun e w' => e = .returned (.bool (hexB c)) ∧ Below w.heap.size w w' :=
  (hexadecimal_same c w).mono fun _ _ ⟨he, hw⟩ => ⟨he, hw ▸ Below.refl _ _⟩

set_option maxHeartbeats 1000000 in
set_option maxRecDepth 20000 in
theorem character_any (K : Box) (l : List UInt8) (w : World) (h : Rd K l w) :
    Calls Tryz.prog 56 #[K.ptr, .func (.func 57) #[] #[]] w (Post K w (fun c : Nat => .int .i64 c) (chrP anyP l)) := by
  have hs := h.small
  have hle := at_le K l
  have h0 := h.cell0
  have h1 := h.cell1
  have hK : Rd K l w := h
  have hB : Bar K.b w w := Bar.refl _ _
  have CD : ∀ wx n, Rd K l wx → Rd K l (wx.drewN n) := fun wx n hx => hx.drewN n
  have CE : ∀ wx n, Bar K.b w wx → Bar K.b w (wx.drewN n) := fun wx n hx => hx.drewN n
  have CC := Lib.hid (decode_held K l w)
  have H := Lib.hid h; clear h
  go_enter Tryz.func56, Tryz.ntmps56
  go_upto_region 1 with fail
  go_cut [5, 6] from 8 to 20 (fun c k wx => c = .int .i32 (Lib.decodeGo (K.s.extract (K.at l) K.s.size)).1 ∧ k = .int .i64 (Lib.decodeGo (K.s.extract (K.at l) K.s.size)).2 ∧ Rd K l wx ∧ Bar K.b w wx)
  case first =>
    go_region_held3 (fun wx => wx.cell? ⟨K.b, 0, none⟩ = some (.string K.s) ∧ wx.cell? ⟨K.b, 1, none⟩ = some (.int .i64 (K.at l)) ∧ Rd K l wx ∧ Bar K.b w wx)
      (first | exact ⟨h0, h1, hK, hB⟩ | exact ⟨h0, h1, CD _ 1 hK, CE _ 1 hB⟩ | assumption)
      (first
      | (go_at_call 79; refine (CC.out _ _ ?_ ?_).mono ?_; (first | exact hK | assumption | exact CD _ 1 hK); (first | exact hB | assumption | exact CE _ 1 hB); rintro e wx ⟨rfl, h0, h1, hK, hB⟩))
    all_goals (go_wp2_with fail; go_meet; exact ⟨rfl, rfl, hK, hB⟩)
  case rest =>
    obtain ⟨rfl, rfl, hx, hxb⟩ := hcut
    have hsuf := hx.suf
    have hlen := hx.len
    have HX := Lib.hid hx
    have g1 := hx.cell1
    have gf := hx.frozen 1
    clear h0 h1 hK hx CD CE CC H hB
    rw [extract_suf, show Str.sufL K.s (K.at l) = l from suf_at hsuf, decode_ofL]
    by_cases e1 : l = []
    · rw [if_pos e1]
      have He : Hid (chrP anyP l = wrong l) := Lib.hid (if_pos (Or.inl (by rw [e1]; rfl)))
      clear e1
      go_wp2_with fail
      refine (refuse_any K l _ HX.out).mono ?_
      rintro e w2 ⟨rfl, rfl⟩
      unfold thrown
      go_wp2_with fail
      rw [He.out]
      exact ⟨rfl, rfl, hxb⟩
    by_cases e2 : lenL l = 0
    · rw [if_neg e1, if_pos e2]
      have He : Hid (chrP anyP l = wrong l) := Lib.hid (if_pos (Or.inl e2))
      clear e1 e2
      go_wp2_with fail
      refine (refuse_any K l _ HX.out).mono ?_
      rintro e w2 ⟨rfl, rfl⟩
      unfold thrown
      go_wp2_with fail
      rw [He.out]
      exact ⟨rfl, rfl, hxb⟩
    · rw [if_neg e1, if_neg e2]
      have hr := Str.runeL_le _ e2
      have hk := Str.lenL_le l
      have Hat : Hid (((K.at l : Nat) : Int) + (lenL l : Nat) = (K.at (l.drop (lenL l)) : Nat)) := Lib.hid (by simp only [Box.at, List.length_drop]; omega)
      have Hsu : Hid (l.drop (lenL l) <:+ l) := Lib.hid (List.drop_suffix _ _)
      have Hb : Hid (runeL l = 65533 → ¬ lenL l ≤ 1) := Lib.hid (fun h1 h2 => by
        cases l with
        | nil => exact e1 rfl
        | cons x l =>
          have := x.toNat_lt
          rcases Str.lenL_cons x l with ⟨h3, _⟩ | ⟨h3, _, h4⟩ | ⟨h3, _⟩ <;> omega)
      have Hc : Hid (chrP anyP l = if Uni.endsB (runeL l) = true ∨ anyP (runeL l) = false then wrong l else .ok (runeL l, l.drop (lenL l))) := Lib.hid (by
        unfold chrP
        by_cases c : Uni.endsB (runeL l) = true ∨ anyP (runeL l) = false
        · rw [if_pos (Or.inr c), if_pos c]
        · rw [if_neg (fun x => x.elim e2 c), if_neg c])
      clear e1 e2
      generalize l.drop (lenL l) = ld at *
      generalize runeL l = r at *
      generalize lenL l = k at *
      have hr2 : (r : Int) < 2147483648 := by omega
      have hw : (r : Int) = 65533 → ¬ (k : Int) ≤ 1 := fun h => by have := Hb.out (by omega); omega
      by_cases e3 : r = 65533
      · have e4 : ¬ (k : Int) ≤ 1 := hw (by omega)
        have Hr : Hid (((r : Nat) : Int) = 65533) := Lib.hid (by omega)
        clear hw Hb
        have e5 : ((r : Int) == 65533) = true := beq_iff_eq.2 Hr.out
        clear e3
        go_wp2_with fail
        refine (Uni.ends_any _ _).mono ?_
        rintro e w2 ⟨rfl, hb2⟩
        have H2 := Lib.hid (HX.out.on hb2)
        cases hE : Uni.endsB r with
        | true =>
          have He : Hid (chrP anyP l = wrong l) := Lib.hid (by rw [Hc.out, if_pos (Or.inl hE)])
          clear hE
          go_wp2_with fail
          refine (refuse_any K l _ H2.out).mono ?_
          rintro e w3 ⟨rfl, rfl⟩
          unfold thrown
          go_wp2_with fail
          rw [He.out]
          exact ⟨rfl, rfl, hxb.on hb2⟩
        | false =>
          have HE := Lib.hid hE; clear hE
          go_wp2_with fail
          refine (anything_any r _).mono ?_
          rintro e w3 ⟨rfl, hb3⟩
          have H3 := Lib.hid (H2.out.on hb3)
          cases hP : anyP r with
          | false =>
            have He : Hid (chrP anyP l = wrong l) := Lib.hid (by rw [Hc.out, if_pos (Or.inr hP)])
            clear hP
            go_wp2_with fail
            refine (refuse_any K l _ H3.out).mono ?_
            rintro e w4 ⟨rfl, rfl⟩
            unfold thrown
            go_wp2_with fail
            rw [He.out]
            exact ⟨rfl, rfl, (hxb.on hb2).on hb3⟩
          | true =>
            have He : Hid (chrP anyP l = .ok (r, ld)) := Lib.hid (by rw [Hc.out, if_neg (fun x => x.elim (fun y => by rw [HE.out] at y; cases y) (fun y => by rw [hP] at y; cases y))])
            clear hP g1 gf
            have g1 := H3.out.cell1
            have gf := H3.out.frozen 1
            go_wp2_with fail
            go_ret
            rw [He.out]
            exact ⟨rfl, H3.out.to Hsu.out Hat.out, ((hxb.on hb2).on hb3).set _ _ _⟩
      · have e5 : ((r : Int) == 65533) = false := beq_eq_false_iff_ne.2 (by omega)
        clear hw Hb
        go_wp2_with fail
        refine (Uni.ends_any _ _).mono ?_
        rintro e w2 ⟨rfl, hb2⟩
        have H2 := Lib.hid (HX.out.on hb2)
        cases hE : Uni.endsB r with
        | true =>
          have He : Hid (chrP anyP l = wrong l) := Lib.hid (by rw [Hc.out, if_pos (Or.inl hE)])
          clear hE
          go_wp2_with fail
          refine (refuse_any K l _ H2.out).mono ?_
          rintro e w3 ⟨rfl, rfl⟩
          unfold thrown
          go_wp2_with fail
          rw [He.out]
          exact ⟨rfl, rfl, hxb.on hb2⟩
        | false =>
          have HE := Lib.hid hE; clear hE
          go_wp2_with fail
          refine (anything_any r _).mono ?_
          rintro e w3 ⟨rfl, hb3⟩
          have H3 := Lib.hid (H2.out.on hb3)
          cases hP : anyP r with
          | false =>
            have He : Hid (chrP anyP l = wrong l) := Lib.hid (by rw [Hc.out, if_pos (Or.inr hP)])
            clear hP
            go_wp2_with fail
            refine (refuse_any K l _ H3.out).mono ?_
            rintro e w4 ⟨rfl, rfl⟩
            unfold thrown
            go_wp2_with fail
            rw [He.out]
            exact ⟨rfl, rfl, (hxb.on hb2).on hb3⟩
          | true =>
            have He : Hid (chrP anyP l = .ok (r, ld)) := Lib.hid (by rw [Hc.out, if_neg (fun x => x.elim (fun y => by rw [HE.out] at y; cases y) (fun y => by rw [hP] at y; cases y))])
            clear hP g1 gf
            have g1 := H3.out.cell1
            have gf := H3.out.frozen 1
            go_wp2_with fail
            go_ret
            rw [He.out]
            exact ⟨rfl, H3.out.to Hsu.out Hat.out, ((hxb.on hb2).on hb3).set _ _ _⟩

set_option maxHeartbeats 1000000 in
set_option maxRecDepth 20000 in
theorem character_start (K : Box) (l : List UInt8) (w : World) (h : Rd K l w) :
    Calls Tryz.prog 56 #[K.ptr, .func (.func 88) #[] #[]] w (Post K w (fun c : Nat => .int .i64 c) (chrP Uni.startB l)) := by
  have hs := h.small
  have hle := at_le K l
  have h0 := h.cell0
  have h1 := h.cell1
  have hK : Rd K l w := h
  have hB : Bar K.b w w := Bar.refl _ _
  have CD : ∀ wx n, Rd K l wx → Rd K l (wx.drewN n) := fun wx n hx => hx.drewN n
  have CE : ∀ wx n, Bar K.b w wx → Bar K.b w (wx.drewN n) := fun wx n hx => hx.drewN n
  have CC := Lib.hid (decode_held K l w)
  have H := Lib.hid h; clear h
  go_enter Tryz.func56, Tryz.ntmps56
  go_upto_region 1 with fail
  go_cut [5, 6] from 8 to 20 (fun c k wx => c = .int .i32 (Lib.decodeGo (K.s.extract (K.at l) K.s.size)).1 ∧ k = .int .i64 (Lib.decodeGo (K.s.extract (K.at l) K.s.size)).2 ∧ Rd K l wx ∧ Bar K.b w wx)
  case first =>
    go_region_held3 (fun wx => wx.cell? ⟨K.b, 0, none⟩ = some (.string K.s) ∧ wx.cell? ⟨K.b, 1, none⟩ = some (.int .i64 (K.at l)) ∧ Rd K l wx ∧ Bar K.b w wx)
      (first | exact ⟨h0, h1, hK, hB⟩ | exact ⟨h0, h1, CD _ 1 hK, CE _ 1 hB⟩ | assumption)
      (first
      | (go_at_call 79; refine (CC.out _ _ ?_ ?_).mono ?_; (first | exact hK | assumption | exact CD _ 1 hK); (first | exact hB | assumption | exact CE _ 1 hB); rintro e wx ⟨rfl, h0, h1, hK, hB⟩))
    all_goals (go_wp2_with fail; go_meet; exact ⟨rfl, rfl, hK, hB⟩)
  case rest =>
    obtain ⟨rfl, rfl, hx, hxb⟩ := hcut
    have hsuf := hx.suf
    have hlen := hx.len
    have HX := Lib.hid hx
    have g1 := hx.cell1
    have gf := hx.frozen 1
    clear h0 h1 hK hx CD CE CC H hB
    rw [extract_suf, show Str.sufL K.s (K.at l) = l from suf_at hsuf, decode_ofL]
    by_cases e1 : l = []
    · rw [if_pos e1]
      have He : Hid (chrP Uni.startB l = wrong l) := Lib.hid (if_pos (Or.inl (by rw [e1]; rfl)))
      clear e1
      go_wp2_with fail
      refine (refuse_any K l _ HX.out).mono ?_
      rintro e w2 ⟨rfl, rfl⟩
      unfold thrown
      go_wp2_with fail
      rw [He.out]
      exact ⟨rfl, rfl, hxb⟩
    by_cases e2 : lenL l = 0
    · rw [if_neg e1, if_pos e2]
      have He : Hid (chrP Uni.startB l = wrong l) := Lib.hid (if_pos (Or.inl e2))
      clear e1 e2
      go_wp2_with fail
      refine (refuse_any K l _ HX.out).mono ?_
      rintro e w2 ⟨rfl, rfl⟩
      unfold thrown
      go_wp2_with fail
      rw [He.out]
      exact ⟨rfl, rfl, hxb⟩
    · rw [if_neg e1, if_neg e2]
      have hr := Str.runeL_le _ e2
      have hk := Str.lenL_le l
      have Hat : Hid (((K.at l : Nat) : Int) + (lenL l : Nat) = (K.at (l.drop (lenL l)) : Nat)) := Lib.hid (by simp only [Box.at, List.length_drop]; omega)
      have Hsu : Hid (l.drop (lenL l) <:+ l) := Lib.hid (List.drop_suffix _ _)
      have Hb : Hid (runeL l = 65533 → ¬ lenL l ≤ 1) := Lib.hid (fun h1 h2 => by
        cases l with
        | nil => exact e1 rfl
        | cons x l =>
          have := x.toNat_lt
          rcases Str.lenL_cons x l with ⟨h3, _⟩ | ⟨h3, _, h4⟩ | ⟨h3, _⟩ <;> omega)
      have Hc : Hid (chrP Uni.startB l = if Uni.endsB (runeL l) = true ∨ Uni.startB (runeL l) = false then wrong l else .ok (runeL l, l.drop (lenL l))) := Lib.hid (by
        unfold chrP
        by_cases c : Uni.endsB (runeL l) = true ∨ Uni.startB (runeL l) = false
        · rw [if_pos (Or.inr c), if_pos c]
        · rw [if_neg (fun x => x.elim e2 c), if_neg c])
      clear e1 e2
      generalize l.drop (lenL l) = ld at *
      generalize runeL l = r at *
      generalize lenL l = k at *
      have hr2 : (r : Int) < 2147483648 := by omega
      have hw : (r : Int) = 65533 → ¬ (k : Int) ≤ 1 := fun h => by have := Hb.out (by omega); omega
      by_cases e3 : r = 65533
      · have e4 : ¬ (k : Int) ≤ 1 := hw (by omega)
        have Hr : Hid (((r : Nat) : Int) = 65533) := Lib.hid (by omega)
        clear hw Hb
        have e5 : ((r : Int) == 65533) = true := beq_iff_eq.2 Hr.out
        clear e3
        go_wp2_with fail
        refine (Uni.ends_any _ _).mono ?_
        rintro e w2 ⟨rfl, hb2⟩
        have H2 := Lib.hid (HX.out.on hb2)
        cases hE : Uni.endsB r with
        | true =>
          have He : Hid (chrP Uni.startB l = wrong l) := Lib.hid (by rw [Hc.out, if_pos (Or.inl hE)])
          clear hE
          go_wp2_with fail
          refine (refuse_any K l _ H2.out).mono ?_
          rintro e w3 ⟨rfl, rfl⟩
          unfold thrown
          go_wp2_with fail
          rw [He.out]
          exact ⟨rfl, rfl, hxb.on hb2⟩
        | false =>
          have HE := Lib.hid hE; clear hE
          go_wp2_with fail
          refine (Uni.start_any r _).mono ?_
          rintro e w3 ⟨rfl, hb3⟩
          have H3 := Lib.hid (H2.out.on hb3)
          cases hP : Uni.startB r with
          | false =>
            have He : Hid (chrP Uni.startB l = wrong l) := Lib.hid (by rw [Hc.out, if_pos (Or.inr hP)])
            clear hP
            go_wp2_with fail
            refine (refuse_any K l _ H3.out).mono ?_
            rintro e w4 ⟨rfl, rfl⟩
            unfold thrown
            go_wp2_with fail
            rw [He.out]
            exact ⟨rfl, rfl, (hxb.on hb2).on hb3⟩
          | true =>
            have He : Hid (chrP Uni.startB l = .ok (r, ld)) := Lib.hid (by rw [Hc.out, if_neg (fun x => x.elim (fun y => by rw [HE.out] at y; cases y) (fun y => by rw [hP] at y; cases y))])
            clear hP g1 gf
            have g1 := H3.out.cell1
            have gf := H3.out.frozen 1
            go_wp2_with fail
            go_ret
            rw [He.out]
            exact ⟨rfl, H3.out.to Hsu.out Hat.out, ((hxb.on hb2).on hb3).set _ _ _⟩
      · have e5 : ((r : Int) == 65533) = false := beq_eq_false_iff_ne.2 (by omega)
        clear hw Hb
        go_wp2_with fail
        refine (Uni.ends_any _ _).mono ?_
        rintro e w2 ⟨rfl, hb2⟩
        have H2 := Lib.hid (HX.out.on hb2)
        cases hE : Uni.endsB r with
        | true =>
          have He : Hid (chrP Uni.startB l = wrong l) := Lib.hid (by rw [Hc.out, if_pos (Or.inl hE)])
          clear hE
          go_wp2_with fail
          refine (refuse_any K l _ H2.out).mono ?_
          rintro e w3 ⟨rfl, rfl⟩
          unfold thrown
          go_wp2_with fail
          rw [He.out]
          exact ⟨rfl, rfl, hxb.on hb2⟩
        | false =>
          have HE := Lib.hid hE; clear hE
          go_wp2_with fail
          refine (Uni.start_any r _).mono ?_
          rintro e w3 ⟨rfl, hb3⟩
          have H3 := Lib.hid (H2.out.on hb3)
          cases hP : Uni.startB r with
          | false =>
            have He : Hid (chrP Uni.startB l = wrong l) := Lib.hid (by rw [Hc.out, if_pos (Or.inr hP)])
            clear hP
            go_wp2_with fail
            refine (refuse_any K l _ H3.out).mono ?_
            rintro e w4 ⟨rfl, rfl⟩
            unfold thrown
            go_wp2_with fail
            rw [He.out]
            exact ⟨rfl, rfl, (hxb.on hb2).on hb3⟩
          | true =>
            have He : Hid (chrP Uni.startB l = .ok (r, ld)) := Lib.hid (by rw [Hc.out, if_neg (fun x => x.elim (fun y => by rw [HE.out] at y; cases y) (fun y => by rw [hP] at y; cases y))])
            clear hP g1 gf
            have g1 := H3.out.cell1
            have gf := H3.out.frozen 1
            go_wp2_with fail
            go_ret
            rw [He.out]
            exact ⟨rfl, H3.out.to Hsu.out Hat.out, ((hxb.on hb2).on hb3).set _ _ _⟩

set_option maxHeartbeats 1000000 in
set_option maxRecDepth 20000 in
theorem character_part (K : Box) (l : List UInt8) (w : World) (h : Rd K l w) :
    Calls Tryz.prog 56 #[K.ptr, .func (.func 89) #[] #[]] w (Post K w (fun c : Nat => .int .i64 c) (chrP Uni.partB l)) := by
  have hs := h.small
  have hle := at_le K l
  have h0 := h.cell0
  have h1 := h.cell1
  have hK : Rd K l w := h
  have hB : Bar K.b w w := Bar.refl _ _
  have CD : ∀ wx n, Rd K l wx → Rd K l (wx.drewN n) := fun wx n hx => hx.drewN n
  have CE : ∀ wx n, Bar K.b w wx → Bar K.b w (wx.drewN n) := fun wx n hx => hx.drewN n
  have CC := Lib.hid (decode_held K l w)
  have H := Lib.hid h; clear h
  go_enter Tryz.func56, Tryz.ntmps56
  go_upto_region 1 with fail
  go_cut [5, 6] from 8 to 20 (fun c k wx => c = .int .i32 (Lib.decodeGo (K.s.extract (K.at l) K.s.size)).1 ∧ k = .int .i64 (Lib.decodeGo (K.s.extract (K.at l) K.s.size)).2 ∧ Rd K l wx ∧ Bar K.b w wx)
  case first =>
    go_region_held3 (fun wx => wx.cell? ⟨K.b, 0, none⟩ = some (.string K.s) ∧ wx.cell? ⟨K.b, 1, none⟩ = some (.int .i64 (K.at l)) ∧ Rd K l wx ∧ Bar K.b w wx)
      (first | exact ⟨h0, h1, hK, hB⟩ | exact ⟨h0, h1, CD _ 1 hK, CE _ 1 hB⟩ | assumption)
      (first
      | (go_at_call 79; refine (CC.out _ _ ?_ ?_).mono ?_; (first | exact hK | assumption | exact CD _ 1 hK); (first | exact hB | assumption | exact CE _ 1 hB); rintro e wx ⟨rfl, h0, h1, hK, hB⟩))
    all_goals (go_wp2_with fail; go_meet; exact ⟨rfl, rfl, hK, hB⟩)
  case rest =>
    obtain ⟨rfl, rfl, hx, hxb⟩ := hcut
    have hsuf := hx.suf
    have hlen := hx.len
    have HX := Lib.hid hx
    have g1 := hx.cell1
    have gf := hx.frozen 1
    clear h0 h1 hK hx CD CE CC H hB
    rw [extract_suf, show Str.sufL K.s (K.at l) = l from suf_at hsuf, decode_ofL]
    by_cases e1 : l = []
    · rw [if_pos e1]
      have He : Hid (chrP Uni.partB l = wrong l) := Lib.hid (if_pos (Or.inl (by rw [e1]; rfl)))
      clear e1
      go_wp2_with fail
      refine (refuse_any K l _ HX.out).mono ?_
      rintro e w2 ⟨rfl, rfl⟩
      unfold thrown
      go_wp2_with fail
      rw [He.out]
      exact ⟨rfl, rfl, hxb⟩
    by_cases e2 : lenL l = 0
    · rw [if_neg e1, if_pos e2]
      have He : Hid (chrP Uni.partB l = wrong l) := Lib.hid (if_pos (Or.inl e2))
      clear e1 e2
      go_wp2_with fail
      refine (refuse_any K l _ HX.out).mono ?_
      rintro e w2 ⟨rfl, rfl⟩
      unfold thrown
      go_wp2_with fail
      rw [He.out]
      exact ⟨rfl, rfl, hxb⟩
    · rw [if_neg e1, if_neg e2]
      have hr := Str.runeL_le _ e2
      have hk := Str.lenL_le l
      have Hat : Hid (((K.at l : Nat) : Int) + (lenL l : Nat) = (K.at (l.drop (lenL l)) : Nat)) := Lib.hid (by simp only [Box.at, List.length_drop]; omega)
      have Hsu : Hid (l.drop (lenL l) <:+ l) := Lib.hid (List.drop_suffix _ _)
      have Hb : Hid (runeL l = 65533 → ¬ lenL l ≤ 1) := Lib.hid (fun h1 h2 => by
        cases l with
        | nil => exact e1 rfl
        | cons x l =>
          have := x.toNat_lt
          rcases Str.lenL_cons x l with ⟨h3, _⟩ | ⟨h3, _, h4⟩ | ⟨h3, _⟩ <;> omega)
      have Hc : Hid (chrP Uni.partB l = if Uni.endsB (runeL l) = true ∨ Uni.partB (runeL l) = false then wrong l else .ok (runeL l, l.drop (lenL l))) := Lib.hid (by
        unfold chrP
        by_cases c : Uni.endsB (runeL l) = true ∨ Uni.partB (runeL l) = false
        · rw [if_pos (Or.inr c), if_pos c]
        · rw [if_neg (fun x => x.elim e2 c), if_neg c])
      clear e1 e2
      generalize l.drop (lenL l) = ld at *
      generalize runeL l = r at *
      generalize lenL l = k at *
      have hr2 : (r : Int) < 2147483648 := by omega
      have hw : (r : Int) = 65533 → ¬ (k : Int) ≤ 1 := fun h => by have := Hb.out (by omega); omega
      by_cases e3 : r = 65533
      · have e4 : ¬ (k : Int) ≤ 1 := hw (by omega)
        have Hr : Hid (((r : Nat) : Int) = 65533) := Lib.hid (by omega)
        clear hw Hb
        have e5 : ((r : Int) == 65533) = true := beq_iff_eq.2 Hr.out
        clear e3
        go_wp2_with fail
        refine (Uni.ends_any _ _).mono ?_
        rintro e w2 ⟨rfl, hb2⟩
        have H2 := Lib.hid (HX.out.on hb2)
        cases hE : Uni.endsB r with
        | true =>
          have He : Hid (chrP Uni.partB l = wrong l) := Lib.hid (by rw [Hc.out, if_pos (Or.inl hE)])
          clear hE
          go_wp2_with fail
          refine (refuse_any K l _ H2.out).mono ?_
          rintro e w3 ⟨rfl, rfl⟩
          unfold thrown
          go_wp2_with fail
          rw [He.out]
          exact ⟨rfl, rfl, hxb.on hb2⟩
        | false =>
          have HE := Lib.hid hE; clear hE
          go_wp2_with fail
          refine (Uni.part_any r _).mono ?_
          rintro e w3 ⟨rfl, hb3⟩
          have H3 := Lib.hid (H2.out.on hb3)
          cases hP : Uni.partB r with
          | false =>
            have He : Hid (chrP Uni.partB l = wrong l) := Lib.hid (by rw [Hc.out, if_pos (Or.inr hP)])
            clear hP
            go_wp2_with fail
            refine (refuse_any K l _ H3.out).mono ?_
            rintro e w4 ⟨rfl, rfl⟩
            unfold thrown
            go_wp2_with fail
            rw [He.out]
            exact ⟨rfl, rfl, (hxb.on hb2).on hb3⟩
          | true =>
            have He : Hid (chrP Uni.partB l = .ok (r, ld)) := Lib.hid (by rw [Hc.out, if_neg (fun x => x.elim (fun y => by rw [HE.out] at y; cases y) (fun y => by rw [hP] at y; cases y))])
            clear hP g1 gf
            have g1 := H3.out.cell1
            have gf := H3.out.frozen 1
            go_wp2_with fail
            go_ret
            rw [He.out]
            exact ⟨rfl, H3.out.to Hsu.out Hat.out, ((hxb.on hb2).on hb3).set _ _ _⟩
      · have e5 : ((r : Int) == 65533) = false := beq_eq_false_iff_ne.2 (by omega)
        clear hw Hb
        go_wp2_with fail
        refine (Uni.ends_any _ _).mono ?_
        rintro e w2 ⟨rfl, hb2⟩
        have H2 := Lib.hid (HX.out.on hb2)
        cases hE : Uni.endsB r with
        | true =>
          have He : Hid (chrP Uni.partB l = wrong l) := Lib.hid (by rw [Hc.out, if_pos (Or.inl hE)])
          clear hE
          go_wp2_with fail
          refine (refuse_any K l _ H2.out).mono ?_
          rintro e w3 ⟨rfl, rfl⟩
          unfold thrown
          go_wp2_with fail
          rw [He.out]
          exact ⟨rfl, rfl, hxb.on hb2⟩
        | false =>
          have HE := Lib.hid hE; clear hE
          go_wp2_with fail
          refine (Uni.part_any r _).mono ?_
          rintro e w3 ⟨rfl, hb3⟩
          have H3 := Lib.hid (H2.out.on hb3)
          cases hP : Uni.partB r with
          | false =>
            have He : Hid (chrP Uni.partB l = wrong l) := Lib.hid (by rw [Hc.out, if_pos (Or.inr hP)])
            clear hP
            go_wp2_with fail
            refine (refuse_any K l _ H3.out).mono ?_
            rintro e w4 ⟨rfl, rfl⟩
            unfold thrown
            go_wp2_with fail
            rw [He.out]
            exact ⟨rfl, rfl, (hxb.on hb2).on hb3⟩
          | true =>
            have He : Hid (chrP Uni.partB l = .ok (r, ld)) := Lib.hid (by rw [Hc.out, if_neg (fun x => x.elim (fun y => by rw [HE.out] at y; cases y) (fun y => by rw [hP] at y; cases y))])
            clear hP g1 gf
            have g1 := H3.out.cell1
            have gf := H3.out.frozen 1
            go_wp2_with fail
            go_ret
            rw [He.out]
            exact ⟨rfl, H3.out.to Hsu.out Hat.out, ((hxb.on hb2).on hb3).set _ _ _⟩

set_option maxHeartbeats 1000000 in
set_option maxRecDepth 20000 in
theorem character_letter (K : Box) (l : List UInt8) (w : World) (h : Rd K l w) :
    Calls Tryz.prog 56 #[K.ptr, .func (.func 94) #[] #[]] w (Post K w (fun c : Nat => .int .i64 c) (chrP letB l)) := by
  have hs := h.small
  have hle := at_le K l
  have h0 := h.cell0
  have h1 := h.cell1
  have hK : Rd K l w := h
  have hB : Bar K.b w w := Bar.refl _ _
  have CD : ∀ wx n, Rd K l wx → Rd K l (wx.drewN n) := fun wx n hx => hx.drewN n
  have CE : ∀ wx n, Bar K.b w wx → Bar K.b w (wx.drewN n) := fun wx n hx => hx.drewN n
  have CC := Lib.hid (decode_held K l w)
  have H := Lib.hid h; clear h
  go_enter Tryz.func56, Tryz.ntmps56
  go_upto_region 1 with fail
  go_cut [5, 6] from 8 to 20 (fun c k wx => c = .int .i32 (Lib.decodeGo (K.s.extract (K.at l) K.s.size)).1 ∧ k = .int .i64 (Lib.decodeGo (K.s.extract (K.at l) K.s.size)).2 ∧ Rd K l wx ∧ Bar K.b w wx)
  case first =>
    go_region_held3 (fun wx => wx.cell? ⟨K.b, 0, none⟩ = some (.string K.s) ∧ wx.cell? ⟨K.b, 1, none⟩ = some (.int .i64 (K.at l)) ∧ Rd K l wx ∧ Bar K.b w wx)
      (first | exact ⟨h0, h1, hK, hB⟩ | exact ⟨h0, h1, CD _ 1 hK, CE _ 1 hB⟩ | assumption)
      (first
      | (go_at_call 79; refine (CC.out _ _ ?_ ?_).mono ?_; (first | exact hK | assumption | exact CD _ 1 hK); (first | exact hB | assumption | exact CE _ 1 hB); rintro e wx ⟨rfl, h0, h1, hK, hB⟩))
    all_goals (go_wp2_with fail; go_meet; exact ⟨rfl, rfl, hK, hB⟩)
  case rest =>
    obtain ⟨rfl, rfl, hx, hxb⟩ := hcut
    have hsuf := hx.suf
    have hlen := hx.len
    have HX := Lib.hid hx
    have g1 := hx.cell1
    have gf := hx.frozen 1
    clear h0 h1 hK hx CD CE CC H hB
    rw [extract_suf, show Str.sufL K.s (K.at l) = l from suf_at hsuf, decode_ofL]
    by_cases e1 : l = []
    · rw [if_pos e1]
      have He : Hid (chrP letB l = wrong l) := Lib.hid (if_pos (Or.inl (by rw [e1]; rfl)))
      clear e1
      go_wp2_with fail
      refine (refuse_any K l _ HX.out).mono ?_
      rintro e w2 ⟨rfl, rfl⟩
      unfold thrown
      go_wp2_with fail
      rw [He.out]
      exact ⟨rfl, rfl, hxb⟩
    by_cases e2 : lenL l = 0
    · rw [if_neg e1, if_pos e2]
      have He : Hid (chrP letB l = wrong l) := Lib.hid (if_pos (Or.inl e2))
      clear e1 e2
      go_wp2_with fail
      refine (refuse_any K l _ HX.out).mono ?_
      rintro e w2 ⟨rfl, rfl⟩
      unfold thrown
      go_wp2_with fail
      rw [He.out]
      exact ⟨rfl, rfl, hxb⟩
    · rw [if_neg e1, if_neg e2]
      have hr := Str.runeL_le _ e2
      have hk := Str.lenL_le l
      have Hat : Hid (((K.at l : Nat) : Int) + (lenL l : Nat) = (K.at (l.drop (lenL l)) : Nat)) := Lib.hid (by simp only [Box.at, List.length_drop]; omega)
      have Hsu : Hid (l.drop (lenL l) <:+ l) := Lib.hid (List.drop_suffix _ _)
      have Hb : Hid (runeL l = 65533 → ¬ lenL l ≤ 1) := Lib.hid (fun h1 h2 => by
        cases l with
        | nil => exact e1 rfl
        | cons x l =>
          have := x.toNat_lt
          rcases Str.lenL_cons x l with ⟨h3, _⟩ | ⟨h3, _, h4⟩ | ⟨h3, _⟩ <;> omega)
      have Hc : Hid (chrP letB l = if Uni.endsB (runeL l) = true ∨ letB (runeL l) = false then wrong l else .ok (runeL l, l.drop (lenL l))) := Lib.hid (by
        unfold chrP
        by_cases c : Uni.endsB (runeL l) = true ∨ letB (runeL l) = false
        · rw [if_pos (Or.inr c), if_pos c]
        · rw [if_neg (fun x => x.elim e2 c), if_neg c])
      clear e1 e2
      generalize l.drop (lenL l) = ld at *
      generalize runeL l = r at *
      generalize lenL l = k at *
      have hr2 : (r : Int) < 2147483648 := by omega
      have hw : (r : Int) = 65533 → ¬ (k : Int) ≤ 1 := fun h => by have := Hb.out (by omega); omega
      by_cases e3 : r = 65533
      · have e4 : ¬ (k : Int) ≤ 1 := hw (by omega)
        have Hr : Hid (((r : Nat) : Int) = 65533) := Lib.hid (by omega)
        clear hw Hb
        have e5 : ((r : Int) == 65533) = true := beq_iff_eq.2 Hr.out
        clear e3
        go_wp2_with fail
        refine (Uni.ends_any _ _).mono ?_
        rintro e w2 ⟨rfl, hb2⟩
        have H2 := Lib.hid (HX.out.on hb2)
        cases hE : Uni.endsB r with
        | true =>
          have He : Hid (chrP letB l = wrong l) := Lib.hid (by rw [Hc.out, if_pos (Or.inl hE)])
          clear hE
          go_wp2_with fail
          refine (refuse_any K l _ H2.out).mono ?_
          rintro e w3 ⟨rfl, rfl⟩
          unfold thrown
          go_wp2_with fail
          rw [He.out]
          exact ⟨rfl, rfl, hxb.on hb2⟩
        | false =>
          have HE := Lib.hid hE; clear hE
          go_wp2_with fail
          refine (letter_any r _).mono ?_
          rintro e w3 ⟨rfl, hb3⟩
          have H3 := Lib.hid (H2.out.on hb3)
          cases hP : letB r with
          | false =>
            have He : Hid (chrP letB l = wrong l) := Lib.hid (by rw [Hc.out, if_pos (Or.inr hP)])
            clear hP
            go_wp2_with fail
            refine (refuse_any K l _ H3.out).mono ?_
            rintro e w4 ⟨rfl, rfl⟩
            unfold thrown
            go_wp2_with fail
            rw [He.out]
            exact ⟨rfl, rfl, (hxb.on hb2).on hb3⟩
          | true =>
            have He : Hid (chrP letB l = .ok (r, ld)) := Lib.hid (by rw [Hc.out, if_neg (fun x => x.elim (fun y => by rw [HE.out] at y; cases y) (fun y => by rw [hP] at y; cases y))])
            clear hP g1 gf
            have g1 := H3.out.cell1
            have gf := H3.out.frozen 1
            go_wp2_with fail
            go_ret
            rw [He.out]
            exact ⟨rfl, H3.out.to Hsu.out Hat.out, ((hxb.on hb2).on hb3).set _ _ _⟩
      · have e5 : ((r : Int) == 65533) = false := beq_eq_false_iff_ne.2 (by omega)
        clear hw Hb
        go_wp2_with fail
        refine (Uni.ends_any _ _).mono ?_
        rintro e w2 ⟨rfl, hb2⟩
        have H2 := Lib.hid (HX.out.on hb2)
        cases hE : Uni.endsB r with
        | true =>
          have He : Hid (chrP letB l = wrong l) := Lib.hid (by rw [Hc.out, if_pos (Or.inl hE)])
          clear hE
          go_wp2_with fail
          refine (refuse_any K l _ H2.out).mono ?_
          rintro e w3 ⟨rfl, rfl⟩
          unfold thrown
          go_wp2_with fail
          rw [He.out]
          exact ⟨rfl, rfl, hxb.on hb2⟩
        | false =>
          have HE := Lib.hid hE; clear hE
          go_wp2_with fail
          refine (letter_any r _).mono ?_
          rintro e w3 ⟨rfl, hb3⟩
          have H3 := Lib.hid (H2.out.on hb3)
          cases hP : letB r with
          | false =>
            have He : Hid (chrP letB l = wrong l) := Lib.hid (by rw [Hc.out, if_pos (Or.inr hP)])
            clear hP
            go_wp2_with fail
            refine (refuse_any K l _ H3.out).mono ?_
            rintro e w4 ⟨rfl, rfl⟩
            unfold thrown
            go_wp2_with fail
            rw [He.out]
            exact ⟨rfl, rfl, (hxb.on hb2).on hb3⟩
          | true =>
            have He : Hid (chrP letB l = .ok (r, ld)) := Lib.hid (by rw [Hc.out, if_neg (fun x => x.elim (fun y => by rw [HE.out] at y; cases y) (fun y => by rw [hP] at y; cases y))])
            clear hP g1 gf
            have g1 := H3.out.cell1
            have gf := H3.out.frozen 1
            go_wp2_with fail
            go_ret
            rw [He.out]
            exact ⟨rfl, H3.out.to Hsu.out Hat.out, ((hxb.on hb2).on hb3).set _ _ _⟩

set_option maxHeartbeats 1000000 in
set_option maxRecDepth 20000 in
theorem character_hex (K : Box) (l : List UInt8) (w : World) (h : Rd K l w) :
    Calls Tryz.prog 56 #[K.ptr, .func (.func 107) #[] #[]] w (Post K w (fun c : Nat => .int .i64 c) (chrP hexB l)) := by
  have hs := h.small
  have hle := at_le K l
  have h0 := h.cell0
  have h1 := h.cell1
  have hK : Rd K l w := h
  have hB : Bar K.b w w := Bar.refl _ _
  have CD : ∀ wx n, Rd K l wx → Rd K l (wx.drewN n) := fun wx n hx => hx.drewN n
  have CE : ∀ wx n, Bar K.b w wx → Bar K.b w (wx.drewN n) := fun wx n hx => hx.drewN n
  have CC := Lib.hid (decode_held K l w)
  have H := Lib.hid h; clear h
  go_enter Tryz.func56, Tryz.ntmps56
  go_upto_region 1 with fail
  go_cut [5, 6] from 8 to 20 (fun c k wx => c = .int .i32 (Lib.decodeGo (K.s.extract (K.at l) K.s.size)).1 ∧ k = .int .i64 (Lib.decodeGo (K.s.extract (K.at l) K.s.size)).2 ∧ Rd K l wx ∧ Bar K.b w wx)
  case first =>
    go_region_held3 (fun wx => wx.cell? ⟨K.b, 0, none⟩ = some (.string K.s) ∧ wx.cell? ⟨K.b, 1, none⟩ = some (.int .i64 (K.at l)) ∧ Rd K l wx ∧ Bar K.b w wx)
      (first | exact ⟨h0, h1, hK, hB⟩ | exact ⟨h0, h1, CD _ 1 hK, CE _ 1 hB⟩ | assumption)
      (first
      | (go_at_call 79; refine (CC.out _ _ ?_ ?_).mono ?_; (first | exact hK | assumption | exact CD _ 1 hK); (first | exact hB | assumption | exact CE _ 1 hB); rintro e wx ⟨rfl, h0, h1, hK, hB⟩))
    all_goals (go_wp2_with fail; go_meet; exact ⟨rfl, rfl, hK, hB⟩)
  case rest =>
    obtain ⟨rfl, rfl, hx, hxb⟩ := hcut
    have hsuf := hx.suf
    have hlen := hx.len
    have HX := Lib.hid hx
    have g1 := hx.cell1
    have gf := hx.frozen 1
    clear h0 h1 hK hx CD CE CC H hB
    rw [extract_suf, show Str.sufL K.s (K.at l) = l from suf_at hsuf, decode_ofL]
    by_cases e1 : l = []
    · rw [if_pos e1]
      have He : Hid (chrP hexB l = wrong l) := Lib.hid (if_pos (Or.inl (by rw [e1]; rfl)))
      clear e1
      go_wp2_with fail
      refine (refuse_any K l _ HX.out).mono ?_
      rintro e w2 ⟨rfl, rfl⟩
      unfold thrown
      go_wp2_with fail
      rw [He.out]
      exact ⟨rfl, rfl, hxb⟩
    by_cases e2 : lenL l = 0
    · rw [if_neg e1, if_pos e2]
      have He : Hid (chrP hexB l = wrong l) := Lib.hid (if_pos (Or.inl e2))
      clear e1 e2
      go_wp2_with fail
      refine (refuse_any K l _ HX.out).mono ?_
      rintro e w2 ⟨rfl, rfl⟩
      unfold thrown
      go_wp2_with fail
      rw [He.out]
      exact ⟨rfl, rfl, hxb⟩
    · rw [if_neg e1, if_neg e2]
      have hr := Str.runeL_le _ e2
      have hk := Str.lenL_le l
      have Hat : Hid (((K.at l : Nat) : Int) + (lenL l : Nat) = (K.at (l.drop (lenL l)) : Nat)) := Lib.hid (by simp only [Box.at, List.length_drop]; omega)
      have Hsu : Hid (l.drop (lenL l) <:+ l) := Lib.hid (List.drop_suffix _ _)
      have Hb : Hid (runeL l = 65533 → ¬ lenL l ≤ 1) := Lib.hid (fun h1 h2 => by
        cases l with
        | nil => exact e1 rfl
        | cons x l =>
          have := x.toNat_lt
          rcases Str.lenL_cons x l with ⟨h3, _⟩ | ⟨h3, _, h4⟩ | ⟨h3, _⟩ <;> omega)
      have Hc : Hid (chrP hexB l = if Uni.endsB (runeL l) = true ∨ hexB (runeL l) = false then wrong l else .ok (runeL l, l.drop (lenL l))) := Lib.hid (by
        unfold chrP
        by_cases c : Uni.endsB (runeL l) = true ∨ hexB (runeL l) = false
        · rw [if_pos (Or.inr c), if_pos c]
        · rw [if_neg (fun x => x.elim e2 c), if_neg c])
      clear e1 e2
      generalize l.drop (lenL l) = ld at *
      generalize runeL l = r at *
      generalize lenL l = k at *
      have hr2 : (r : Int) < 2147483648 := by omega
      have hw : (r : Int) = 65533 → ¬ (k : Int) ≤ 1 := fun h => by have := Hb.out (by omega); omega
      by_cases e3 : r = 65533
      · have e4 : ¬ (k : Int) ≤ 1 := hw (by omega)
        have Hr : Hid (((r : Nat) : Int) = 65533) := Lib.hid (by omega)
        clear hw Hb
        have e5 : ((r : Int) == 65533) = true := beq_iff_eq.2 Hr.out
        clear e3
        go_wp2_with fail
        refine (Uni.ends_any _ _).mono ?_
        rintro e w2 ⟨rfl, hb2⟩
        have H2 := Lib.hid (HX.out.on hb2)
        cases hE : Uni.endsB r with
        | true =>
          have He : Hid (chrP hexB l = wrong l) := Lib.hid (by rw [Hc.out, if_pos (Or.inl hE)])
          clear hE
          go_wp2_with fail
          refine (refuse_any K l _ H2.out).mono ?_
          rintro e w3 ⟨rfl, rfl⟩
          unfold thrown
          go_wp2_with fail
          rw [He.out]
          exact ⟨rfl, rfl, hxb.on hb2⟩
        | false =>
          have HE := Lib.hid hE; clear hE
          go_wp2_with fail
          refine (hexadecimal_any r _).mono ?_
          rintro e w3 ⟨rfl, hb3⟩
          have H3 := Lib.hid (H2.out.on hb3)
          cases hP : hexB r with
          | false =>
            have He : Hid (chrP hexB l = wrong l) := Lib.hid (by rw [Hc.out, if_pos (Or.inr hP)])
            clear hP
            go_wp2_with fail
            refine (refuse_any K l _ H3.out).mono ?_
            rintro e w4 ⟨rfl, rfl⟩
            unfold thrown
            go_wp2_with fail
            rw [He.out]
            exact ⟨rfl, rfl, (hxb.on hb2).on hb3⟩
          | true =>
            have He : Hid (chrP hexB l = .ok (r, ld)) := Lib.hid (by rw [Hc.out, if_neg (fun x => x.elim (fun y => by rw [HE.out] at y; cases y) (fun y => by rw [hP] at y; cases y))])
            clear hP g1 gf
            have g1 := H3.out.cell1
            have gf := H3.out.frozen 1
            go_wp2_with fail
            go_ret
            rw [He.out]
            exact ⟨rfl, H3.out.to Hsu.out Hat.out, ((hxb.on hb2).on hb3).set _ _ _⟩
      · have e5 : ((r : Int) == 65533) = false := beq_eq_false_iff_ne.2 (by omega)
        clear hw Hb
        go_wp2_with fail
        refine (Uni.ends_any _ _).mono ?_
        rintro e w2 ⟨rfl, hb2⟩
        have H2 := Lib.hid (HX.out.on hb2)
        cases hE : Uni.endsB r with
        | true =>
          have He : Hid (chrP hexB l = wrong l) := Lib.hid (by rw [Hc.out, if_pos (Or.inl hE)])
          clear hE
          go_wp2_with fail
          refine (refuse_any K l _ H2.out).mono ?_
          rintro e w3 ⟨rfl, rfl⟩
          unfold thrown
          go_wp2_with fail
          rw [He.out]
          exact ⟨rfl, rfl, hxb.on hb2⟩
        | false =>
          have HE := Lib.hid hE; clear hE
          go_wp2_with fail
          refine (hexadecimal_any r _).mono ?_
          rintro e w3 ⟨rfl, hb3⟩
          have H3 := Lib.hid (H2.out.on hb3)
          cases hP : hexB r with
          | false =>
            have He : Hid (chrP hexB l = wrong l) := Lib.hid (by rw [Hc.out, if_pos (Or.inr hP)])
            clear hP
            go_wp2_with fail
            refine (refuse_any K l _ H3.out).mono ?_
            rintro e w4 ⟨rfl, rfl⟩
            unfold thrown
            go_wp2_with fail
            rw [He.out]
            exact ⟨rfl, rfl, (hxb.on hb2).on hb3⟩
          | true =>
            have He : Hid (chrP hexB l = .ok (r, ld)) := Lib.hid (by rw [Hc.out, if_neg (fun x => x.elim (fun y => by rw [HE.out] at y; cases y) (fun y => by rw [hP] at y; cases y))])
            clear hP g1 gf
            have g1 := H3.out.cell1
            have gf := H3.out.frozen 1
            go_wp2_with fail
            go_ret
            rw [He.out]
            exact ⟨rfl, H3.out.to Hsu.out Hat.out, ((hxb.on hb2).on hb3).set _ _ _⟩

end Reg
end Go.Proofs.YtjoohpdohdehgaaGreatDoor
