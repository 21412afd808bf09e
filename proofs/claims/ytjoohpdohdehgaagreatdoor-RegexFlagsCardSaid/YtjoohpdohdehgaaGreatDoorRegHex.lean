/-
  So many hexadecimal digits; the digits of a code point in braces.
-/
import Derived.Test.YtjoohpdohdehgaaGreatDoorRegProp
namespace Go.Proofs.YtjoohpdohdehgaaGreatDoor
namespace Reg
open Go.RowKit
open Str (lenL runeL hexV)

/-- A character of ASCII is one byte. -/
theorem chr_ascii {p : Int → Bool} (hp : ∀ c : Int, p c = true → c < 128) {l : List UInt8} {r : Nat × List UInt8} (h : chrP p l = .ok r) : ∃ x, l = x :: r.2 ∧ x.toNat = r.1 ∧ p x.toNat = true := by
  unfold chrP at h
  by_cases e : lenL l = 0 ∨ Uni.endsB (runeL l) = true ∨ p (runeL l) = false
  · rw [if_pos e] at h; cases h
  · rw [if_neg e] at h
    cases h
    have hpr : p (runeL l) = true := by
      cases hq : p (runeL l) with
      | true => rfl
      | false => exact absurd (Or.inr (Or.inr hq)) e
    have hlt := hp _ hpr
    cases l with
    | nil => exact absurd (Or.inl rfl) e
    | cons x t =>
      rcases Str.lenL_cons x t with ⟨h1, _⟩ | ⟨h1, _, h3⟩ | ⟨h1, _, h3, _⟩
      · exact absurd (Or.inl h1) e
      · refine ⟨x, by rw [h1]; rfl, h3.symm, by rw [← h3]; exact hpr⟩
      · omega
theorem hex_small (c : Int) (h : hexB c = true) : c < 128 := by have := of_decide_eq_true h; omega
theorem valL_lt (d : List UInt8) : ∀ v, valL v d < (v + 1) * 16 ^ d.length := by
  induction d with
  | nil => intro v; simp [valL]
  | cons x t ih =>
    intro v
    have := ih (v * 16 + (hexV x.toNat).toNat)
    have hr := Str.hexV_range x.toNat
    rw [valL, List.length_cons, Nat.pow_succ]
    have h2 : v * 16 + (hexV x.toNat).toNat + 1 ≤ (v + 1) * 16 := by omega
    have h3 := Nat.mul_le_mul_right (16 ^ t.length) h2
    calc valL (v * 16 + (hexV x.toNat).toNat) t < (v * 16 + (hexV x.toNat).toNat + 1) * 16 ^ t.length := this
      _ ≤ (v + 1) * 16 * 16 ^ t.length := h3
      _ = (v + 1) * (16 ^ t.length * 16) := by rw [Nat.mul_assoc, Nat.mul_comm 16]

theorem pu_held (K : Box) (m : List UInt8) (u : World) (d : List UInt8) (t : ByteArray) (ht : t = Str.ofL d) (hs : d.length ≤ 4096) (hne : d ≠ []) (hx : ∀ x ∈ d, hexB x.toNat = true) (hv : valL 0 d ≤ 4294967295) (wx : World) (h : Rd K m wx) (hb : Bar K.b u wx) :
    Calls Tryz.prog 108 #[.string t, .int .i64 16, .int .i64 32] wx fun e w' => e = .returned (.tuple #[.int .u64 (valL 0 d : Nat), .nilIface]) ∧ w'.cell? ⟨K.b, 0, none⟩ = some (.string K.s) ∧ w'.cell? ⟨K.b, 1, none⟩ = some (.int .i64 (K.at m)) ∧ Rd K m w' ∧ Bar K.b u w' := by
  subst ht
  exact (pu_ok (Str.ofL d) wx hs hne hx hv).mono fun _ _ ⟨he, hw⟩ => ⟨he, (h.on hw).cell0, (h.on hw).cell1, h.on hw, hb.on hw⟩
theorem pu_bad (K : Box) (m : List UInt8) (u : World) (d : List UInt8) (t : ByteArray) (ht : t = Str.ofL d) (hs : d.length ≤ 4096) (hx : ∀ x ∈ d, hexB x.toNat = true) (hv : d = [] ∨ ¬ valL 0 d ≤ 4294967295) (wx : World) (h : Rd K m wx) (hb : Bar K.b u wx) :
    Calls Tryz.prog 108 #[.string t, .int .i64 16, .int .i64 32] wx fun e w' => ∃ v N, e = .returned (.tuple #[.int .u64 v, .iface 117 (.pointer (some ⟨N, 0, none⟩))]) ∧ w'.cell? ⟨K.b, 0, none⟩ = some (.string K.s) ∧ w'.cell? ⟨K.b, 1, none⟩ = some (.int .i64 (K.at m)) ∧ Rd K m w' ∧ Bar K.b u w' := by
  subst ht
  by_cases hd : d = []
  · exact (pu_none (Str.ofL d) wx K.B h.tabs hd).mono fun _ _ ⟨v, N, he, hw⟩ => ⟨v, N, he, (h.on hw).cell0, (h.on hw).cell1, h.on hw, hb.on hw⟩
  · exact (pu_over (Str.ofL d) wx K.B h.tabs hs hd hx (hv.resolve_left hd)).mono fun _ _ ⟨v, N, he, hw⟩ => ⟨v, N, he, (h.on hw).cell0, (h.on hw).cell1, h.on hw, hb.on hw⟩

set_option maxHeartbeats 2000000 in
set_option maxRecDepth 20000 in
theorem digits_any (K : Box) (l : List UInt8) (n : Nat) (hn1 : 1 ≤ n) (hn4 : n ≤ 4) (w : World) (h : Rd K l w) :
    Calls Tryz.prog 95 #[K.ptr, .int .i64 n] w (Post K w (fun v : Nat => .int .i64 v) (hexP n 0 l)) := by
  have hs := h.small
  have hle := at_le K l
  have h1 := h.cell1
  have H := Lib.hid h; clear h
  obtain ⟨R, hR⟩ : ∃ R, hexP n 0 l = R := ⟨_, rfl⟩
  have HN := Lib.hid hR
  rw [hR]; clear hR
  go_enter Tryz.func95, Tryz.ntmps95
  go_wp2_with fail
  go_loopg [13] n (fun k c wr => ∃ (j : Nat) (d m : List UInt8), k + j = n ∧ c = .int .i64 j ∧ d.length = j ∧ l = d ++ m ∧ (∀ x ∈ d, hexB x.toNat = true) ∧ R = hexP k (valL 0 d) m ∧ Rd K m wr ∧ Bar K.b w wr)
  case atStart => exact ⟨0, [], l, by omega, rfl, rfl, rfl, fun x hx => (by cases hx), HN.out.symm, H.out, Bar.refl _ _⟩
  case round =>
    obtain ⟨j, d, m, hk, rfl, hd, hl, hx, hr, hrd, hbar⟩ := hrel
    have Hd := Lib.hid hd; have HL := Lib.hid hl; have HX := Lib.hid hx; have Hr := Lib.hid hr; have HR := Lib.hid hrd
    clear hd hl hx hr hrd h1
    have Hk := Lib.hid hk
    by_cases hlt : j < n
    · obtain ⟨k, rfl⟩ : ∃ k', gk = k' + 1 := ⟨gk - 1, by omega⟩
      clear hk
      go_wp2_with fail
      refine (character_hex K m _ HR.out).mono ?_
      intro e w3 hp
      cases hc : chrP hexB m with
      | error x =>
        rw [hc] at hp
        obtain ⟨rfl, hb3⟩ := hp
        have He : Hid (R = .error x) := Lib.hid (by rw [Hr.out, hexP, hc])
        clear hc
        unfold thrown
        go_wp2_with fail
        rw [He.out]
        exact ⟨rfl, rfl, hbar.trans hb3⟩
      | ok q =>
        rw [hc] at hp
        obtain ⟨rfl, hr3, hb3⟩ := hp
        obtain ⟨x, hm, hxr, hxh⟩ := chr_ascii hex_small hc
        have HM := Lib.hid hm; have HXR := Lib.hid hxr; have HXH := Lib.hid hxh; have HR3 := Lib.hid hr3
        have He : Hid (R = hexP k (valL 0 (d ++ [x])) q.2) := Lib.hid (by rw [Hr.out, hexP, hc, valL_app]; simp only [valL]; rw [hxr])
        clear hc hm hxr hxh hr3
        go_wp2_with fail
        go_roundg k
        case measure => omega
        case rel =>
          refine ⟨j + 1, d ++ [x], q.2, by have := Hk.out; omega, by go_num, by rw [List.length_append, Hd.out]; rfl, by rw [HL.out, HM.out]; simp, fun y hy => ?_, He.out, HR3.out, hbar.trans hb3⟩
          rcases List.mem_append.1 hy with h | h
          · exact HX.out y h
          · rw [List.mem_singleton.1 h]; exact HXH.out
    · have hj : j = n := by omega
      have hk0 : gk = 0 := by omega
      have He : Hid (R = .ok (valL 0 d, m)) := Lib.hid (by rw [Hr.out, hk0]; rfl)
      have ham := at_mid H.out.len HL.out
      obtain ⟨ham1, ham2, -⟩ := ham
      have hi1 : ((K.at l : Nat) : Int) ≤ (K.at m : Nat) := by omega
      have hdl : d.length ≤ 4 := by rw [Hd.out]; omega
      have hdn : d ≠ [] := fun h => by have := Hd.out; rw [h] at this; simp only [List.length_nil] at this; omega
      have hvl : valL 0 d < 65536 := by
        have := valL_lt d 0
        have h2 : 16 ^ d.length ≤ 16 ^ 4 := Nat.pow_le_pow_right (by decide) hdl
        omega
      have CC := Lib.hid (pu_held K m w d (K.s.extract (K.at l) (K.at m)) (extract_mid H.out.suf HL.out) (by omega) hdn HX.out (by omega))
      have h0 := HR.out.cell0
      have h1 := HR.out.cell1
      have hK : Rd K m wr := HR.out
      have hB : Bar K.b w wr := hbar
      have CD : ∀ wx n, Rd K m wx → Rd K m (wx.drewN n) := fun wx n hx => hx.drewN n
      have CE : ∀ wx n, Bar K.b w wx → Bar K.b w (wx.drewN n) := fun wx n hx => hx.drewN n
      clear hk hj hk0 hdn hbar
      generalize valL 0 d = v at *
      go_upto_region 6 with fail
      go_cut [6, 7] from 18 to 31 (fun a b wx => a = .int .u64 v ∧ b = .nilIface ∧ Rd K m wx ∧ Bar K.b w wx)
      case first =>
        go_region_held3 (fun wx => wx.cell? ⟨K.b, 0, none⟩ = some (.string K.s) ∧ wx.cell? ⟨K.b, 1, none⟩ = some (.int .i64 (K.at m)) ∧ Rd K m wx ∧ Bar K.b w wx)
          (first | exact ⟨h0, h1, hK, hB⟩ | exact ⟨h0, h1, CD _ 1 hK, CE _ 1 hB⟩ | assumption)
          (first
          | (go_at_call 108; refine (CC.out _ ?_ ?_).mono ?_; (first | exact hK | assumption | exact CD _ 1 hK); (first | exact hB | assumption | exact CE _ 1 hB); rintro e wx ⟨rfl, h0, h1, hK, hB⟩))
        all_goals (go_wp2_with fail; go_meet; exact ⟨rfl, rfl, hK, hB⟩)
      case rest =>
        obtain ⟨rfl, rfl, hx, hxb⟩ := hcut
        have HX2 := Lib.hid hx
        clear h0 h1 hK hx CD CE CC hB
        have hv2 : (v : Int) < 65536 := by omega
        go_wp2_with fail
        go_ret
        rw [He.out]
        exact ⟨rfl, HX2.out, hxb⟩

end Reg
end Go.Proofs.YtjoohpdohdehgaaGreatDoor
