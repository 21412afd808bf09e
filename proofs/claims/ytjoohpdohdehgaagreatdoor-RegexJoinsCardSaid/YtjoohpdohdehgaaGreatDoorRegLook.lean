/-
  What was noted is looked after; a group's name.
-/
import Derived.Test.YtjoohpdohdehgaaGreatDoorRegRefer
namespace Go.Proofs.YtjoohpdohdehgaaGreatDoor
namespace Reg
open Go.RowKit Go.Maps Go.WideMaps Go.Sort
open Str (lenL runeL hexV)

theorem NamesAt.look {C : Ctx} {names : List (List UInt8)} {w : World} (h : NamesAt C names w) (t : List UInt8) (ht : t.length ≤ 4096) :
    ∃ c : Int, (∀ n, (Instr.lookup 58 (.map (some C.mb)) (.string (Str.ofL t)) false).run Tryz.prog (w.drewN n) = .ok (.int .i64 c) (w.drewN n)) ∧ (c = 0 ↔ t ∉ names) := by
  obtain ⟨D, h1, h2, h3⟩ := h
  obtain ⟨c, hc, hz⟩ := h3 t
  refine ⟨c, fun n => ?_, hz⟩
  have h4 : (w.drewN n).ownsMap Tryz.prog 9 (plainElem Tryz.prog 3) C.mb names.length D := h1
  obtain ⟨c', hrun, hat, _⟩ := h4.lookup_int strLaw Tryz.underlying58 Tryz.underlying3 (zeroI _) (keyOf_string_mk Tryz.underlying9 (s := Str.ofL t) (by show t.length ≤ maxLen; unfold maxLen; omega))
  have e : (DataW.lit (.int .i64 c') : DataW Unit) = .lit (.int .i64 c) := hat.symm.trans hc
  have e2 : Lit.int .i64 c' = .int .i64 c := by injection e
  have e3 : c' = c := by injection e2
  subst e3
  exact hrun

/-- How a look ends. -/
def lookEnd (bad : Bool) (v c : Int) : Ending := if bad = true then thrown v c else .returned (.tuple #[])

set_option maxHeartbeats 1000000 in
set_option maxRecDepth 20000 in
theorem lookName_any (C : Ctx) (names : List (List UInt8)) (w : World) (K : Box) (l : List UInt8) (hK : K.b = C.b ∧ K.m = .map (some C.mb)) (hr : Rd K l w) (hn : NamesAt C names w) (a t p : Nat) (txt : List UInt8) (ht : txt.length ≤ 4096) (v : Int)
    (ha : w.cell? ⟨a, 0, none⟩ = some (.pointer (some ⟨C.b, 0, none⟩))) (htx : w.cell? ⟨t, 0, none⟩ = some (.string (Str.ofL txt))) (hp : w.cell? ⟨p, 0, none⟩ = some (.int .i64 v)) :
    Calls Tryz.prog 87 #[.pointer (some ⟨a, 0, none⟩), .pointer (some ⟨t, 0, none⟩), .pointer (some ⟨p, 0, none⟩)] w fun e w' => e = lookEnd (!decide (txt ∈ names)) v 404 ∧ ∃ n, w' = w.drewN n := by
  obtain ⟨c, hlk, hc⟩ := hn.look txt ht
  have h4 : w.cell? ⟨C.b, 4, none⟩ = some (.map (some C.mb)) := by rw [← hK.1, ← hK.2]; exact hr.cell4
  clear hr hn hK
  by_cases hm : txt ∈ names
  · have eb : (c == 0) = false := beq_eq_false_iff_ne.2 (fun e => (hc.1 e) hm)
    have HV : Hid (lookEnd (!decide (txt ∈ names)) v 404 = .returned (.tuple #[])) := Lib.hid (by rw [decide_eq_true hm]; rfl)
    rw [HV.out]
    clear hc hm
    go_enter Tryz.func87, Tryz.ntmps87
    go_wp2_with fail
    go_quiet (fail)
    go_wp2_with fail
    go_end0
    exact ⟨rfl, _, rfl⟩
  · have eb : (c == 0) = true := beq_iff_eq.2 (hc.2 hm)
    have HV : Hid (lookEnd (!decide (txt ∈ names)) v 404 = thrown v 404) := Lib.hid (by rw [decide_eq_false hm]; rfl)
    rw [HV.out]
    clear hc hm
    go_enter Tryz.func87, Tryz.ntmps87
    go_wp2_with fail
    go_quiet (fail)
    go_wp2_with fail
    refine (throw_any _ _ _).mono ?_
    rintro e w1 ⟨rfl, rfl⟩
    unfold thrown
    go_wp2_with fail
    exact ⟨rfl, rfl, _, rfl⟩

theorem itoa_held (K : Box) (l : List UInt8) (u : World) (a t p : Nat) (txt : List UInt8) (g : Nat) (v : Int) (hg : g < 1000000000) (hKg : K.g = g) (wx : World) (h : Rd K l wx) (hb : Below u.heap.size u wx)
    (la : a < u.heap.size ∧ t < u.heap.size ∧ p < u.heap.size)
    (ha : wx.cell? ⟨a, 0, none⟩ = some (.pointer (some ⟨K.b, 0, none⟩))) (htx : wx.cell? ⟨t, 0, none⟩ = some (.string (Str.ofL txt))) (hp : wx.cell? ⟨p, 0, none⟩ = some (.int .i64 v)) :
    Calls Tryz.prog 91 #[.int .i64 g] wx fun e w' => e = .returned (.string (Str.ofL (decF 9 g))) ∧ w'.cell? ⟨a, 0, none⟩ = some (.pointer (some ⟨K.b, 0, none⟩)) ∧ w'.cell? ⟨K.b, 3, none⟩ = some (.int .i64 g) ∧ w'.cell? ⟨t, 0, none⟩ = some (.string (Str.ofL txt)) ∧ w'.cell? ⟨p, 0, none⟩ = some (.int .i64 v) ∧ Rd K l w' ∧ Below u.heap.size u w' := by
  refine (Tryz.strconv_Itoa (g : Int) (by omega) (by omega) wx h.tabs.at.pow).mono ?_
  rintro e w' ⟨he, k, os, rfl⟩
  have hbe : Below wx.heap.size wx (grow (wx.drewN k) os) := Lib.below_grow wx.heap.size wx (Nat.le_refl _) k os
  have hk : ∀ j, j < u.heap.size → (grow (wx.drewN k) os).heap[j]? = wx.heap[j]? := fun j hj => hbe.block j (Nat.lt_of_lt_of_le hj hb.size)
  refine ⟨?_, (World.cell?_of_block (hk a la.1)).trans ha, by rw [← hKg]; exact (h.on hbe).cell3, (World.cell?_of_block (hk t la.2.1)).trans htx, (World.cell?_of_block (hk p la.2.2)).trans hp, h.on hbe, hb.trans (hbe.mono hb.size)⟩
  rw [he, decF_eq 9 g (by decide) (by omega)]
  have e2 : Lib.itoa (g : Int) = Lib.decDigits g := by unfold Lib.itoa; rw [if_neg (by omega), Int.toNat_natCast]
  rw [e2]; rfl

set_option maxHeartbeats 2000000 in
set_option maxRecDepth 20000 in
theorem lookNumber_any (w : World) (K : Box) (l : List UInt8) (g : Nat) (hKg : K.g = g) (hg : g < 1000000000) (hr : Rd K l w) (a t p : Nat) (txt : List UInt8) (v : Int)
    (ha : w.cell? ⟨a, 0, none⟩ = some (.pointer (some ⟨K.b, 0, none⟩))) (htx : w.cell? ⟨t, 0, none⟩ = some (.string (Str.ofL txt))) (hp : w.cell? ⟨p, 0, none⟩ = some (.int .i64 v)) :
    Calls Tryz.prog 90 #[.pointer (some ⟨a, 0, none⟩), .pointer (some ⟨t, 0, none⟩), .pointer (some ⟨p, 0, none⟩)] w fun e w' => e = lookEnd (lessB (decF 9 g) txt) v 402 ∧ Below w.heap.size w w' := by
  have la : a < w.heap.size ∧ t < w.heap.size ∧ p < w.heap.size := ⟨World.block_lt_of_cell? w _ ha, World.block_lt_of_cell? w _ htx, World.block_lt_of_cell? w _ hp⟩
  have h3 : w.cell? ⟨K.b, 3, none⟩ = some (.int .i64 g) := by rw [← hKg]; exact hr.cell3
  have CC := Lib.hid (fun wx h1 h2 h3 h4 h5 => itoa_held K l w a t p txt g v hg hKg wx h1 h2 la h3 h4 h5)
  have hK : Rd K l w := hr
  have hB : Below w.heap.size w w := Below.refl _ _
  have CD : ∀ wx n, Rd K l wx → Rd K l (wx.drewN n) := fun wx n hx => hx.drewN n
  have CE : ∀ wx n, Below w.heap.size w wx → Below w.heap.size w (wx.drewN n) := fun wx n hx => below_drewN hx n
  have Hla := Lib.hid la
  clear hr hKg la
  go_enter Tryz.func90, Tryz.ntmps90
  go_upto_region 0 with fail
  go_cut [9] from 3 to 8 (fun b wx => b = .bool (lessB (decF 9 g) txt) ∧ wx.cell? ⟨p, 0, none⟩ = some (.int .i64 v) ∧ Below w.heap.size w wx)
  case first =>
    go_region_held3 (fun wx => wx.cell? ⟨a, 0, none⟩ = some (.pointer (some ⟨K.b, 0, none⟩)) ∧ wx.cell? ⟨K.b, 3, none⟩ = some (.int .i64 g) ∧ wx.cell? ⟨t, 0, none⟩ = some (.string (Str.ofL txt)) ∧ wx.cell? ⟨p, 0, none⟩ = some (.int .i64 v) ∧ Rd K l wx ∧ Below w.heap.size w wx)
      (first | exact ⟨ha, h3, htx, hp, hK, hB⟩ | exact ⟨ha, h3, htx, hp, CD _ 1 hK, CE _ 1 hB⟩ | assumption)
      (first
      | (go_at_call 91; refine (CC.out _ ?_ ?_ ?_ ?_ ?_).mono ?_; (first | exact hK | assumption | exact CD _ 1 hK); (first | exact hB | assumption | exact CE _ 1 hB); (first | exact ha | assumption); (first | exact htx | assumption); (first | exact hp | assumption); rintro e wx ⟨rfl, ha, h3, htx, hp, hK, hB⟩)
      | (go_at_call 81; refine (less_ofL _ _ _).mono ?_; rintro e wx ⟨rfl, rfl⟩))
    all_goals (go_wp2_with fail; go_meet; exact ⟨rfl, hp, hB⟩)
  case rest =>
    obtain ⟨rfl, hpx, hbx⟩ := hcut
    clear ha htx hp h3 hK hB CD CE CC
    cases hL : lessB (decF 9 g) txt with
    | true =>
      have HL := Lib.hid hL; clear hL
      go_wp2_with fail
      refine (throw_any _ _ _).mono ?_
      rintro e w1 ⟨rfl, rfl⟩
      unfold thrown
      go_wp2_with fail
      rw [HL.out]
      exact ⟨rfl, rfl, hbx⟩
    | false =>
      have HL := Lib.hid hL; clear hL
      go_wp2_with fail
      go_end0
      rw [HL.out]
      exact ⟨rfl, hbx⟩

end Reg
end Go.Proofs.YtjoohpdohdehgaaGreatDoor
