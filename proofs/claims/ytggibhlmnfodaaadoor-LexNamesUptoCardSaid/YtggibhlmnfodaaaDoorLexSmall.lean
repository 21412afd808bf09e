/-
  The reader's small functions.
-/
import Derived.Test.YtggibhlmnfodaaaDoorLexRd
import Derived.Test.YtggibhlmnfodaaaDoorLexLoc
namespace Go.Proofs.YtggibhlmnfodaaaDoor
namespace Lex
open Go.RowKit
open Str (lenL runeL)

theorem pre_of (l t : List UInt8) : Lib.hasPrefix l t = pre t l := by
  unfold Lib.hasPrefix pre
  rw [Bool.eq_iff_iff, List.isPrefixOf_iff_prefix, decide_eq_true_eq, List.prefix_iff_eq_take]
  exact ⟨fun h => h.symm, fun h => h.symm⟩

theorem prefix_held (K : Box) (l : List UInt8) (u : World) (t : ByteArray) (w : World) (h : Rd K l w) (hb : Below u.heap.size u w) :
    Calls Tryd.prog 15 #[.string (K.s.extract (K.at l) K.s.size), .string t] w fun e w' => e = .returned (.bool (pre t.data.toList l)) ∧ w'.cell? ⟨K.b, 0, none⟩ = some (.int .i64 (K.at l)) ∧ w'.cell? ⟨K.b, 1, none⟩ = some (.string K.s) ∧ Rd K l w' ∧ Below u.heap.size u w' :=
  (Tryd.strings_HasPrefix _ _ w).mono fun _ _ ⟨he, hw⟩ => by
    subst hw
    refine ⟨?_, h.cell0, h.cell1, h, hb⟩
    rw [he, extract_at K l h.suf, pre_of]; rfl

set_option maxHeartbeats 1000000 in
set_option maxRecDepth 20000 in
theorem follows_raw (K : Box) (l : List UInt8) (t : ByteArray) (w : World) (h : Rd K l w) :
    Calls Tryd.prog 11 #[K.ptr, .string t] w fun e w' => e = .returned (.bool (pre t.data.toList l)) ∧ Rd K l w' ∧ Below w.heap.size w w' := by
  have hs := h.small
  have hle := at_le K l
  have h0 := h.cell0
  have h1 := h.cell1
  have hK : Rd K l w := h
  have hB : Below w.heap.size w w := Below.refl _ _
  have CD : ∀ wx n, Rd K l wx → Rd K l (wx.drewN n) := fun wx n hx => hx.drewN n
  have CE : ∀ wx n, Below w.heap.size w wx → Below w.heap.size w (wx.drewN n) := fun wx n hx => below_drewN hx n
  have CC := Lib.hid (prefix_held K l w)
  obtain ⟨v, hv⟩ : ∃ v, pre t.data.toList l = v := ⟨_, rfl⟩
  have HV := Lib.hid hv
  clear h hv
  go_enter Tryd.func11, Tryd.ntmps11
  go_upto_region 1 with fail
  go_cut [4] from 5 to 17 (fun c wx => c = .bool v ∧ Rd K l wx ∧ Below w.heap.size w wx)
  case first =>
    go_region_held3 (fun wx => wx.cell? ⟨K.b, 0, none⟩ = some (.int .i64 (K.at l)) ∧ wx.cell? ⟨K.b, 1, none⟩ = some (.string K.s) ∧ Rd K l wx ∧ Below w.heap.size w wx)
      (first | exact ⟨h0, h1, hK, hB⟩ | exact ⟨h0, h1, CD _ _ hK, CE _ _ hB⟩ | assumption)
      (first
      | (go_at_call 15; refine (CC.out _ _ ?_ ?_).mono ?_; (first | exact hK | assumption | exact CD _ _ hK); (first | exact hB | assumption | exact CE _ _ hB); rintro e wx ⟨rfl, h0, h1, hK, hB⟩))
    all_goals (go_wp2_with fail; go_meet; exact ⟨by rw [HV.out], hK, hB⟩)
  case rest =>
    obtain ⟨rfl, hx, hxb⟩ := hcut
    have HXX := Lib.hid (And.intro hx hxb)
    clear h0 h1 hK hx CD CE CC hB hxb hs hle
    go_wp2_with fail
    go_ret
    rw [HV.out]
    exact ⟨rfl, HXX.out⟩

/-- A look's answer, hidden from the walk. -/
theorem look_any (K : Box) (l : List UInt8) (c : Int) (k : Nat) (hc : chL l = c) (hk : lenL l = k) (w : World) (h : Rd K l w) :
    Calls Tryd.prog 16 #[K.ptr] w fun e w' => e = .returned (.tuple #[.int .i64 c, .int .i64 k]) ∧ Rd K l w' ∧ Below w.heap.size w w' :=
  (look_raw K l w h).mono fun _ _ ⟨he, hr⟩ => ⟨by rw [he, lookV, hc, hk], hr⟩
theorem follows_any (K : Box) (l : List UInt8) (t : ByteArray) (v : Bool) (hv : pre t.data.toList l = v) (w : World) (h : Rd K l w) :
    Calls Tryd.prog 11 #[K.ptr, .string t] w fun e w' => e = .returned (.bool v) ∧ Rd K l w' ∧ Below w.heap.size w w' :=
  (follows_raw K l t w h).mono fun _ _ ⟨he, hr⟩ => ⟨by rw [he, hv], hr⟩

set_option maxHeartbeats 400000 in
theorem digit_raw (c : Int) (w : World) :
    Calls Tryd.prog 41 #[.int .i64 c] w fun e w' => e = .returned (.bool (digC c)) ∧ w = w' := by
  by_cases c1 : 48 ≤ c
  · by_cases c2 : c ≤ 57
    · have Hd : Hid (digC c = true) := Lib.hid (decide_eq_true ⟨c1, c2⟩)
      go_enter Tryd.func41, Tryd.ntmps41
      go_wp2_with fail
      go_ret
      exact ⟨Uni.ret_bool Hd.out.symm, rfl⟩
    · have Hd : Hid (digC c = false) := Lib.hid (decide_eq_false (fun h => c2 h.2))
      go_enter Tryd.func41, Tryd.ntmps41
      go_wp2_with fail
      go_ret
      exact ⟨Uni.ret_bool Hd.out.symm, rfl⟩
  · have Hd : Hid (digC c = false) := Lib.hid (decide_eq_false (fun h => c1 h.1))
    go_enter Tryd.func41, Tryd.ntmps41
    go_wp2_with fail
    go_ret
    exact ⟨Uni.ret_bool Hd.out.symm, rfl⟩
theorem digit_any (c : Int) (v : Bool) (hv : digC c = v) (w : World) :
    Calls Tryd.prog 41 #[.int .i64 c] w fun e w' => e = .returned (.bool v) ∧ w = w' :=
  (digit_raw c w).mono fun _ _ ⟨he, hr⟩ => ⟨by rw [he, hv], hr⟩

set_option maxHeartbeats 400000 in
theorem fail_any (K : Box) (l m : List UInt8) (z c : Int) (w : World) (h : Rd K l w) (hm : m <:+ K.s.data.toList) (hz : z = (K.at m : Nat)) :
    Calls Tryd.prog 28 #[K.ptr, .int .i64 z, .int .i64 c] w fun e w' => e = .returned (.int .i64 c) ∧ Rd K m w' ∧ Bar K.b w w' := by
  have h0 := h.cell0
  have f0 := h.frozen 0
  have H := Lib.hid h
  have HM := Lib.hid hm
  have HZ := Lib.hid hz
  clear h hm hz
  go_enter Tryd.func28, Tryd.ntmps28
  go_wp2_with fail
  go_ret
  exact ⟨rfl, H.out.toAny HM.out HZ.out, (Bar.refl _ _).set _ _ _⟩

set_option maxHeartbeats 400000 in
set_option maxRecDepth 20000 in
theorem digitBehind_any (K : Box) (l : List UInt8) (k : Nat) (hk : k ≤ l.length) (v : Bool) (hv : digAt (l.drop k) = v) (w : World) (h : Rd K l w) :
    Calls Tryd.prog 33 #[K.ptr, .int .i64 k] w fun e w' => e = .returned (.bool v) ∧ Rd K l w' ∧ Below w.heap.size w w' := by
  have hs := h.small
  have hle := at_le K l
  have h0 := h.cell0
  have h1 := h.cell1
  have hat := at_drop K l k h.len hk
  have hsuf : l.drop k <:+ K.s.data.toList := (List.drop_suffix _ _).trans h.suf
  have hl2 := hsuf.length_le
  have H := Lib.hid h
  clear h hk
  generalize l.drop k = m at *
  cases m with
  | nil =>
    have Hv : Hid (v = false) := Lib.hid (by rw [← hv]; rfl)
    have hge : ((K.at l : Nat) : Int) + (k : Nat) = K.s.size := by rw [hat, at_nil]
    clear hv hat hsuf hl2
    generalize K.at l = i at *
    generalize hq : (i : Int) + (k : Nat) = q at *
    subst hge
    have Hq := Lib.hid hq
    have hw : IntKind.i64.wrap ((i : Int) + (k : Nat)) = K.s.size := by rw [hq, IntKind.wrap_i64]; omega
    clear hq
    go_enter Tryd.func33, Tryd.ntmps33
    go_wp2_with fail
    go_ret
    exact ⟨Uni.ret_bool Hv.out.symm, H.out, Below.refl _ _⟩
  | cons x t =>
    have hlt : K.at (x :: t) < K.s.size := at_lt (by simpa using hl2) (List.cons_ne_nil _ _)
    have Hh := Lib.hid (at_byte hsuf hlt)
    have Hv : Hid (digC x.toNat = v) := Lib.hid hv
    clear hv hsuf hl2
    generalize K.at l = i at *
    generalize K.at (x :: t) = j at *
    have gb : ((K.s[j]'hlt).toNat : Int) < 256 := by have := (K.s[j]'hlt).toNat_lt; omega
    generalize hq : (i : Int) + (k : Nat) = q at *
    subst hat
    have Hq := Lib.hid hq
    have hw : IntKind.i64.wrap ((i : Int) + (k : Nat)) = (j : Int) := by rw [hq, IntKind.wrap_i64]; omega
    clear hq
    go_enter Tryd.func33, Tryd.ntmps33
    go_wp2_with fail
    refine (digit_any _ v (by rw [Hh.out]; exact Hv.out) _).mono ?_
    rintro e w1 ⟨rfl, rfl⟩
    go_wp2_with fail
    go_ret
    exact ⟨rfl, H.out, Below.refl _ _⟩

end Lex
end Go.Proofs.YtggibhlmnfodaaaDoor
