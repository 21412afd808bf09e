/-
  The reader's own contracts: a character, digits, what stands behind a backslash, a part.
-/
import Derived.Test.YtggibhlmnfodaaaDoorStrRd
import Derived.Deep.RegionHeld3
namespace Go.Proofs.YtggibhlmnfodaaaDoor
namespace Str
open Go.RowKit

/-- What is handed back: a number and whether all was well. -/
def two (v : Option Int) : Value := .tuple #[.int .i64 (v.getD 0), .bool v.isSome]
/-- The reader stands k places on; all else stands. -/
def Went (b : Nat) (s : ByteArray) (i : Nat) (r : Nat × Option Int) (w : World) (e : Ending) (w' : World) : Prop :=
  e = .returned (two r.2) ∧ Rd b s (i + r.1) w' ∧ Bar b w w'

theorem extract_suf (s : ByteArray) (i : Nat) : (s.extract i s.size) = ofL (sufL s i) := by
  apply ByteArray.ext
  apply Array.ext'
  have : (s.extract i s.size).data.toList = s.data.toList.drop i := by
    simp only [ByteArray.data_extract, Array.toList_extract, List.extract_eq_take_drop]
    exact List.take_of_length_le (by simp)
  rw [this]; rfl

theorem decode_ofL (l : List UInt8) : Lib.decodeGo (ofL l) = if l = [] then (65533, 0) else if lenL l = 0 then (65533, 1) else (runeL l, lenL l) := by
  unfold Lib.decodeGo
  rw [ofL_size]
  by_cases h : l = []
  · subst h; rfl
  · rw [if_neg (by intro e; exact h (List.eq_nil_of_length_eq_zero e)), if_neg h, Uni.decode_eq]
    unfold lenL runeL
    rw [if_neg h]

theorem Tabs.drewN {w : World} (h : Tabs w) (n : Nat) : Tabs (w.drewN n) := h
def chrR (l : List UInt8) : Nat × Option Int := (lenL l, if lenL l = 0 then none else some (runeL l : Int))

/-- What is held of a world while block b is a reader of s at i. -/
def Held (b : Nat) (s : ByteArray) (i : Nat) (w wx : World) : Prop := Rd b s i wx ∧ Bar b w wx

theorem Rd.sets {b : Nat} {s : ByteArray} {i : Nat} {w : World} (h : Rd b s i w) {z : Int} {j : Nat} (hz : z = j) : Rd b s j (w.setCell ⟨b, 1, none⟩ (.int .i64 z)) := by subst hz; exact h.set j
theorem went_none {b : Nat} {s : ByteArray} {i : Nat} {w wx : World} {r : Nat × Option Int} {k : Nat} (he : r = (k, none)) (h : Held b s (i + k) w wx) :
    Went b s i r w (.returned (.tuple #[.int .i64 0, .bool false])) wx := by subst he; exact ⟨rfl, h⟩
theorem went_some {b : Nat} {s : ByteArray} {i j : Nat} {w wx : World} {r : Nat × Option Int} {k : Nat} {v v' z : Int} (he : r = (k, some v)) (hv : v' = v) (h : Held b s j w wx) (hz : z = ((i + k : Nat) : Int))
    {u : World} (hu : u = wx.setCell ⟨b, 1, none⟩ (.int .i64 z)) : Went b s i r w (.returned (.tuple #[.int .i64 v', .bool true])) u := by
  subst he; subst hv; subst hu; exact ⟨rfl, h.1.sets hz, h.2.set _ _ _⟩

theorem decode_held (b : Nat) (s : ByteArray) (i : Nat) (w : World) (hb2 : 2 ≤ b) (hT : Tabs w) (t : ByteArray) (wx : World) (h : Held b s i w wx) :
    Calls Tryd.prog 26 #[.string t] wx fun e w' => e = .returned (.tuple #[.int .i32 (Lib.decodeGo t).1, .int .i64 (Lib.decodeGo t).2]) ∧ w'.cell? ⟨b, 0, none⟩ = some (.string s) ∧ w'.cell? ⟨b, 1, none⟩ = some (.int .i64 i) ∧ Held b s i w w' :=
  (Tryd.utf8_DecodeRuneInString t wx (hT.bar h.2 hb2).2).mono fun _ _ ⟨he, hw⟩ => ⟨he, (h.1.keep hw).cell0, (h.1.keep hw).cell1, h.1.keep hw, h.2.trans (Bar.of hw)⟩

set_option maxHeartbeats 1000000 in
set_option maxRecDepth 20000 in
theorem character_any (b : Nat) (s : ByteArray) (i : Nat) (w : World) (hs : s.size ≤ maxLen) (hi : i ≤ s.size) (h : Rd b s i w) (hb2 : 2 ≤ b) (hT : Tabs w) :
    Calls Tryd.prog 51 #[.pointer (some ⟨b, 0, none⟩)] w (Went b s i (chrR (sufL s i)) w) := by
  unfold maxLen at hs
  have h0 := h.cell0
  have h1 := h.cell1
  have hK : Held b s i w w := ⟨h, Bar.refl _ _⟩
  have CD : ∀ wx n, Held b s i w wx → Held b s i w (wx.drewN n) := fun wx n hx => ⟨hx.1.drewN n, hx.2.drewN n⟩
  have CC := Lib.hid (decode_held b s i w hb2 hT)
  have H := Lib.hid h; clear h
  go_enter Tryd.func51, Tryd.ntmps51
  go_upto_region 1 with fail
  go_cut [4, 5] from 6 to 18 (fun c k wx => c = .int .i32 (Lib.decodeGo (s.extract i s.size)).1 ∧ k = .int .i64 (Lib.decodeGo (s.extract i s.size)).2 ∧ Held b s i w wx)
  case first =>
    go_region_held3 (fun wx => wx.cell? ⟨b, 0, none⟩ = some (.string s) ∧ wx.cell? ⟨b, 1, none⟩ = some (.int .i64 i) ∧ Held b s i w wx)
      (first | exact ⟨h0, h1, hK⟩ | exact ⟨h0, h1, CD _ 1 hK⟩ | assumption)
      (first
      | (go_at_call 26; refine (CC.out _ _ ?_).mono ?_; (first | exact hK | assumption | exact CD _ 1 hK); rintro e wx ⟨rfl, h0, h1, hK⟩))
    all_goals (go_wp2_with fail; go_meet; exact ⟨rfl, rfl, hK⟩)
  case rest =>
    obtain ⟨rfl, rfl, hx⟩ := hcut
    have HX := Lib.hid hx
    have g0 := hx.1.cell0
    have g1 := hx.1.cell1
    have gf := hx.1.frozen 1
    clear h0 h1 hK hx CD CC H
    rw [extract_suf, decode_ofL]
    by_cases e1 : sufL s i = []
    · rw [if_pos e1]
      have He : Hid (chrR (sufL s i) = (0, none)) := Lib.hid (by rw [e1]; rfl)
      clear e1
      go_wp2_with fail
      go_ret2
      exact went_none He.out HX.out
    by_cases e2 : lenL (sufL s i) = 0
    · rw [if_neg e1, if_pos e2]
      have He : Hid (chrR (sufL s i) = (0, none)) := Lib.hid (by unfold chrR; rw [if_pos e2, e2])
      clear e1 e2
      go_wp2_with fail
      go_ret2
      exact went_none He.out HX.out
    · rw [if_neg e1, if_neg e2]
      have hr := runeL_le _ e2
      have hk := lenL_le (sufL s i)
      rw [suf_len] at hk
      have He : Hid (chrR (sufL s i) = (lenL (sufL s i), some (runeL (sufL s i) : Int))) := Lib.hid (by unfold chrR; rw [if_neg e2])
      have Hb : Hid (runeL (sufL s i) = 65533 → ¬ lenL (sufL s i) ≤ 1) := Lib.hid (fun h1 h2 => by
        cases hl : sufL s i with
        | nil => exact e1 hl
        | cons x l =>
          rw [hl] at h1 h2 e2
          have := x.toNat_lt
          rcases lenL_cons x l with ⟨h3, _⟩ | ⟨h3, _, h4⟩ | ⟨h3, _⟩ <;> omega)
      clear e1 e2
      generalize runeL (sufL s i) = r at *
      generalize lenL (sufL s i) = k at *
      have hr2 : (r : Int) < 2147483648 := by omega
      by_cases e3 : r = 65533
      · have e4 : ¬ k ≤ 1 := Hb.out e3
        subst e3
        go_wp2_with fail
        go_ret2
        exact went_some He.out rfl HX.out (by omega) rfl
      · have e4 : ((r : Int) == 65533) = false := beq_eq_false_iff_ne.2 (by omega)
        go_wp2_with fail
        go_ret2
        exact went_some He.out rfl HX.out (by omega) rfl

end Str
end Go.Proofs.YtggibhlmnfodaaaDoor
