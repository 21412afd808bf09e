/-
  The reader's memory; what is kept of a world while a reader reads; the small functions that it calls.
-/
import Derived.Test.YtggibhlmnfodaaaDoorLexPlain
import Derived.Test.YtggibhlmnfodaaaDoorUniRunes
import Derived.Test.YtggibhlmnfodaaaDoorStrReader
import Derived.Test.YtggibhlmnfodaaaDoorShelf
import Derived.Deep.CutRange
import Derived.Deep.DeepCutAuto
import Derived.Deep.QuietTactic
import Derived.BigQuiet
import Derived.WalkLawsBesides
import Derived.Deep.RegionHeld3
namespace Go.Proofs.YtggibhlmnfodaaaDoor
namespace Lex
open Go.RowKit
open Str (lenL runeL)

/-- All but block b stands as it stood; new blocks may have come. -/
structure Bar (b : Nat) (w w' : World) : Prop where
  os : w'.os = w.os
  tape : w'.tape = w.tape
  output : w'.output = w.output
  size : w.heap.size ≤ w'.heap.size
  block : ∀ k, k < w.heap.size → k ≠ b → w'.heap[k]? = w.heap[k]?

theorem Bar.refl (b : Nat) (w : World) : Bar b w w := ⟨rfl, rfl, rfl, Nat.le_refl _, fun _ _ _ => rfl⟩
theorem Bar.trans {b : Nat} {u v w : World} (h : Bar b u v) (k : Bar b v w) : Bar b u w :=
  ⟨k.os.trans h.os, k.tape.trans h.tape, k.output.trans h.output, Nat.le_trans h.size k.size, fun i hi hb => (k.block i (Nat.lt_of_lt_of_le hi h.size) hb).trans (h.block i hi hb)⟩
theorem Bar.of {b : Nat} {w w' : World} (h : Below w.heap.size w w') : Bar b w w' := ⟨h.os, h.tape, h.output, h.size, fun k hk _ => h.block k hk⟩
theorem Bar.on {b : Nat} {u w w' : World} (h : Bar b u w) (k : Below w.heap.size w w') : Bar b u w' := h.trans (Bar.of k)
theorem Bar.below {b B : Nat} {w w' : World} (h : Bar b w w') (hB : B ≤ b) (hw : B ≤ w.heap.size) : Below B w w' :=
  ⟨h.os, h.tape, h.output, h.size, fun k hk => h.block k (by omega) (by omega)⟩
theorem Bar.set {b : Nat} {u w : World} (h : Bar b u w) (o : Nat) (f : Option Nat) (v : Value) : Bar b u (w.setCell ⟨b, o, f⟩ v) :=
  h.trans ⟨rfl, rfl, rfl, by simp [World.setCell], fun k _ hb => Below.heap_setCell _ _ _ _ (by simpa using hb)⟩
theorem Bar.drewN {b : Nat} {u w : World} (h : Bar b u w) (n : Nat) : Bar b u (w.drewN n) := h.trans ⟨rfl, rfl, rfl, Nat.le_refl _, fun _ _ _ => rfl⟩
theorem below_drewN {B : Nat} {u w : World} (h : Below B u w) (n : Nat) : Below B u (w.drewN n) := h.trans ⟨rfl, rfl, rfl, Nat.le_refl _, fun _ _ => rfl⟩

/-- Go's decoder's tables read as their texts lay them, whatever turns from block B on. -/
structure Tabs (B : Nat) (w : World) : Prop where
  two : 2 ≤ B
  le : B ≤ w.heap.size
  utf : Lib.Utf8Tabs 0 1 w
theorem Tabs.str {B : Nat} {w : World} (h : Tabs B w) : Str.Tabs w := ⟨Nat.le_trans h.two h.le, h.utf⟩
theorem Tabs.on {B : Nat} {w w' : World} (h : Tabs B w) (k : Below B w w') : Tabs B w' := ⟨h.two, Nat.le_trans h.le k.size, (h.str.below k h.two).2⟩

/-- A reader: its block, its text; from block B on all is the call's own. -/
structure Box where
  B : Nat
  b : Nat
  s : ByteArray
/-- The place where l is left. -/
def Box.at (K : Box) (l : List UInt8) : Nat := K.s.size - l.length
/-- The pointer to it. -/
abbrev Box.ptr (K : Box) : Value := .pointer (some ⟨K.b, 0, none⟩)
/-- The reader stands where l is left. -/
structure Rd (K : Box) (l : List UInt8) (w : World) : Prop where
  lt : K.b < w.heap.size
  low : K.B ≤ K.b
  got : w.heap[K.b]? = some (.cells #[.int .i64 (K.at l), .string K.s] 38)
  suf : l <:+ K.s.data.toList
  small : K.s.size ≤ 4194304
  tabs : Tabs K.B w

theorem Rd.cell0 {K : Box} {l : List UInt8} {w : World} (h : Rd K l w) : w.cell? ⟨K.b, 0, none⟩ = some (.int .i64 (K.at l)) := by simp [World.cell?, h.got]
theorem Rd.cell1 {K : Box} {l : List UInt8} {w : World} (h : Rd K l w) : w.cell? ⟨K.b, 1, none⟩ = some (.string K.s) := by simp [World.cell?, h.got]
theorem Rd.frozen {K : Box} {l : List UInt8} {w : World} (h : Rd K l w) (o : Nat) : w.frozen? ⟨K.b, o, none⟩ = false := by simp [World.frozen?, h.got]
theorem Rd.len {K : Box} {l : List UInt8} {w : World} (h : Rd K l w) : l.length ≤ K.s.size := by have := h.suf.length_le; simpa using this
theorem Rd.on {K : Box} {l : List UInt8} {w w' : World} (h : Rd K l w) (hb : Below w.heap.size w w') : Rd K l w' :=
  ⟨Nat.lt_of_lt_of_le h.lt hb.size, h.low, by rw [hb.block K.b h.lt]; exact h.got, h.suf, h.small, h.tabs.on (hb.mono h.tabs.le)⟩
theorem Rd.drewN {K : Box} {l : List UInt8} {w : World} (h : Rd K l w) (n : Nat) : Rd K l (w.drewN n) := h.on (below_drewN (Below.refl _ _) n)
theorem Rd.toAny {K : Box} {l : List UInt8} {w : World} (h : Rd K l w) {m : List UInt8} (hm : m <:+ K.s.data.toList) {z : Int} (hz : z = (K.at m : Nat)) : Rd K m (w.setCell ⟨K.b, 0, none⟩ (.int .i64 z)) := by
  subst hz
  refine ⟨by simpa [World.setCell] using h.lt, h.low, ?_, hm, h.small, h.tabs.on ((Below.refl _ _).setCell h.low _)⟩
  show (w.heap.modify K.b _)[K.b]? = _
  rw [Array.getElem?_modify, if_pos rfl, h.got]
  rfl
theorem Rd.to {K : Box} {l : List UInt8} {w : World} (h : Rd K l w) {m : List UInt8} (hm : m <:+ l) {z : Int} (hz : z = (K.at m : Nat)) : Rd K m (w.setCell ⟨K.b, 0, none⟩ (.int .i64 z)) := h.toAny (hm.trans h.suf) hz

/-- The suffix at a place. -/
theorem suf_at {s : ByteArray} {l : List UInt8} (h : l <:+ s.data.toList) : Str.sufL s (s.size - l.length) = l := by
  obtain ⟨t, ht⟩ := h
  have hl : s.size = t.length + l.length := by
    have : s.data.toList.length = (t ++ l).length := by rw [ht]
    simpa using this
  unfold Str.sufL
  rw [← ht, List.drop_append_of_le_length (by omega), show s.size - l.length = t.length from by omega, List.drop_length, List.nil_append]
theorem at_lt {K : Box} {l : List UInt8} (h : l.length ≤ K.s.size) (hne : l ≠ []) : K.at l < K.s.size := by
  have := Str.pos_of_ne hne
  unfold Box.at; omega
theorem at_byte {K : Box} {x : UInt8} {l : List UInt8} (h : x :: l <:+ K.s.data.toList) (hlt : K.at (x :: l) < K.s.size) : K.s[K.at (x :: l)]'hlt = x := by
  have e := suf_at h
  have e' : Str.sufL K.s (K.at (x :: l)) = x :: l := e
  rw [Str.suf_cons _ _ hlt] at e'
  exact (List.cons.inj e').1
theorem at_nil (K : Box) : K.at [] = K.s.size := rfl
theorem at_drop (K : Box) (l : List UInt8) (k : Nat) (h : l.length ≤ K.s.size) (hk : k ≤ l.length) : ((K.at l : Nat) : Int) + (k : Nat) = (K.at (l.drop k) : Nat) := by
  simp only [Box.at, List.length_drop]; omega
theorem at_tl (K : Box) (l : List UInt8) (h : l.length ≤ K.s.size) : ((K.at l : Nat) : Int) + (lenL l : Nat) = (K.at (tl l) : Nat) := at_drop K l _ h (Str.lenL_le l)
theorem at_le (K : Box) (l : List UInt8) : K.at l ≤ K.s.size := Nat.sub_le _ _
theorem extract_at (K : Box) (l : List UInt8) (h : l <:+ K.s.data.toList) : (K.s.extract (K.at l) K.s.size) = Str.ofL l := by
  rw [Str.extract_suf]
  show Str.ofL (Str.sufL K.s (K.s.size - l.length)) = _
  rw [suf_at h]

theorem decode_held (K : Box) (l : List UInt8) (u : World) (t : ByteArray) (w : World) (h : Rd K l w) (hb : Below u.heap.size u w) :
    Calls Tryd.prog 26 #[.string t] w fun e w' => e = .returned (.tuple #[.int .i32 (Lib.decodeGo t).1, .int .i64 (Lib.decodeGo t).2]) ∧ w'.cell? ⟨K.b, 0, none⟩ = some (.int .i64 (K.at l)) ∧ w'.cell? ⟨K.b, 1, none⟩ = some (.string K.s) ∧ Rd K l w' ∧ Below u.heap.size u w' :=
  (Tryd.utf8_DecodeRuneInString t w h.tabs.utf).mono fun _ _ ⟨he, hw⟩ => ⟨he, (h.on hw).cell0, (h.on hw).cell1, h.on hw, hb.trans (hw.mono hb.size)⟩

/-- What looking gives. -/
def lookV (l : List UInt8) : Ending := .returned (.tuple #[.int .i64 (chL l), .int .i64 (lenL l)])
theorem look_ret {l : List UInt8} {a b : Int} (h1 : chL l = a) (h2 : (lenL l : Int) = b) : Ending.returned (.tuple #[.int .i64 a, .int .i64 b]) = lookV l := by rw [lookV, h1, h2]

set_option maxHeartbeats 1000000 in
set_option maxRecDepth 20000 in
theorem look_raw (K : Box) (l : List UInt8) (w : World) (h : Rd K l w) :
    Calls Tryd.prog 16 #[K.ptr] w fun e w' => e = lookV l ∧ Rd K l w' ∧ Below w.heap.size w w' := by
  have hs := h.small
  have hle := at_le K l
  have h0 := h.cell0
  have h1 := h.cell1
  by_cases e1 : l = []
  · subst e1
    have hge : ¬ K.at [] < K.s.size := by rw [at_nil]; omega
    have He : Hid (chL [] = -1 ∧ (lenL [] : Int) = 0) := Lib.hid ⟨rfl, rfl⟩
    have H := Lib.hid h; clear h
    generalize hi : K.at [] = i at *
    have Hi := Lib.hid hi; clear hi
    go_enter Tryd.func16, Tryd.ntmps16
    go_wp2_with fail
    go_quiet (fail)
    go_wp2_with fail
    go_ret2
    exact ⟨look_ret He.out.1 He.out.2, H.out.drewN _, below_drewN (Below.refl _ _) _⟩
  · have hlt : K.at l < K.s.size := at_lt h.len e1
    have hK : Rd K l w := h
    have hB : Below w.heap.size w w := Below.refl _ _
    have HX := Lib.hid (extract_at K l h.suf)
    have CD : ∀ wx n, Rd K l wx → Rd K l (wx.drewN n) := fun wx n hx => hx.drewN n
    have CE : ∀ wx n, Below w.heap.size w wx → Below w.heap.size w (wx.drewN n) := fun wx n hx => below_drewN hx n
    have CC := Lib.hid (decode_held K l w)
    have He1 := Lib.hid e1
    have H := Lib.hid h; clear h e1
    go_enter Tryd.func16, Tryd.ntmps16
    go_wp2_with fail
    go_quiet (fail)
    go_wp2_with fail
    go_cut [4, 5] from 6 to 31 (fun c k wx => c = .int .i32 (Lib.decodeGo (K.s.extract (K.at l) K.s.size)).1 ∧ k = .int .i64 (Lib.decodeGo (K.s.extract (K.at l) K.s.size)).2 ∧ Rd K l wx ∧ Below w.heap.size w wx)
    case first =>
      go_region_held3 (fun wx => wx.cell? ⟨K.b, 0, none⟩ = some (.int .i64 (K.at l)) ∧ wx.cell? ⟨K.b, 1, none⟩ = some (.string K.s) ∧ Rd K l wx ∧ Below w.heap.size w wx)
        (first | exact ⟨h0, h1, hK, hB⟩ | exact ⟨h0, h1, CD _ _ hK, CE _ _ hB⟩ | exact ⟨h0, h1, CD _ 1 (CD _ _ hK), CE _ 1 (CE _ _ hB)⟩ | assumption)
        (first
        | (go_at_call 26; refine (CC.out _ _ ?_ ?_).mono ?_; (first | exact hK | assumption | exact CD _ _ hK | exact CD _ 1 (CD _ _ hK)); (first | exact hB | assumption | exact CE _ _ hB | exact CE _ 1 (CE _ _ hB)); rintro e wx ⟨rfl, h0, h1, hK, hB⟩))
      all_goals (go_wp2_with fail; go_meet; exact ⟨rfl, rfl, hK, hB⟩)
    case rest =>
      obtain ⟨rfl, rfl, hx, hxb⟩ := hcut
      have HXX := Lib.hid (And.intro hx hxb)
      clear h0 h1 hK hx CD CE CC H hB hxb hs hle hlt
      rw [HX.out, Str.decode_ofL, if_neg He1.out]
      by_cases e2 : lenL l = 0
      · rw [if_pos e2]
        have He : Hid (chL l = -2 ∧ (lenL l : Int) = 0) := Lib.hid ⟨by rw [chL, if_neg He1.out, if_pos e2], by rw [e2]; rfl⟩
        clear e2
        go_wp2_with fail
        go_ret2
        exact ⟨look_ret He.out.1 He.out.2, HXX.out⟩
      · rw [if_neg e2]
        have hr := Str.runeL_le l e2
        have hk := Str.lenL_le l
        have He : Hid (chL l = (runeL l : Int)) := Lib.hid (by rw [chL, if_neg He1.out, if_neg e2])
        obtain ⟨kk, hkk⟩ : ∃ k, lenL l = k := ⟨_, rfl⟩
        have Hk : Hid ((lenL l : Int) = kk) := Lib.hid (by rw [hkk])
        rw [hkk] at hk ⊢
        have Hb : Hid (runeL l = 65533 → ¬ lenL l ≤ 1) := Lib.hid (fun h1 h2 => by
          cases l with
          | nil => exact He1.out rfl
          | cons x l =>
            have := x.toNat_lt
            rcases Str.lenL_cons x l with ⟨h3, _⟩ | ⟨h3, _, h4⟩ | ⟨h3, _⟩ <;> omega)
        rw [hkk] at Hb
        clear e2 HX hkk
        generalize runeL l = r at *
        have hr2 : (r : Int) < 2147483648 := by omega
        by_cases e3 : r = 65533
        · have e4 : ¬ kk ≤ 1 := Hb.out e3
          subst e3
          go_wp2_with fail
          go_ret2
          exact ⟨look_ret He.out Hk.out, HXX.out⟩
        · have e4 : ((r : Int) == 65533) = false := beq_eq_false_iff_ne.2 (by omega)
          go_wp2_with fail
          go_ret2
          exact ⟨look_ret He.out Hk.out, HXX.out⟩

end Lex
end Go.Proofs.YtggibhlmnfodaaaDoor
