/-
  The reader's memory; what is kept of a world while a reader reads; the small functions that it calls.
-/
import Derived.Test.YtjoohpdohdehgaaGreatDoorRegPlain
import Derived.Test.YtjoohpdohdehgaaGreatDoorUniRunes
import Derived.Test.YtjoohpdohdehgaaGreatDoorShelf
import Derived.Deep.CutRange
import Derived.Deep.DeepCutAuto
import Derived.Deep.QuietTactic
import Derived.BigQuiet
import Derived.WalkLawsBesides
namespace Go.Proofs.YtjoohpdohdehgaaGreatDoor
namespace Reg
open Go.RowKit

/-- All but block b stands as it stood; new blocks may have come. -/
structure Bar (b : Nat) (w w' : World) : Prop where
  os : w'.os = w.os
  tape : w'.tape = w.tape
  output : w'.output = w.output
  size : w.heap.size ≤ w'.heap.size
  block : ∀ k, k < w.heap.size → k ≠ b → w'.heap[k]? = w.heap[k]?

theorem Bar.refl (b : Nat) (w : World) : Bar b w w := ⟨rfl, rfl, rfl, Nat.le_refl _, fun _ _ _ => rfl⟩
theorem Bar.trans {b : Nat} {u v w : World} (h : Bar b u v) (k : Bar b v w) : Bar b u w :=
  ⟨k.os.trans h.os, k.tape.trans h.tape, k.output.trans h.output, Nat.le_trans h.size k.size, fun i hi hb => (k.block i (Nat.lt_of_lt_of_le hi h.size) hb).trans (h.block i hi hb)⟩
theorem Bar.of {b : Nat} {w w' : World} (h : Below w.heap.size w w') : Bar b w w' := ⟨h.os, h.tape, h.output, h.size, fun k hk _ => h.block k hk⟩
theorem Bar.on {b : Nat} {u w w' : World} (h : Bar b u w) (k : Below w.heap.size w w') : Bar b u w' := h.trans (Bar.of k)
theorem Bar.below {b B : Nat} {w w' : World} (h : Bar b w w') (hB : B ≤ b) (hw : B ≤ w.heap.size) : Below B w w' :=
  ⟨h.os, h.tape, h.output, h.size, fun k hk => h.block k (by omega) (by omega)⟩
theorem Bar.set {b : Nat} {u w : World} (h : Bar b u w) (o : Nat) (f : Option Nat) (v : Value) : Bar b u (w.setCell ⟨b, o, f⟩ v) :=
  h.trans ⟨rfl, rfl, rfl, by simp [World.setCell], fun k _ hb => Below.heap_setCell _ _ _ _ (by simpa using hb)⟩
theorem Bar.drewN {b : Nat} {u w : World} (h : Bar b u w) (n : Nat) : Bar b u (w.drewN n) := h.trans ⟨rfl, rfl, rfl, Nat.le_refl _, fun _ _ _ => rfl⟩
theorem below_drewN {B : Nat} {u w : World} (h : Below B u w) (n : Nat) : Below B u (w.drewN n) := h.trans ⟨rfl, rfl, rfl, Nat.le_refl _, fun _ _ => rfl⟩

/-- The library's tables and errors read as their texts lay them. -/
structure TabsAt (w : World) : Prop where
  utf : Lib.Utf8Tabs 1 2 w
  pow : Lib.TabIs Tryz.prog w "internal/strconv.uint64pow10" .u64 Lib.pow10Tab
  syn : ∃ t p, w.cell? ⟨4, 0, none⟩ = some (.iface t p)
  rng : ∃ t p, w.cell? ⟨5, 0, none⟩ = some (.iface t p)
/-- Whatever turns from block B on. -/
structure Tabs (B : Nat) (w : World) : Prop where
  le : B ≤ w.heap.size
  all : ∀ w', Below B w w' → TabsAt w'
theorem Tabs.at {B : Nat} {w : World} (h : Tabs B w) : TabsAt w := h.all w (Below.refl _ _)
theorem Tabs.on {B : Nat} {w w' : World} (h : Tabs B w) (k : Below B w w') : Tabs B w' := ⟨Nat.le_trans h.le k.size, fun x hx => h.all x (k.trans hx)⟩

/-- A reader: its block, its body, the flag u, the groups, the names, what is asked; from block B on all is the call's own. -/
structure Box where
  B : Nat
  b : Nat
  s : ByteArray
  u : Bool
  g : Int
  m : Value
  v : Value
/-- The place where l is left. -/
def Box.at (K : Box) (l : List UInt8) : Nat := K.s.size - l.length
/-- The pointer to it. -/
abbrev Box.ptr (K : Box) : Value := .pointer (some ⟨K.b, 0, none⟩)
/-- The reader stands where l is left. -/
structure Rd (K : Box) (l : List UInt8) (w : World) : Prop where
  lt : K.b < w.heap.size
  low : K.B ≤ K.b
  got : w.heap[K.b]? = some (.cells #[.string K.s, .int .i64 (K.at l), .bool K.u, .int .i64 K.g, K.m, K.v] 61)
  suf : l <:+ K.s.data.toList
  small : K.s.size ≤ 4096
  tabs : Tabs K.B w

theorem Rd.cell0 {K : Box} {l : List UInt8} {w : World} (h : Rd K l w) : w.cell? ⟨K.b, 0, none⟩ = some (.string K.s) := by simp [World.cell?, h.got]
theorem Rd.cell1 {K : Box} {l : List UInt8} {w : World} (h : Rd K l w) : w.cell? ⟨K.b, 1, none⟩ = some (.int .i64 (K.at l)) := by simp [World.cell?, h.got]
theorem Rd.cell2 {K : Box} {l : List UInt8} {w : World} (h : Rd K l w) : w.cell? ⟨K.b, 2, none⟩ = some (.bool K.u) := by simp [World.cell?, h.got]
theorem Rd.cell3 {K : Box} {l : List UInt8} {w : World} (h : Rd K l w) : w.cell? ⟨K.b, 3, none⟩ = some (.int .i64 K.g) := by simp [World.cell?, h.got]
theorem Rd.cell4 {K : Box} {l : List UInt8} {w : World} (h : Rd K l w) : w.cell? ⟨K.b, 4, none⟩ = some K.m := by simp [World.cell?, h.got]
theorem Rd.cell5 {K : Box} {l : List UInt8} {w : World} (h : Rd K l w) : w.cell? ⟨K.b, 5, none⟩ = some K.v := by simp [World.cell?, h.got]
theorem Rd.frozen {K : Box} {l : List UInt8} {w : World} (h : Rd K l w) (o : Nat) : w.frozen? ⟨K.b, o, none⟩ = false := by simp [World.frozen?, h.got]
theorem Rd.len {K : Box} {l : List UInt8} {w : World} (h : Rd K l w) : l.length ≤ K.s.size := by have := h.suf.length_le; simpa using this
theorem Rd.on {K : Box} {l : List UInt8} {w w' : World} (h : Rd K l w) (hb : Below w.heap.size w w') : Rd K l w' :=
  ⟨Nat.lt_of_lt_of_le h.lt hb.size, h.low, by rw [hb.block K.b h.lt]; exact h.got, h.suf, h.small, h.tabs.on (hb.mono h.tabs.le)⟩
theorem Rd.drewN {K : Box} {l : List UInt8} {w : World} (h : Rd K l w) (n : Nat) : Rd K l (w.drewN n) := h.on (below_drewN (Below.refl _ _) n)
theorem Rd.to {K : Box} {l : List UInt8} {w : World} (h : Rd K l w) {m : List UInt8} (hm : m <:+ l) {z : Int} (hz : z = (K.at m : Nat)) : Rd K m (w.setCell ⟨K.b, 1, none⟩ (.int .i64 z)) := by
  subst hz
  refine ⟨by simpa [World.setCell] using h.lt, h.low, ?_, hm.trans h.suf, h.small, h.tabs.on ((Below.refl _ _).setCell h.low _)⟩
  show (w.heap.modify K.b _)[K.b]? = _
  rw [Array.getElem?_modify, if_pos rfl, h.got]
  rfl

/-- The suffix at a place. -/
theorem suf_at {s : ByteArray} {l : List UInt8} (h : l <:+ s.data.toList) : Str.sufL s (s.size - l.length) = l := by
  obtain ⟨t, ht⟩ := h
  have hl : s.size = t.length + l.length := by
    have : s.data.toList.length = (t ++ l).length := by rw [ht]
    simpa using this
  unfold Str.sufL
  rw [← ht, List.drop_append_of_le_length (by omega), show s.size - l.length = t.length from by omega, List.drop_length, List.nil_append]
theorem at_lt {K : Box} {l : List UInt8} (h : l.length ≤ K.s.size) (hne : l ≠ []) : K.at l < K.s.size := by
  have := Str.pos_of_ne hne
  unfold Box.at; omega
theorem at_byte {K : Box} {x : UInt8} {l : List UInt8} (h : x :: l <:+ K.s.data.toList) (hlt : K.at (x :: l) < K.s.size) : K.s[K.at (x :: l)]'hlt = x := by
  have e := suf_at h
  have e' : Str.sufL K.s (K.at (x :: l)) = x :: l := e
  rw [Str.suf_cons _ _ hlt] at e'
  exact (List.cons.inj e').1
theorem at_nil (K : Box) : K.at [] = K.s.size := rfl
theorem at_tail (K : Box) (x : UInt8) (l : List UInt8) (h : (x :: l).length ≤ K.s.size) : ((K.at (x :: l) : Nat) : Int) + 1 = (K.at l : Nat) := by
  simp only [List.length_cons] at h
  simp only [Box.at, List.length_cons]; omega
theorem at_le (K : Box) (l : List UInt8) : K.at l ≤ K.s.size := Nat.sub_le _ _

/-- What is thrown. -/
def thrown (a e : Int) : Ending := .panicked [{ v := .iface 56 (.agg #[.int .i64 a, .int .i64 e]), recovered := false }]

theorem hd_range (l : List UInt8) : -1 ≤ hd l ∧ hd l < 256 := by
  cases l with
  | nil => decide
  | cons x t => have := x.toNat_lt; simp only [hd]; omega

set_option maxHeartbeats 400000 in
theorem throw_any (a e : Int) (w : World) :
    Calls Tryz.prog 31 #[.int .i64 a, .int .i64 e] w fun x w' => x = thrown a e ∧ w = w' := by
  go_enter Tryz.func31, Tryz.ntmps31
  go_wp2_with fail
  exact ⟨rfl, rfl, rfl⟩

set_option maxHeartbeats 400000 in
theorem refuse_any (K : Box) (l : List UInt8) (w : World) (h : Rd K l w) :
    Calls Tryz.prog 25 #[K.ptr] w fun x w' => x = thrown (K.at l) 400 ∧ w = w' := by
  have h1 := h.cell1
  clear h
  go_enter Tryz.func25, Tryz.ntmps25
  go_wp2_with fail
  refine (throw_any _ _ _).mono ?_
  rintro e w1 ⟨rfl, rfl⟩
  unfold thrown
  go_wp2_with fail
  exact ⟨rfl, rfl, rfl⟩

set_option maxHeartbeats 400000 in
set_option maxRecDepth 20000 in
theorem peek_any (K : Box) (l : List UInt8) (w : World) (h : Rd K l w) :
    Calls Tryz.prog 27 #[K.ptr] w fun e w' => e = .returned (.int .i64 (hd l)) ∧ Rd K l w' ∧ Below w.heap.size w w' := by
  have h0 := h.cell0
  have h1 := h.cell1
  have hs := h.small
  have hle := at_le K l
  cases l with
  | cons x t =>
    have hlt : K.at (x :: t) < K.s.size := at_lt h.len (List.cons_ne_nil _ _)
    have Hh := Lib.hid (at_byte h.suf hlt)
    have H := Lib.hid h; clear h
    generalize K.at (x :: t) = i at *
    have gb : ((K.s[i]'hlt).toNat : Int) < 256 := by have := (K.s[i]'hlt).toNat_lt; omega
    go_enter Tryz.func27, Tryz.ntmps27
    go_wp2_with fail
    go_quiet (fail)
    go_wp2_with fail
    go_quiet (fail)
    go_wp2_with fail
    go_ret
    exact ⟨Uni.ret_int (by rw [Hh.out]; rfl), (H.out.drewN _).drewN _, below_drewN (below_drewN (Below.refl _ _) _) _⟩
  | nil =>
    have H := Lib.hid h; clear h
    have hge : ¬ K.at [] < K.s.size := by rw [at_nil]; omega
    generalize K.at [] = i at *
    go_enter Tryz.func27, Tryz.ntmps27
    go_wp2_with fail
    go_quiet (fail)
    go_wp2_with fail
    go_ret
    exact ⟨rfl, H.out.drewN _, below_drewN (Below.refl _ _) _⟩

theorem tail_suf (l : List UInt8) : l.tail <:+ l := List.tail_suffix l
theorem hd_cons {l : List UInt8} {c : Int} (h : hd l = c) (hc : 0 ≤ c) : ∃ x t, l = x :: t ∧ (x.toNat : Int) = c := by
  cases l with
  | nil => simp only [hd] at h; omega
  | cons x t => exact ⟨x, t, rfl, h⟩
theorem tak_suf (c : Int) (l : List UInt8) : tak c l <:+ l := by
  unfold tak; split
  · exact tail_suf l
  · exact List.suffix_refl _
theorem tak_yes {c : Int} {l : List UInt8} (h : hd l = c) : tak c l = l.tail := if_pos h
theorem tak_no {c : Int} {l : List UInt8} (h : ¬ hd l = c) : tak c l = l := if_neg h

set_option maxHeartbeats 400000 in
theorem take_any (K : Box) (l : List UInt8) (c : Int) (hc : 0 ≤ c ∧ c < 256) (w : World) (h : Rd K l w) :
    Calls Tryz.prog 33 #[K.ptr, .int .u8 c] w fun e w' => e = .returned (.bool (hd l == c)) ∧ Rd K (tak c l) w' ∧ Bar K.b w w' := by
  obtain ⟨hc0, hc9⟩ := hc
  have hr := hd_range l
  by_cases e : hd l = c
  · obtain ⟨x, t, rfl, hx⟩ := hd_cons e hc0
    have Ht := Lib.hid (at_tail K x t h.len)
    have hle := at_le K (x :: t)
    have hs := h.small
    have eb : (hd (x :: t) != c) = false := by rw [e]; simp
    have He : Hid ((hd (x :: t) == c) = true ∧ tak c (x :: t) = t) := Lib.hid ⟨beq_iff_eq.2 e, tak_yes e⟩
    have H := Lib.hid h; clear h e hx
    go_enter Tryz.func33, Tryz.ntmps33
    go_wp2_with fail
    refine (peek_any K _ _ H.out).mono ?_
    rintro e w1 ⟨rfl, h1, hb⟩
    have c1 := h1.cell1
    have f1 := h1.frozen 1
    have H1 := Lib.hid h1; clear h1
    go_wp2_with fail
    go_ret
    rw [He.out.1, He.out.2]
    exact ⟨rfl, H1.out.to (tail_suf _) Ht.out, (Bar.of hb).set _ _ _⟩
  · have eb : (hd l != c) = true := by rw [bne_iff_ne]; exact e
    have He : Hid ((hd l == c) = false ∧ tak c l = l) := Lib.hid ⟨beq_eq_false_iff_ne.2 e, tak_no e⟩
    have H := Lib.hid h; clear h e
    go_enter Tryz.func33, Tryz.ntmps33
    go_wp2_with fail
    refine (peek_any K _ _ H.out).mono ?_
    rintro e w1 ⟨rfl, h1, hb⟩
    have H1 := Lib.hid h1; clear h1
    go_wp2_with fail
    go_ret
    rw [He.out.1, He.out.2]
    exact ⟨rfl, H1.out, Bar.of hb⟩

/-- What a call comes to that may throw. -/
def Post {α : Type} (K : Box) (w : World) (f : α → Value) (r : Out α) (e : Ending) (w' : World) : Prop := match r with
  | .error x => e = thrown (K.s.size - x.1 : Nat) x.2 ∧ Bar K.b w w'
  | .ok y => e = .returned (f y.1) ∧ Rd K y.2 w' ∧ Bar K.b w w'
/-- Likewise, where it hands nothing back. -/
def PostN (K : Box) (w : World) (r : Except (Nat × Nat) (List UInt8)) (e : Ending) (w' : World) : Prop := match r with
  | .error x => e = thrown (K.s.size - x.1 : Nat) x.2 ∧ Bar K.b w w'
  | .ok l => e = .returned (.tuple #[]) ∧ Rd K l w' ∧ Bar K.b w w'

set_option maxHeartbeats 400000 in
theorem expect_any (K : Box) (l : List UInt8) (c : Int) (hc : 0 ≤ c ∧ c < 256) (w : World) (h : Rd K l w) :
    Calls Tryz.prog 69 #[K.ptr, .int .u8 c] w (PostN K w (expP c l)) := by
  by_cases e : hd l = c
  · have eb := beq_iff_eq.2 e
    have He : Hid (expP c l = .ok (tak c l)) := Lib.hid (by rw [expP, if_pos e, tak_yes e])
    have H := Lib.hid h; clear h e
    go_enter Tryz.func69, Tryz.ntmps69
    go_wp2_with fail
    refine (take_any K _ _ hc _ H.out).mono ?_
    rintro e w1 ⟨rfl, h1, hb⟩
    have H1 := Lib.hid h1; clear h1
    go_wp2_with fail
    go_end0
    rw [He.out]
    exact ⟨rfl, H1.out, hb⟩
  · have eb := beq_eq_false_iff_ne.2 e
    have He : Hid (expP c l = wrong l ∧ tak c l = l) := Lib.hid ⟨by rw [expP, if_neg e], tak_no e⟩
    have H := Lib.hid h; clear h e
    go_enter Tryz.func69, Tryz.ntmps69
    go_wp2_with fail
    refine (take_any K _ _ hc _ H.out).mono ?_
    rintro e w1 ⟨rfl, h1, hb⟩
    rw [He.out.2] at h1
    have H1 := Lib.hid h1; clear h1
    go_wp2_with fail
    refine (refuse_any K _ _ H1.out).mono ?_
    rintro e w2 ⟨rfl, rfl⟩
    unfold thrown
    go_wp2_with fail
    rw [He.out.1]
    exact ⟨rfl, rfl, hb⟩

end Reg
end Go.Proofs.YtjoohpdohdehgaaGreatDoor
