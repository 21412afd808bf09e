/-
  The reader's memory; what is kept of a world while a reader reads; the small functions that it calls.
-/
import Derived.Test.YtggibhlmnfodaaaDoorStrPlain
import Derived.Test.YtggibhlmnfodaaaDoorUniRunes
import Derived.Test.YtggibhlmnfodaaaDoorShelf
import Derived.Deep.CutRange
import Derived.Deep.DeepCutAuto
import Derived.Deep.QuietTactic
import Derived.BigQuiet
namespace Go.Proofs.YtggibhlmnfodaaaDoor
namespace Str
open Go.RowKit

/-- All but block b stands as it stood; new blocks may have come. -/
structure Bar (b : Nat) (w w' : World) : Prop where
  os : w'.os = w.os
  tape : w'.tape = w.tape
  output : w'.output = w.output
  size : w.heap.size ≤ w'.heap.size
  block : ∀ k, k < w.heap.size → k ≠ b → w'.heap[k]? = w.heap[k]?

theorem Bar.refl (b : Nat) (w : World) : Bar b w w := ⟨rfl, rfl, rfl, Nat.le_refl _, fun _ _ _ => rfl⟩
theorem Bar.trans {b : Nat} {u v w : World} (h : Bar b u v) (k : Bar b v w) : Bar b u w :=
  ⟨k.os.trans h.os, k.tape.trans h.tape, k.output.trans h.output, Nat.le_trans h.size k.size, fun i hi hb => (k.block i (Nat.lt_of_lt_of_le hi h.size) hb).trans (h.block i hi hb)⟩
theorem Bar.of {b : Nat} {w w' : World} (h : Below w.heap.size w w') : Bar b w w' := ⟨h.os, h.tape, h.output, h.size, fun k hk _ => h.block k hk⟩
theorem Bar.below {b B : Nat} {w w' : World} (h : Bar b w w') (hB : B ≤ b) (hw : B ≤ w.heap.size) : Below B w w' :=
  ⟨h.os, h.tape, h.output, h.size, fun k hk => h.block k (by omega) (by omega)⟩
theorem Bar.set {b : Nat} {u w : World} (h : Bar b u w) (o : Nat) (f : Option Nat) (v : Value) : Bar b u (w.setCell ⟨b, o, f⟩ v) :=
  h.trans ⟨rfl, rfl, rfl, by simp [World.setCell], fun k _ hb => Below.heap_setCell _ _ _ _ (by simpa using hb)⟩

/-- Block b is a reader of s at place i. -/
structure Rd (b : Nat) (s : ByteArray) (i : Nat) (w : World) : Prop where
  lt : b < w.heap.size
  got : w.heap[b]? = some (.cells #[.string s, .int .i64 i] 69)

theorem Rd.cell0 {b : Nat} {s : ByteArray} {i : Nat} {w : World} (h : Rd b s i w) : w.cell? ⟨b, 0, none⟩ = some (.string s) := by
  simp [World.cell?, h.got]
theorem Rd.cell1 {b : Nat} {s : ByteArray} {i : Nat} {w : World} (h : Rd b s i w) : w.cell? ⟨b, 1, none⟩ = some (.int .i64 i) := by
  simp [World.cell?, h.got]
theorem Rd.frozen {b : Nat} {s : ByteArray} {i : Nat} {w : World} (h : Rd b s i w) (o : Nat) : w.frozen? ⟨b, o, none⟩ = false := by
  simp [World.frozen?, h.got]
theorem Rd.set {b : Nat} {s : ByteArray} {i : Nat} {w : World} (h : Rd b s i w) (j : Nat) : Rd b s j (w.setCell ⟨b, 1, none⟩ (.int .i64 j)) := by
  refine ⟨by simpa [World.setCell] using h.lt, ?_⟩
  show (w.heap.modify b _)[b]? = _
  rw [Array.getElem?_modify, if_pos rfl, h.got]
  rfl
theorem Rd.keep {b : Nat} {s : ByteArray} {i : Nat} {w w' : World} (h : Rd b s i w) (hb : Below w.heap.size w w') : Rd b s i w' :=
  ⟨Nat.lt_of_lt_of_le h.lt hb.size, by rw [hb.block b h.lt]; exact h.got⟩
theorem Rd.alloc (s : ByteArray) (i : Nat) (w : World) : Rd w.heap.size s i (w.alloc (.cells #[.string s, .int .i64 i] 69)) :=
  ⟨by simp, by show (w.heap.push _)[w.heap.size]? = _; simp⟩

/-- The tables of Go's decoder. -/
def Tabs (w : World) : Prop := 2 ≤ w.heap.size ∧ Lib.Utf8Tabs 0 1 w
theorem Tabs.keep {w w' : World} (h : Tabs w) (hk : ∀ k, k < 2 → w'.heap[k]? = w.heap[k]?) (hs : w.heap.size ≤ w'.heap.size) : Tabs w' := by
  obtain ⟨h0, h1, h2⟩ := h
  refine ⟨Nat.le_trans h0 hs, fun c hc => ?_, fun i hi => ?_⟩
  · rw [World.cell?_of_block (w := w) (hk 0 (by decide))]; exact h1 c hc
  · rw [World.cell?_of_block (w := w) (a := ⟨1, 2 * i, none⟩) (hk 1 (by decide)), World.cell?_of_block (w := w) (a := ⟨1, 2 * i + 1, none⟩) (hk 1 (by decide))]; exact h2 i hi
theorem Tabs.bar {b : Nat} {w w' : World} (h : Tabs w) (hk : Bar b w w') (hb : 2 ≤ b) : Tabs w' :=
  h.keep (fun k hk2 => hk.block k (by have := h.1; omega) (by omega)) hk.size
theorem Tabs.below {B : Nat} {w w' : World} (h : Tabs w) (hk : Below B w w') (hB : 2 ≤ B) : Tabs w' :=
  h.keep (fun k hk2 => hk.block k (by omega)) hk.size

theorem ret_two {k : IntKind} {a c : Int} {b d : Bool} (h : a = c) (h' : b = d) : Ending.returned (.tuple #[.int k a, .bool b]) = .returned (.tuple #[.int k c, .bool d]) := by rw [h, h']

/-- A list's first byte; -1: it is empty. -/
def headV : List UInt8 → Int
  | [] => -1
  | x :: _ => x.toNat
theorem headV_range (l : List UInt8) : -1 ≤ headV l ∧ headV l < 256 := by
  cases l with
  | nil => decide
  | cons x t => have := x.toNat_lt; simp only [headV]; omega
theorem headV_at (s : ByteArray) (i : Nat) (h : i < s.size) : headV (sufL s i) = ((s[i]'h).toNat : Int) := by rw [suf_cons s i h]; rfl

set_option maxHeartbeats 400000 in
theorem hexadecimal_any (c : Int) (hc : -1 ≤ c ∧ c < 256) (w : World) :
    Calls Tryd.prog 60 #[.int .i64 c] w fun e w' => e = .returned (.int .i64 (hexV c)) ∧ w = w' := by
  obtain ⟨h0, h9⟩ := hc
  have Hd := Lib.hid (hexV.eq_1 c)
  by_cases c1 : 48 ≤ c
  · by_cases c2 : c ≤ 57
    · go_enter Tryd.func60, Tryd.ntmps60
      go_wp2_with fail
      go_ret
      exact ⟨Uni.ret_int (by rw [Hd.out, if_pos ⟨c1, c2⟩]), rfl⟩
    by_cases c3 : 65 ≤ c
    · by_cases c4 : c ≤ 70
      · go_enter Tryd.func60, Tryd.ntmps60
        go_wp2_with fail
        go_ret
        exact ⟨Uni.ret_int (by rw [Hd.out, if_neg (by omega), if_pos ⟨c3, c4⟩]; omega), rfl⟩
      by_cases c5 : 97 ≤ c
      · by_cases c6 : c ≤ 102
        · go_enter Tryd.func60, Tryd.ntmps60
          go_wp2_with fail
          go_ret
          exact ⟨Uni.ret_int (by rw [Hd.out, if_neg (by omega), if_neg (by omega), if_pos ⟨c5, c6⟩]; omega), rfl⟩
        · go_enter Tryd.func60, Tryd.ntmps60
          go_wp2_with fail
          go_ret
          exact ⟨Uni.ret_int (by rw [Hd.out, if_neg (by omega), if_neg (by omega), if_neg (by omega)]), rfl⟩
      · go_enter Tryd.func60, Tryd.ntmps60
        go_wp2_with fail
        go_ret
        exact ⟨Uni.ret_int (by rw [Hd.out, if_neg (by omega), if_neg (by omega), if_neg (by omega)]), rfl⟩
    · go_enter Tryd.func60, Tryd.ntmps60
      go_wp2_with fail
      go_ret
      exact ⟨Uni.ret_int (by rw [Hd.out, if_neg (by omega), if_neg (by omega), if_neg (by omega)]), rfl⟩
  · go_enter Tryd.func60, Tryd.ntmps60
    go_wp2_with fail
    go_ret
    exact ⟨Uni.ret_int (by rw [Hd.out, if_neg (by omega), if_neg (by omega), if_neg (by omega)]), rfl⟩

set_option maxHeartbeats 400000 in
theorem denoted_any (c : Int) (w : World) :
    Calls Tryd.prog 55 #[.int .i64 c] w fun e w' => e = .returned (.int .i64 (denV c)) ∧ Below w.heap.size w w' := by
  by_cases c1 : c = 98
  · subst c1; go_enter Tryd.func55, Tryd.ntmps55
    go_wp2_with fail
    go_ret
    exact ⟨rfl, Below.refl _ _⟩
  by_cases c2 : c = 116
  · subst c2; go_enter Tryd.func55, Tryd.ntmps55
    go_wp2_with fail
    go_ret
    exact ⟨rfl, Below.refl _ _⟩
  by_cases c3 : c = 110
  · subst c3; go_enter Tryd.func55, Tryd.ntmps55
    go_wp2_with fail
    go_ret
    exact ⟨rfl, Below.refl _ _⟩
  by_cases c4 : c = 118
  · subst c4; go_enter Tryd.func55, Tryd.ntmps55
    go_wp2_with fail
    go_ret
    exact ⟨rfl, Below.refl _ _⟩
  by_cases c5 : c = 102
  · subst c5; go_enter Tryd.func55, Tryd.ntmps55
    go_wp2_with fail
    go_ret
    exact ⟨rfl, Below.refl _ _⟩
  by_cases c6 : c = 114
  · subst c6; go_enter Tryd.func55, Tryd.ntmps55
    go_wp2_with fail
    go_ret
    exact ⟨rfl, Below.refl _ _⟩
  have Hd : Hid (denV c = if Uni.endsB c = true then -1 else c) := Lib.hid (by rw [denV, if_neg c1, if_neg c2, if_neg c3, if_neg c4, if_neg c5, if_neg c6])
  have e1 : (c == 98) = false := beq_eq_false_iff_ne.2 c1
  have e2 : (c == 116) = false := beq_eq_false_iff_ne.2 c2
  have e3 : (c == 110) = false := beq_eq_false_iff_ne.2 c3
  have e4 : (c == 118) = false := beq_eq_false_iff_ne.2 c4
  have e5 : (c == 102) = false := beq_eq_false_iff_ne.2 c5
  have e6 : (c == 114) = false := beq_eq_false_iff_ne.2 c6
  go_enter Tryd.func55, Tryd.ntmps55
  go_wp2_with fail
  refine (Uni.ends_any c w).mono ?_
  rintro e w1 ⟨rfl, hb⟩
  cases hE : Uni.endsB c
  · go_wp2_with fail
    go_ret
    exact ⟨Uni.ret_int (by rw [Hd.out, hE]; rfl), hb⟩
  · go_wp2_with fail
    go_ret
    exact ⟨Uni.ret_int (by rw [Hd.out, hE]; rfl), hb⟩

theorem Bar.drewN {b : Nat} {u w : World} (h : Bar b u w) (n : Nat) : Bar b u (w.drewN n) := h.trans ⟨rfl, rfl, rfl, Nat.le_refl _, fun _ _ _ => rfl⟩
theorem below_drewN {B : Nat} {u w : World} (h : Below B u w) (n : Nat) : Below B u (w.drewN n) := h.trans ⟨rfl, rfl, rfl, Nat.le_refl _, fun _ _ => rfl⟩
theorem Rd.drewN {b : Nat} {s : ByteArray} {i : Nat} {w : World} (h : Rd b s i w) (n : Nat) : Rd b s i (w.drewN n) := ⟨h.lt, h.got⟩

set_option maxHeartbeats 400000 in
set_option maxRecDepth 20000 in
theorem peek_any (b : Nat) (s : ByteArray) (i : Nat) (w : World) (_hs : s.size ≤ maxLen) (hi : i ≤ s.size) (h : Rd b s i w) :
    Calls Tryd.prog 46 #[.pointer (some ⟨b, 0, none⟩)] w fun e w' => e = .returned (.int .i64 (headV (sufL s i))) ∧ Rd b s i w' ∧ Below w.heap.size w w' := by
  have h0 := h.cell0
  have h1 := h.cell1
  have H := Lib.hid h; clear h
  by_cases hlt : i < s.size
  · have Hh := Lib.hid (headV_at s i hlt)
    have gb : ((s[i]'hlt).toNat : Int) < 256 := by have := (s[i]'hlt).toNat_lt; omega
    go_enter Tryd.func46, Tryd.ntmps46
    go_wp2_with fail
    go_quiet (fail)
    go_wp2_with fail
    go_quiet (fail)
    go_wp2_with fail
    go_ret
    exact ⟨Uni.ret_int (by rw [Hh.out]), (H.out.drewN _).drewN _, below_drewN (below_drewN (Below.refl _ _) _) _⟩
  · have Hh : Hid (headV (sufL s i) = -1) := Lib.hid (by rw [suf_nil s i hlt]; rfl)
    go_enter Tryd.func46, Tryd.ntmps46
    go_wp2_with fail
    go_quiet (fail)
    go_wp2_with fail
    go_ret
    exact ⟨Uni.ret_int (by rw [Hh.out]), H.out.drewN _, below_drewN (Below.refl _ _) _⟩

end Str
end Go.Proofs.YtggibhlmnfodaaaDoor
