/-
  A line without its blanks.
-/
import Derived.Test.YtcalgpkcefccmaaDoorJsxAny
import Derived.Shelf.Strings.SlTrimAscii
namespace Go.Proofs.YtcalgpkcefccmaaDoor
namespace Jsx
open Go.RowKit

theorem trim_is (c : UInt8) : ([32, 9] : List UInt8).contains c = trimB c := by
  unfold trimB
  simp only [List.contains_cons, List.contains_nil, Bool.or_false]
theorem trim_fun : (fun c => ([32, 9] : List UInt8).contains c) = trimB := funext trim_is
theorem trim_left (l : List UInt8) : Lib.trimLeftS l [32, 9] = leadL l := by unfold Lib.trimLeftS leadL; rw [trim_fun]
theorem trim_right (l : List UInt8) : Lib.trimRightS l [32, 9] = trailL l := by unfold Lib.trimRightS trailL; rw [trim_fun]
theorem cel_line {w w' : World} {a : Addr} {v : Value} (h : w.cell? a = some v) (hb : Below w.heap.size w w') : w'.cell? a = some v := (hb.cell (World.block_lt_of_cell? w _ h)).trans h
theorem cel_new (w : World) (cs : Array Value) (t : TypeId) (j : Nat) : (w.alloc (.cells cs t)).cell? ⟨w.heap.size, j, none⟩ = cs[j]? := World.cell?_alloc_at _ _ _ _ rfl
theorem trim_ascii : ∀ (j : Nat) b, (⟨#[32, 9]⟩ : ByteArray).data.toList[j]? = some b → b.toNat < 128 := ascii_of_all (by decide)
theorem tleft_any (s : ByteArray) (w : World) :
    Calls Tryd.prog 49 #[.string s, .string ⟨#[32, 9]⟩] w fun e w' => e = .returned (.string (ofL (leadL s.data.toList))) ∧ Below w.heap.size w w' := by
  refine (Any.strings_TrimLeft_laid Tryd.lays161 infoA s ⟨#[32, 9]⟩ w (by decide) trim_ascii).mono ?_
  rintro e w' ⟨rfl, hb⟩
  exact ⟨by rw [← trim_left]; rfl, hb⟩
theorem tright_any (s : ByteArray) (w : World) (hs : s.size ≤ 9223372036854775807) :
    Calls Tryd.prog 50 #[.string s, .string ⟨#[32, 9]⟩] w fun e w' => e = .returned (.string (ofL (trailL s.data.toList))) ∧ Below w.heap.size w w' := by
  refine (Any.strings_TrimRight_laid Tryd.lays162 infoA s ⟨#[32, 9]⟩ w hs (by decide) trim_ascii).mono ?_
  rintro e w' ⟨rfl, hb⟩
  exact ⟨by rw [← trim_right]; rfl, hb⟩

theorem lead_len (l : List UInt8) : (leadL l).length ≤ l.length := (List.dropWhile_sublist _).length_le
theorem trail_len (l : List UInt8) : (trailL l).length ≤ l.length := by
  unfold trailL
  rw [List.length_reverse]
  have := (List.dropWhile_sublist (l := l.reverse) trimB).length_le
  rwa [List.length_reverse] at this
theorem one_len (f g : Bool) (l : List UInt8) : (oneL f g l).length ≤ l.length := by
  unfold oneL
  have h1 := lead_len l
  have h2 := trail_len l
  have h3 := trail_len (leadL l)
  cases f <;> cases g <;> simp <;> omega
theorem ret_str {a b : ByteArray} (h : a = b) : Ending.returned (.string a) = .returned (.string b) := by rw [h]
def lineV (t : ByteArray) (f l : Bool) : Value := .agg #[.string t, .bool f, .bool l]

set_option maxHeartbeats 2000000 in
set_option maxRecDepth 20000 in
theorem shown_any (t : ByteArray) (f l : Bool) (w : World) (hs : t.size ≤ 9223372036854775807) :
    Calls Tryd.prog 34 #[.agg #[.string t, .bool f, .bool l]] w fun e w' => e = .returned (.string (ofL (oneL f l t.data.toList))) ∧ Below w.heap.size w w' := by
  cases f with
  | true =>
    cases l with
    | true =>
      have Hf : Hid (ofL (oneL true true t.data.toList) = t) := Lib.hid (ofL_eq t)
      go_enter Tryd.func34, Tryd.ntmps34
      go_wp2_with fail
      go_ret
      exact ⟨ret_str Hf.out.symm, (Below.refl _ _).alloc (Nat.le_refl _) _⟩
    | false =>
      have Hf : Hid (oneL true false t.data.toList = trailL t.data.toList) := Lib.hid rfl
      go_enter Tryd.func34, Tryd.ntmps34
      go_wp2_with fail
      refine (tright_any t _ hs).mono ?_
      rintro e w2 ⟨rfl, hb2⟩
      have hb := (Below.refl w.heap.size w).alloc (Nat.le_refl _) (.cells #[.string t, .bool true, .bool false] 66)
      have hb3 := hb.trans (hb2.mono hb.size)
      clear hb hb2
      go_wp2_with fail
      go_ret
      exact ⟨ret_str (by rw [Hf.out]), hb3⟩
  | false =>
    cases l with
    | true =>
      have Hf : Hid (oneL false true t.data.toList = leadL t.data.toList) := Lib.hid rfl
      go_enter Tryd.func34, Tryd.ntmps34
      go_wp2_with fail
      refine (tleft_any t _).mono ?_
      rintro e w2 ⟨rfl, hb2⟩
      have hb := (Below.refl w.heap.size w).alloc (Nat.le_refl _) (.cells #[.string t, .bool false, .bool true] 66)
      have hb3 := hb.trans (hb2.mono hb.size)
      have c2 := cel_line (cel_new w #[.string t, .bool false, .bool true] 66 2) hb2
      clear hb hb2
      go_wp2_with fail
      go_ret
      exact ⟨ret_str (by rw [Hf.out]), hb3⟩
    | false =>
      have Hf : Hid (oneL false false t.data.toList = trailL (leadL t.data.toList)) := Lib.hid rfl
      have hll : (ofL (leadL t.data.toList)).size ≤ 9223372036854775807 := by rw [ofL_size]; have := lead_len t.data.toList; rw [list_size] at this; omega
      go_enter Tryd.func34, Tryd.ntmps34
      go_wp2_with fail
      refine (tleft_any t _).mono ?_
      rintro e w2 ⟨rfl, hb2⟩
      have hb := (Below.refl w.heap.size w).alloc (Nat.le_refl _) (.cells #[.string t, .bool false, .bool false] 66)
      have hb3 := Lib.hid (hb.trans (hb2.mono hb.size))
      have c2 := cel_line (cel_new w #[.string t, .bool false, .bool false] 66 2) hb2
      clear hb hb2
      have Hl : Hid ((ofL (leadL t.data.toList)).data.toList = leadL t.data.toList) := Lib.hid (ofL_list _)
      generalize ofL (leadL t.data.toList) = u at *
      go_wp2_with fail
      refine (tright_any u _ hll).mono ?_
      rintro e w3 ⟨rfl, hb4⟩
      rw [Hl.out]
      have hb5 := hb3.out.trans (hb4.mono hb3.out.size)
      clear hb4
      go_wp2_with fail
      go_ret
      exact ⟨ret_str (by rw [Hf.out]), hb5⟩

end Jsx
end Go.Proofs.YtcalgpkcefccmaaDoor
