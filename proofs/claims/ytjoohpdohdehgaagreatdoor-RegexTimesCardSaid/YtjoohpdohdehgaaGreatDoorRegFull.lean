/-
  The reader's whole memory: the groups' names in a map, what must be met in a list of closures.
-/
import Derived.Test.YtjoohpdohdehgaaGreatDoorRegQuan
import Derived.Maps.OwnOps
import Derived.Maps.OwnSet
import Derived.Maps.AppendAt
import Derived.Deep.AppendLies
import Derived.Deep.RegionLaw
namespace Go.Proofs.YtjoohpdohdehgaaGreatDoor
namespace Reg
open Go.RowKit Go.Maps
open Str (lenL runeL hexV)

/-- What stays while a body is read: where the call's own blocks begin, the reader's block, the names' block, the body, the flag u. -/
structure Ctx where
  B : Nat
  b : Nat
  mb : Nat
  s : ByteArray
  u : Bool
/-- The reader at so many groups, with such a list. -/
abbrev Ctx.box (C : Ctx) (g : Nat) (v : Value) : Box := ⟨C.B, C.b, C.s, C.u, g, .map (some C.mb), v⟩

theorem Bar.grown {b : Nat} {w w' : World} (h : Bar b w w') : w.grownBy w' (some b) :=
  ⟨h.os, h.tape, h.output, h.size, fun k hk hne => h.block k hk (fun e => hne (by rw [e]))⟩

theorem strLaw : Keyed Tryz.prog 9 := string_keyed Tryz.underlying9
theorem zeroI (w : World) : (zeroValue 3).run Tryz.prog w = .ok (.int .i64 0) w := by kernel_rfl
/-- The names' map: at a name that stands there it holds something. -/
def NamesAt (C : Ctx) (names : List (List UInt8)) (w : World) : Prop :=
  ∃ D : DataW Unit, w.ownsMap Tryz.prog 9 (plainElem Tryz.prog 3) C.mb names.length D ∧ IsMap D ∧ ∀ t : List UInt8, ∃ c : Int, D.atKey (.string t) (.lit (.int .i64 0)) = .lit (.int .i64 c) ∧ (c = 0 ↔ t ∉ names)
theorem NamesAt.grown {C : Ctx} {names : List (List UInt8)} {w w' : World} {row : Option Nat} (h : NamesAt C names w) (hg : w.grownBy w' row) (hne : some C.mb ≠ row) : NamesAt C names w' := by
  obtain ⟨D, h1, h2, h3⟩ := h
  exact ⟨D, h1.kept hg hne, h2, h3⟩

def fnOf (named : Bool) : Nat := if named = true then 87 else 90
/-- A closure that looks after what must be met; ob: the block of the list that holds it. -/
def RefAt (C : Ctx) (ob : Option Nat) (w : World) (r : Ref) (x : Value) : Prop := ∃ a t p : Nat,
  x = .func (.func (fnOf r.named)) #[] #[.pointer (some ⟨a, 0, none⟩), .pointer (some ⟨t, 0, none⟩), .pointer (some ⟨p, 0, none⟩)]
  ∧ (∀ k, k = a ∨ k = t ∨ k = p → C.B ≤ k ∧ k ≠ C.b ∧ k ≠ C.mb ∧ some k ≠ ob)
  ∧ w.cell? ⟨a, 0, none⟩ = some (.pointer (some ⟨C.b, 0, none⟩)) ∧ w.cell? ⟨t, 0, none⟩ = some (.string (Str.ofL r.text)) ∧ w.cell? ⟨p, 0, none⟩ = some (.int .i64 ((C.s.size - r.left : Nat) : Int))
theorem RefAt.grown {C : Ctx} {ob : Option Nat} {w w' : World} {r : Ref} {x : Value} {row : Option Nat} (h : RefAt C ob w r x) (hg : w.grownBy w' row) (hrow : row = none ∨ row = some C.b ∨ row = some C.mb ∨ row = ob) : RefAt C ob w' r x := by
  obtain ⟨a, t, p, h1, h2, h3, h4, h5⟩ := h
  have hn : ∀ k, k = a ∨ k = t ∨ k = p → some k ≠ row := by
    intro k hk
    obtain ⟨-, q2, q3, q4⟩ := h2 k hk
    rcases hrow with rfl | rfl | rfl | rfl
    · simp
    · simpa using q2
    · simpa using q3
    · exact q4
  exact ⟨a, t, p, h1, h2, hg.cell h3 (hn a (Or.inl rfl)), hg.cell h4 (hn t (Or.inr (Or.inl rfl))), hg.cell h5 (hn p (Or.inr (Or.inr rfl)))⟩
theorem RefAt.move {C : Ctx} {ob ob' : Option Nat} {w : World} {r : Ref} {x : Value} (h : RefAt C ob w r x) (ho : ob' = ob ∨ ∃ H, ob' = some H ∧ w.heap.size ≤ H) : RefAt C ob' w r x := by
  obtain ⟨a, t, p, h1, h2, h3, h4, h5⟩ := h
  refine ⟨a, t, p, h1, fun k hk => ?_, h3, h4, h5⟩
  obtain ⟨q1, q2, q3, q4⟩ := h2 k hk
  refine ⟨q1, q2, q3, ?_⟩
  rcases ho with rfl | ⟨H, rfl, hH⟩
  · exact q4
  · have hk2 : k < w.heap.size := by
      rcases hk with rfl | rfl | rfl
      · exact World.block_lt_of_cell? w _ h3
      · exact World.block_lt_of_cell? w _ h4
      · exact World.block_lt_of_cell? w _ h5
    intro e; injection e with e; omega

def AllR (C : Ctx) (ob : Option Nat) (w : World) : List Ref → List Value → Prop
  | [], [] => True
  | r :: rs, x :: xs => RefAt C ob w r x ∧ AllR C ob w rs xs
  | _, _ => False
theorem AllR.map {C : Ctx} {ob ob' : Option Nat} {w w' : World} (f : ∀ r x, RefAt C ob w r x → RefAt C ob' w' r x) : ∀ (rs : List Ref) (xs : List Value), AllR C ob w rs xs → AllR C ob' w' rs xs
  | [], [], _ => trivial
  | _ :: rs, _ :: xs, h => ⟨f _ _ h.1, AllR.map f rs xs h.2⟩
  | [], _ :: _, h => h.elim
  | _ :: _, [], h => h.elim
theorem AllR.snoc {C : Ctx} {ob : Option Nat} {w : World} {r : Ref} {x : Value} (hx : RefAt C ob w r x) : ∀ (rs : List Ref) (xs : List Value), AllR C ob w rs xs → AllR C ob w (rs ++ [r]) (xs ++ [x])
  | [], [], _ => ⟨hx, trivial⟩
  | _ :: rs, _ :: xs, h => ⟨h.1, AllR.snoc hx rs xs h.2⟩
  | [], _ :: _, h => h.elim
  | _ :: _, [], h => h.elim

/-- The list of what must be met. -/
def RefsAt (C : Ctx) (v : Value) (refs : List Ref) (w : World) : Prop :=
  ∃ xs, w.ownsRow C.B 1 1 v refs.length xs ∧ AllR C v.ownBlock w refs xs ∧ v.ownBlock ≠ some C.b ∧ v.ownBlock ≠ some C.mb
theorem RefsAt.grown {C : Ctx} {v : Value} {refs : List Ref} {w w' : World} {row : Option Nat} (h : RefsAt C v refs w) (hg : w.grownBy w' row) (hrow : row = none ∨ row = some C.b ∨ row = some C.mb) : RefsAt C v refs w' := by
  obtain ⟨xs, h1, h2, h3, h4⟩ := h
  refine ⟨xs, h1.kept hg ?_, AllR.map (fun r x hx => hx.grown hg (by rcases hrow with h | h | h <;> simp [h])) _ _ h2, h3, h4⟩
  rcases hrow with rfl | rfl | rfl
  · cases hv : v.ownBlock <;> simp
  · exact Or.inr h3
  · exact Or.inr h4

/-- The reader as it stands. -/
structure Full (C : Ctx) (st : St) (v : Value) (w : World) : Prop where
  rd : Rd (C.box st.groups v) st.rest w
  mne : C.mb ≠ C.b
  mlow : C.B ≤ C.mb
  names : NamesAt C st.names w
  refs : RefsAt C v st.refs w
  gb : st.groups + st.rest.length ≤ C.s.size
  nb : st.names.length + st.rest.length ≤ C.s.size
  rb : st.refs.length + st.rest.length ≤ C.s.size

theorem Full.bar {C : Ctx} {st : St} {v : Value} {w w' : World} (h : Full C st v w) {l : List UInt8} (hr : Rd (C.box st.groups v) l w') (hb : Bar C.b w w') (hl : l.length ≤ st.rest.length) : Full C (st.at l) v w' :=
  ⟨hr, h.mne, h.mlow, h.names.grown hb.grown (by simpa using h.mne), h.refs.grown hb.grown (Or.inr (Or.inl rfl)), by have := h.gb; show st.groups + l.length ≤ _; omega, by have := h.nb; show st.names.length + l.length ≤ _; omega, by have := h.rb; show st.refs.length + l.length ≤ _; omega⟩
theorem Full.below {C : Ctx} {st : St} {v : Value} {w w' : World} (h : Full C st v w) (hb : Bar C.b w w') : Below C.B w w' := hb.below h.rd.low h.rd.tabs.le

/-- What a call comes to. -/
def PostS {α : Type} (C : Ctx) (w : World) (f : α → Value) (r : Res α) (e : Ending) (w' : World) : Prop := match r with
  | .error x => e = thrown (C.s.size - x.1 : Nat) x.2 ∧ Below C.B w w'
  | .ok y => e = .returned (f y.1) ∧ (∃ v, Full C y.2 v w') ∧ Below C.B w w'
/-- Likewise, where it hands nothing back. -/
def PostT (C : Ctx) (w : World) (r : Except (Nat × Nat) St) (e : Ending) (w' : World) : Prop := match r with
  | .error x => e = thrown (C.s.size - x.1 : Nat) x.2 ∧ Below C.B w w'
  | .ok y => e = .returned (.tuple #[]) ∧ (∃ v, Full C y v w') ∧ Below C.B w w'

end Reg
end Go.Proofs.YtjoohpdohdehgaaGreatDoor
