/-
  The contracts of the machine's step and of the loop that feeds it.
-/
import Derived.Test.YtggibhlmnfodaaaDoorNumByte
import Derived.OneCell
import Derived.StillTailTactics
import Derived.Outline
namespace Go.Proofs.YtggibhlmnfodaaaDoor
namespace Num
open Go.RowKit

/-- The machine, as its block holds it. -/
def MachAt (b : Nat) (w : World) (st : Nat) (base : UInt8) (p : Nat) : Prop :=
  w.heap[b]? = some (.cells #[.int .i64 (st : Int), .int .u8 (base.toNat : Int), .int .i64 (p : Int)] 74 (0, 0))

theorem mach_cells {b : Nat} {w : World} {st : Nat} {base : UInt8} {p : Nat} (h : MachAt b w st base p) :
    w.cell? ⟨b, 0, none⟩ = some (.int .i64 (st : Int)) ∧ w.cell? ⟨b, 1, none⟩ = some (.int .u8 (base.toNat : Int)) ∧ w.cell? ⟨b, 2, none⟩ = some (.int .i64 (p : Int)) := by
  unfold MachAt at h
  simp [World.cell?, h]
theorem mach_free {b : Nat} {w : World} {st : Nat} {base : UInt8} {p : Nat} (h : MachAt b w st base p) (o : Nat) : w.frozen? ⟨b, o, none⟩ = false := by
  unfold MachAt at h
  simp [World.frozen?, h]
theorem mach_lt {b : Nat} {w : World} {st : Nat} {base : UInt8} {p : Nat} (h : MachAt b w st base p) : b < w.heap.size := lt_of_block h
theorem mach_set {b : Nat} {w : World} {cs : Array Value} {t : TypeId} (h : w.heap[b]? = some (.cells cs t (0, 0))) (o : Nat) (u : Value) :
    (w.setCell ⟨b, o, none⟩ u).heap[b]? = some (.cells (cs.setIfInBounds o u) t (0, 0)) := by
  have hlt := lt_of_block h
  have h' : w.heap[b] = .cells cs t (0, 0) := by simpa [Array.getElem?_eq_getElem hlt] using h
  show (w.heap.modify b _)[b]? = _
  rw [Array.getElem?_eq_getElem (by simpa using hlt), Array.getElem_modify_self, h']
  rfl
theorem mach_set0 {b : Nat} {w : World} {st : Nat} {base : UInt8} {p : Nat} (h : MachAt b w st base p) (n : Nat) : MachAt b (w.setCell ⟨b, 0, none⟩ (.int .i64 (n : Int))) n base p := mach_set h 0 _
theorem mach_set1 {b : Nat} {w : World} {st : Nat} {base : UInt8} {p : Nat} (h : MachAt b w st base p) (c : UInt8) : MachAt b (w.setCell ⟨b, 1, none⟩ (.int .u8 (c.toNat : Int))) st c p := mach_set h 1 _
theorem mach_set2 {b : Nat} {w : World} {st : Nat} {base : UInt8} {p : Nat} (h : MachAt b w st base p) (n : Nat) : MachAt b (w.setCell ⟨b, 2, none⟩ (.int .i64 (n : Int))) st base n := mach_set h 2 _

/-- A callee that leaves the world alone, as a quiet step wants it. -/
theorem quiet_of {P : Program} {f : FuncId} {args : Array Value} {w : World} {v : Value} (h : Calls P f args w fun e w' => e = .returned v ∧ w = w') :
    Calls P f args w fun e w' => e = .returned v ∧ w' = w := h.mono fun _ _ ⟨a, b⟩ => ⟨a, b.symm⟩

/-- The second half of a step: the letter is kept, the digit counted. -/
def StepPost (b : Nat) (w : World) (nx : Nat) (base : UInt8) (p : Nat) (c : UInt8) (e : Ending) (w' : World) : Prop :=
  e = .returned (.tuple #[]) ∧ MachAt b w' (stN nx (plN nx p c)) (baN nx base c) (plN nx p c) ∧ Below b w w'

theorem next_bas (st : Nat) (base c : UInt8) (h : 12 ≤ st) : nextN st base c = basN st base c := by rw [nextN, if_pos h]
theorem next_pow (st : Nat) (base c : UInt8) (h : ¬ 12 ≤ st) (h8 : 8 ≤ st) : nextN st base c = powN st c := by rw [nextN, if_neg h, if_pos h8]
theorem next_man (st : Nat) (base c : UInt8) (h : ¬ 12 ≤ st) (h8 : ¬ 8 ≤ st) : nextN st base c = manN st c := by rw [nextN, if_neg h, if_neg h8]

/-- How a step ends. -/
theorem post_other {b st : Nat} {w w0 : World} {base : UInt8} {p : Nat} (c : UInt8) (H : MachAt b w0 st base p) (hb : Below b w w0) (nx : Nat) (h1 : nx ≠ 12) (h2 : nx ≠ 10) :
    StepPost b w nx base p c (.returned (.tuple #[])) (w0.setCell ⟨b, 0, none⟩ (.int .i64 (nx : Int))) :=
  ⟨rfl, by rw [st_ne _ _ h2, pl_ne _ _ _ h2, ba_ne _ _ _ h1]; exact mach_set0 H nx, hb.setCell (Nat.le_refl _) _⟩
theorem post_letter {b st : Nat} {w w0 : World} {base : UInt8} {p : Nat} (c : UInt8) (H : MachAt b w0 st base p) (hb : Below b w w0) :
    StepPost b w 12 base p c (.returned (.tuple #[])) ((w0.setCell ⟨b, 0, none⟩ (.int .i64 12)).setCell ⟨b, 1, none⟩ (.int .u8 ((lowN c).toNat : Int))) :=
  ⟨rfl, by rw [st_ne _ _ (by decide), pl_ne _ _ _ (by decide), baN, if_pos rfl]; exact mach_set1 (mach_set0 H 12) _, (hb.setCell (Nat.le_refl _) _).setCell (Nat.le_refl _) _⟩
theorem post_nought {b st : Nat} {w w0 : World} {base : UInt8} (c : UInt8) (H : MachAt b w0 st base 0) (hb : Below b w w0) (hc : c = 48) :
    StepPost b w 10 base 0 c (.returned (.tuple #[])) (w0.setCell ⟨b, 0, none⟩ (.int .i64 10)) := by
  have e : plN 10 0 c = 0 := by rw [plN, if_neg (by simp [hc])]
  refine ⟨rfl, ?_, hb.setCell (Nat.le_refl _) _⟩
  rw [e, ba_ne _ _ _ (by decide), stN, if_neg (by omega)]
  exact mach_set0 H 10
theorem post_count {b st : Nat} {w w0 : World} {base : UInt8} {p : Nat} (c : UInt8) (H : MachAt b w0 st base p) (hb : Below b w w0) (hc : 0 < p ∨ c ≠ 48) (h9 : ¬ 9 < p + 1) (q : Int) (hq : q = p + 1) :
    StepPost b w 10 base p c (.returned (.tuple #[])) ((w0.setCell ⟨b, 0, none⟩ (.int .i64 10)).setCell ⟨b, 2, none⟩ (.int .i64 q)) := by
  have e : plN 10 p c = p + 1 := by rw [plN, if_pos ⟨rfl, hc⟩]
  subst hq
  refine ⟨rfl, ?_, (hb.setCell (Nat.le_refl _) _).setCell (Nat.le_refl _) _⟩
  rw [e, ba_ne _ _ _ (by decide), stN, if_neg (by omega)]
  exact mach_set2 (mach_set0 H 10) (p + 1)
theorem post_many {b st : Nat} {w w0 : World} {base : UInt8} {p : Nat} (c : UInt8) (H : MachAt b w0 st base p) (hb : Below b w w0) (hc : 0 < p ∨ c ≠ 48) (h9 : 9 < p + 1) (q : Int) (hq : q = p + 1) :
    StepPost b w 10 base p c (.returned (.tuple #[])) (((w0.setCell ⟨b, 0, none⟩ (.int .i64 10)).setCell ⟨b, 2, none⟩ (.int .i64 q)).setCell ⟨b, 0, none⟩ (.int .i64 16)) := by
  have e : plN 10 p c = p + 1 := by rw [plN, if_pos ⟨rfl, hc⟩]
  subst hq
  refine ⟨rfl, ?_, ((hb.setCell (Nat.le_refl _) _).setCell (Nat.le_refl _) _).setCell (Nat.le_refl _) _⟩
  rw [e, ba_ne _ _ _ (by decide), stN, if_pos ⟨rfl, by omega⟩]
  exact mach_set0 (mach_set2 (mach_set0 H 10) (p + 1)) 16

set_option maxHeartbeats 2000000 in
set_option maxRecDepth 100000 in
theorem step_bas (b st : Nat) (base : UInt8) (p : Nat) (c : UInt8) (w : World) (h : MachAt b w st base p) (hp : p ≤ 100) (h12 : 12 ≤ st) (nx : Nat) (Hx : Hid (basN st base c = nx)) :
    Calls Tryd.prog 52 #[.pointer (some ⟨b, 0, none⟩), .int .u8 (c.toNat : Int)] w (StepPost b w nx base p c) := by
  obtain ⟨c0, c1, c2⟩ := mach_cells h
  have f0 := mach_free h 0
  have f1 := mach_free h 1
  have f2 := mach_free h 2
  have hlt := mach_lt h
  go_enter Tryd.func52, Tryd.ntmps52
  go_wp2_with fail
  refine wp_region_still_tail 13 (by kernel_rfl) (by kernel_rfl) ?_
  change wpStill _ _ w.drew (fun a' => wpList _ _ _ _ a' w.drew) _ _
  have Hd : Hid (MachAt b w.drew st base p) := h
  have hb0 : Below b w w.drew := (Below.refl _ _).drew
  clear c0 c1 c2 f0 f1 f2 hlt h
  generalize w.drew = w0 at *
  obtain ⟨c0, c1, c2⟩ := mach_cells Hd.out
  have f0 := mach_free Hd.out 0
  have f1 := mach_free Hd.out 1
  have f2 := mach_free Hd.out 2
  simp only [List.take_succ_cons, List.take_zero, List.drop_succ_cons, List.drop_zero]
  iterate 10 still_step
  still_call (quiet_of (bas_any st base c _))
  iterate 2 still_step
  refine wpStill_nil ?_
  rw [Hx.out]
  clear Hx
  by_cases n12 : nx = 12
  · subst n12
    go_wp2_with (go_at_call 59; refine (lower_any c _).mono ?_; rintro e w1 ⟨rfl, rfl⟩)
    go_end0
    exact post_letter c Hd.out hb0
  · by_cases n10 : nx = 10
    · subst n10
      by_cases h48 : c = 48
      · have t : ((c.toNat : Int) != 48) = false := by rw [n48, h48]; rfl
        by_cases h0 : p = 0
        · subst h0
          go_wp2_with fail
          go_end0
          exact post_nought c Hd.out hb0 h48
        · have g0 : 0 < p := by omega
          have H0 := Lib.hid h0; clear h0
          have H48 := Lib.hid h48; clear h48
          by_cases h9 : 9 < p + 1
          · go_wp2_with fail
            go_end0
            exact post_many c Hd.out hb0 (Or.inl g0) h9 _ rfl
          · go_wp2_with fail
            go_end0
            exact post_count c Hd.out hb0 (Or.inl g0) h9 _ rfl
      · have t : ((c.toNat : Int) != 48) = true := by rw [n48]; simp [h48]
        have H48 := Lib.hid h48; clear h48
        by_cases h0 : p = 0
        · subst h0
          go_wp2_with fail
          go_end0
          exact post_count c Hd.out hb0 (Or.inr H48.out) (by decide) 1 rfl
        · have g0 : 0 < p := by omega
          have H0 := Lib.hid h0; clear h0
          by_cases h9 : 9 < p + 1
          · go_wp2_with fail
            go_end0
            exact post_many c Hd.out hb0 (Or.inl g0) h9 _ rfl
          · go_wp2_with fail
            go_end0
            exact post_count c Hd.out hb0 (Or.inl g0) h9 _ rfl
    · have t12 : ((nx : Int) == 12) = false := by rw [s12]; simp [n12]
      have t10 : ((nx : Int) == 10) = false := by rw [s10]; simp [n10]
      have N12 := Lib.hid n12; clear n12
      have N10 := Lib.hid n10; clear n10
      go_wp2_with fail
      go_end0
      exact post_other c Hd.out hb0 nx N12.out N10.out

set_option maxHeartbeats 2000000 in
set_option maxRecDepth 100000 in
theorem step_pow (b st : Nat) (base : UInt8) (p : Nat) (c : UInt8) (w : World) (h : MachAt b w st base p) (hp : p ≤ 100) (h12 : ¬ 12 ≤ st) (h8 : 8 ≤ st) (nx : Nat) (Hx : Hid (powN st c = nx)) :
    Calls Tryd.prog 52 #[.pointer (some ⟨b, 0, none⟩), .int .u8 (c.toNat : Int)] w (StepPost b w nx base p c) := by
  obtain ⟨c0, c1, c2⟩ := mach_cells h
  have f0 := mach_free h 0
  have f1 := mach_free h 1
  have f2 := mach_free h 2
  have hlt := mach_lt h
  have Hd := Lib.hid h; clear h
  go_enter Tryd.func52, Tryd.ntmps52
  go_wp2_with fail
  refine (pow_any st c _).mono ?_
  rintro e w1 ⟨rfl, rfl⟩
  rw [Hx.out]
  clear Hx
  by_cases n12 : nx = 12
  · subst n12
    go_wp2_with (go_at_call 59; refine (lower_any c _).mono ?_; rintro e w1 ⟨rfl, rfl⟩)
    go_end0
    exact post_letter c Hd.out (Below.refl _ _)
  · by_cases n10 : nx = 10
    · subst n10
      by_cases h48 : c = 48
      · have t : ((c.toNat : Int) != 48) = false := by rw [n48, h48]; rfl
        by_cases h0 : p = 0
        · subst h0
          go_wp2_with fail
          go_end0
          exact post_nought c Hd.out (Below.refl _ _) h48
        · have g0 : 0 < p := by omega
          have H0 := Lib.hid h0; clear h0
          have H48 := Lib.hid h48; clear h48
          by_cases h9 : 9 < p + 1
          · go_wp2_with fail
            go_end0
            exact post_many c Hd.out (Below.refl _ _) (Or.inl g0) h9 _ rfl
          · go_wp2_with fail
            go_end0
            exact post_count c Hd.out (Below.refl _ _) (Or.inl g0) h9 _ rfl
      · have t : ((c.toNat : Int) != 48) = true := by rw [n48]; simp [h48]
        have H48 := Lib.hid h48; clear h48
        by_cases h0 : p = 0
        · subst h0
          go_wp2_with fail
          go_end0
          exact post_count c Hd.out (Below.refl _ _) (Or.inr H48.out) (by decide) 1 rfl
        · have g0 : 0 < p := by omega
          have H0 := Lib.hid h0; clear h0
          by_cases h9 : 9 < p + 1
          · go_wp2_with fail
            go_end0
            exact post_many c Hd.out (Below.refl _ _) (Or.inl g0) h9 _ rfl
          · go_wp2_with fail
            go_end0
            exact post_count c Hd.out (Below.refl _ _) (Or.inl g0) h9 _ rfl
    · have t12 : ((nx : Int) == 12) = false := by rw [s12]; simp [n12]
      have t10 : ((nx : Int) == 10) = false := by rw [s10]; simp [n10]
      have N12 := Lib.hid n12; clear n12
      have N10 := Lib.hid n10; clear n10
      go_wp2_with fail
      go_end0
      exact post_other c Hd.out (Below.refl _ _) nx N12.out N10.out

set_option maxHeartbeats 2000000 in
set_option maxRecDepth 100000 in
theorem step_man (b st : Nat) (base : UInt8) (p : Nat) (c : UInt8) (w : World) (h : MachAt b w st base p) (hp : p ≤ 100) (h12 : ¬ 12 ≤ st) (h8 : ¬ 8 ≤ st) (nx : Nat) (Hx : Hid (manN st c = nx)) :
    Calls Tryd.prog 52 #[.pointer (some ⟨b, 0, none⟩), .int .u8 (c.toNat : Int)] w (StepPost b w nx base p c) := by
  obtain ⟨c0, c1, c2⟩ := mach_cells h
  have f0 := mach_free h 0
  have f1 := mach_free h 1
  have f2 := mach_free h 2
  have hlt := mach_lt h
  have Hd := Lib.hid h; clear h
  go_enter Tryd.func52, Tryd.ntmps52
  go_wp2_with fail
  refine (man_any st c _).mono ?_
  rintro e w1 ⟨rfl, rfl⟩
  rw [Hx.out]
  clear Hx
  by_cases n12 : nx = 12
  · subst n12
    go_wp2_with (go_at_call 59; refine (lower_any c _).mono ?_; rintro e w1 ⟨rfl, rfl⟩)
    go_end0
    exact post_letter c Hd.out (Below.refl _ _)
  · by_cases n10 : nx = 10
    · subst n10
      by_cases h48 : c = 48
      · have t : ((c.toNat : Int) != 48) = false := by rw [n48, h48]; rfl
        by_cases h0 : p = 0
        · subst h0
          go_wp2_with fail
          go_end0
          exact post_nought c Hd.out (Below.refl _ _) h48
        · have g0 : 0 < p := by omega
          have H0 := Lib.hid h0; clear h0
          have H48 := Lib.hid h48; clear h48
          by_cases h9 : 9 < p + 1
          · go_wp2_with fail
            go_end0
            exact post_many c Hd.out (Below.refl _ _) (Or.inl g0) h9 _ rfl
          · go_wp2_with fail
            go_end0
            exact post_count c Hd.out (Below.refl _ _) (Or.inl g0) h9 _ rfl
      · have t : ((c.toNat : Int) != 48) = true := by rw [n48]; simp [h48]
        have H48 := Lib.hid h48; clear h48
        by_cases h0 : p = 0
        · subst h0
          go_wp2_with fail
          go_end0
          exact post_count c Hd.out (Below.refl _ _) (Or.inr H48.out) (by decide) 1 rfl
        · have g0 : 0 < p := by omega
          have H0 := Lib.hid h0; clear h0
          by_cases h9 : 9 < p + 1
          · go_wp2_with fail
            go_end0
            exact post_many c Hd.out (Below.refl _ _) (Or.inl g0) h9 _ rfl
          · go_wp2_with fail
            go_end0
            exact post_count c Hd.out (Below.refl _ _) (Or.inl g0) h9 _ rfl
    · have t12 : ((nx : Int) == 12) = false := by rw [s12]; simp [n12]
      have t10 : ((nx : Int) == 10) = false := by rw [s10]; simp [n10]
      have N12 := Lib.hid n12; clear n12
      have N10 := Lib.hid n10; clear n10
      go_wp2_with fail
      go_end0
      exact post_other c Hd.out (Below.refl _ _) nx N12.out N10.out

theorem step_any (b st : Nat) (base : UInt8) (p : Nat) (c : UInt8) (w : World) (h : MachAt b w st base p) (hp : p ≤ 100) :
    Calls Tryd.prog 52 #[.pointer (some ⟨b, 0, none⟩), .int .u8 (c.toNat : Int)] w (StepPost b w (nextN st base c) base p c) := by
  by_cases h12 : 12 ≤ st
  · rw [next_bas st base c h12]; exact step_bas b st base p c w h hp h12 _ rfl
  · by_cases h8 : 8 ≤ st
    · rw [next_pow st base c h12 h8]; exact step_pow b st base p c w h hp h12 h8 _ rfl
    · rw [next_man st base c h12 h8]; exact step_man b st base p c w h hp h12 h8 _ rfl

end Num
end Go.Proofs.YtggibhlmnfodaaaDoor
