/-
  What is thrown is caught.
-/
import Derived.Test.YtjoohpdohdehgaaGreatDoorRegAll
import Derived.Defers
import Derived.Recover
namespace Go.Proofs.YtjoohpdohdehgaaGreatDoor
namespace Reg
open Go.RowKit Go.Maps Go.WideMaps

theorem fault_no (W : World) : (Instr.typeAssert .nilIface 20 56 true).run Tryz.prog W = .ok (.tuple #[.agg #[.int .i64 0, .int .i64 0], .bool false]) W := by kernel_rfl
theorem fault_yes (W : World) (v : Value) : (Instr.typeAssert (.iface 56 v) 20 56 true).run Tryz.prog W = .ok (.tuple #[v, .bool true]) W := by kernel_rfl

theorem wp_tmps {P : Program} {c : Code} {Q : Exit → Act → World → Prop} {T T' : Array Value} {d : List Deferred} {w : World} (h : T = T') (k : c.wp P Q { tmps := T', defers := d } w) :
    c.wp P Q { tmps := T, defers := d } w := h ▸ k

set_option linter.unusedSimpArgs false
set_option maxHeartbeats 1000000 in
set_option maxRecDepth 20000 in
theorem catch_idle (p q : Addr) (w : World) :
    CallsD Tryz.prog 24 #[.pointer (some p), .pointer (some q)] .returning w fun e u' w' => e = .returned (.tuple #[]) ∧ u' = .returning ∧ Below w.heap.size w w' := by
  refine callsD_of_wpS Tryz.func24 rfl fun c₀ cs hu => ?_
  apply wpS_seq
  apply wpS_region
  simp [wpOpsS, go_sem, recoverD, hu, Tryz.ntmps24, Exit.thenS, fault_no]
  apply wpS_seq
  apply wpS_region
  simp [wpOpsS, go_sem, recoverD, hu, Tryz.ntmps24, Exit.thenS, fault_no]
  refine wpS_cond (t := false) (by simp [Act.eval, Array.replicate]) ?_
  simp only [Bool.false_eq_true, if_false]
  refine wpS_of_wp (wp_skip ?_)
  cases c₀
  simp_all [bodyPostS, results, Tryz.results24]
  exact Below.alloc (Below.refl _ _) (Nat.le_refl _) _

set_option maxHeartbeats 1000000 in
set_option maxRecDepth 20000 in
theorem catch_thrown (n : Nat) (T U : TypeId) (x y a c : Int) (older : List PanicEntry) (w : World) (hn : n + 1 < w.heap.size)
    (hp : w.heap[n]? = some (.cells #[.int .i64 x] T)) (hq : w.heap[n + 1]? = some (.cells #[.int .i64 y] U)) :
    CallsD Tryz.prog 24 #[.pointer (some ⟨n, 0, none⟩), .pointer (some ⟨n + 1, 0, none⟩)] (.panicking ({ v := .iface 56 (.agg #[.int .i64 a, .int .i64 c]), recovered := false } :: older)) w
      fun e u' w' => e = .returned (.tuple #[]) ∧ u' = .panicking ({ v := .iface 56 (.agg #[.int .i64 a, .int .i64 c]), recovered := true } :: older) ∧
        w'.cell? ⟨n, 0, none⟩ = some (.int .i64 a) ∧ w'.cell? ⟨n + 1, 0, none⟩ = some (.int .i64 c) ∧ Below n w w' := by
  refine callsD_of_wpS Tryz.func24 rfl fun c₀ cs hu => ?_
  apply wpS_seq
  apply wpS_region
  simp [wpOpsS, go_sem, recoverD, hu, Tryz.ntmps24, Exit.thenS, fault_yes]
  apply wpS_seq
  apply wpS_region
  simp [wpOpsS, go_sem, recoverD, hu, Tryz.ntmps24, Exit.thenS, fault_yes]
  refine wpS_cond (t := true) (by simp [Act.eval, Array.replicate]) ?_
  simp only [if_true]
  refine wpS_of_wp ?_
  obtain ⟨W, hW⟩ : ∃ W, W = w.alloc (.cells #[.int .i64 a, .int .i64 c] 56) := ⟨_, rfl⟩
  have hb : Below n w W := by rw [hW]; exact Below.alloc (Below.refl _ _) (by omega) _
  have hs : W.heap.size = w.heap.size + 1 := by rw [hW]; simp
  have g1 : W.heap[n]? = some (.cells #[.int .i64 x] T) := by rw [hW, Below.heap_alloc _ _ _ (by omega)]; exact hp
  have g2 : W.heap[n + 1]? = some (.cells #[.int .i64 y] U) := by rw [hW, Below.heap_alloc _ _ _ (by omega)]; exact hq
  have c1 : W.cell? ⟨n, 0, none⟩ = some (.int .i64 x) := by simp [World.cell?, g1]
  have c2 : W.cell? ⟨n + 1, 0, none⟩ = some (.int .i64 y) := by simp [World.cell?, g2]
  have z1 : W.frozen? ⟨n, 0, none⟩ = false := by simp [World.frozen?, g1]
  have z2 : W.frozen? ⟨n + 1, 0, none⟩ = false := by simp [World.frozen?, g2]
  have g3 : W.heap[w.heap.size]? = some (.cells #[.int .i64 a, .int .i64 c] 56) := by rw [hW]; exact Array.getElem?_push_size
  have d1 : W.cell? ⟨w.heap.size, 0, none⟩ = some (.int .i64 a) := by simp [World.cell?, g3]
  have d2 : W.cell? ⟨w.heap.size, 1, none⟩ = some (.int .i64 c) := by simp [World.cell?, g3]
  rw [← hW]
  clear hW hu hp hq g1 g2 g3
  generalize hm : w.heap.size = m at *
  clear hm
  generalize hF : FrameMode.panicking _ = F
  refine wp_tmps (T' := #[.pointer (some ⟨n, 0, none⟩), .pointer (some ⟨n + 1, 0, none⟩), .pointer (some ⟨m, 0, none⟩), .bool true,
    .tuple #[.agg #[.int .i64 a, .int .i64 c], .bool true], .iface 56 (.agg #[.int .i64 a, .int .i64 c]), .tuple #[.agg #[.int .i64 a, .int .i64 c], .bool true], .agg #[.int .i64 a, .int .i64 c],
    .bool true, .bool true, undef, undef, undef, undef]) (by kernel_rfl) ?_

  go_region
  have e1 : ((W.setCell ⟨n, 0, none⟩ (.int .i64 a)).setCell ⟨n + 1, 0, none⟩ (.int .i64 c)).cell? ⟨n, 0, none⟩ = some (.int .i64 a) := by simp [go_sem, c1]
  have e2 : ((W.setCell ⟨n, 0, none⟩ (.int .i64 a)).setCell ⟨n + 1, 0, none⟩ (.int .i64 c)).cell? ⟨n + 1, 0, none⟩ = some (.int .i64 c) := by simp [go_sem, c2]
  exact ⟨rfl, F, rfl, .tuple #[], by simp [results, Tryz.results24], rfl, rfl, e1, e2,
    ((hb.setCell (Nat.le_refl _) _).setCell (Nat.le_succ _) _).trans ⟨rfl, rfl, rfl, Nat.le_refl _, fun _ _ => rfl⟩⟩

end Reg
end Go.Proofs.YtjoohpdohdehgaaGreatDoor
