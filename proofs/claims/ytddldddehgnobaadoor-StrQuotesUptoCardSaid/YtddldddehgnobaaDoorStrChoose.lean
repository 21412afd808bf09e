/-
  The contract of str's choose.
-/
import Derived.Test.YtddldddehgnobaaDoorStrCheck
import Derived.Test.YtddldddehgnobaaDoorStrTheory
import Derived.Test.YtddldddehgnobaaDoorStrRune
namespace Go.Proofs.YtddldddehgnobaaDoor
namespace Str
open Go.RowKit

theorem zero_counts (w : World) : (zeroValue 63).run Tryd.prog w = .ok (.agg (Array.replicate 256 (.int .i64 0))) w := by kernel_rfl
theorem zero_ex : ∃ Z : Array Value, (∀ w, (zeroValue 63).run Tryd.prog w = .ok (.agg Z) w) ∧ ∀ j, j < 256 → Z[j]? = some (.int .i64 0) :=
  ⟨_, zero_counts, fun j hj => by rw [Array.getElem?_replicate, if_pos hj]⟩

/-- Block b counts the bytes of l. -/
def Cnt (w : World) (b : Nat) (l : List UInt8) : Prop := ∀ x : UInt8, w.cell? ⟨b, x.toNat, none⟩ = some (.int .i64 (cnt x l : Nat)) ∧ w.frozen? ⟨b, x.toNat, none⟩ = false
theorem Cnt.inc {w : World} {b : Nat} {l : List UInt8} (h : Cnt w b l) (c : UInt8) {z : Int} (hz : z = (cnt c l : Nat) + 1) : Cnt (w.setCell ⟨b, c.toNat, none⟩ (.int .i64 z)) b (l ++ [c]) := by
  intro x
  rw [World.frozen?_setCell]
  refine ⟨?_, (h x).2⟩
  have hc : cnt x (l ++ [c]) = cnt x l + if c = x then 1 else 0 := by
    rw [cnt_app]
    congr 1
    by_cases e : c = x <;> simp [cnt, e]
  by_cases e : c = x
  · subst e
    rw [World.cell?_setCell_same _ _ _ (h c).1, hc, if_pos rfl, hz]; simp
  · rw [World.cell?_setCell_other _ _ _ _ (by intro h'; injection h' with _ h2 _; exact e (UInt8.toNat_inj.1 h2)), (h x).1, hc, if_neg e]; simp
theorem Cnt.start (w : World) (Z : Array Value) (t : TypeId) (hZ : ∀ j, j < 256 → Z[j]? = some (.int .i64 0)) : Cnt (w.alloc (.cells Z t)) w.heap.size [] := by
  intro x
  have hx := x.toNat_lt
  constructor
  · rw [World.cell?_alloc_at _ _ _ _ rfl, hZ _ hx]; rfl
  · exact blk_frozen (w := w.alloc (.cells Z t)) (g := w.heap.size) (cs := Z) (e := t) (by show (w.heap.push _)[w.heap.size]? = _; simp) _

set_option maxHeartbeats 4000000 in
set_option maxRecDepth 100000 in
theorem choose_any (s : ByteArray) (single : Bool) (w : World) (hz : s.size ≤ 16777216) :
    Calls Tryd.prog 24 #[.string s, .bool single] w fun e w' => e = .returned (.tuple #[.int .u8 (pick single s.data.toList).1.toNat, .int .u8 (pick single s.data.toList).2.toNat]) ∧ Below w.heap.size w w' := by
  have hm : s.size ≤ maxLen := by unfold maxLen; omega
  obtain ⟨Z, hZ, hZ0⟩ := zero_ex
  have HZ0 := Lib.hid (Cnt.start w Z 63 hZ0)
  have HBA := Lib.hid ((Below.refl w.heap.size w).alloc (Nat.le_refl _) (.cells Z 63))
  clear hZ0
  cases single
  all_goals
    go_enter Tryd.func24, Tryd.ntmps24
    go_wp2_with fail
    go_loopw [7, 13] (fun _ c wr => ∃ k : Nat, k ≤ s.size ∧ c = .int .i64 k ∧ Cnt wr w.heap.size (s.data.toList.take k) ∧ Below w.heap.size w wr) (fun _ c _ => s.size - (intOf c).toNat)
    case atStart => exact ⟨0, by omega, rfl, HZ0.out, HBA.out⟩
    case round =>
      obtain ⟨k, hk, rfl, hcnt, hbel⟩ := hrel
      have HC := Lib.hid hcnt
      have HB := Lib.hid hbel
      clear hcnt hbel
      by_cases hlt : k < s.size
      · have htk : s.data.toList.take (k + 1) = s.data.toList.take k ++ [s[k]'hlt] := by
          rw [List.take_succ_eq_append_getElem (by simpa using hlt)]; rfl
        have hle : cnt (s[k]'hlt) (s.data.toList.take k) ≤ k := by
          have h1 : cnt (s[k]'hlt) (s.data.toList.take k) ≤ (s.data.toList.take k).length := List.countP_le_length
          have h2 : (s.data.toList.take k).length ≤ k := List.length_take_le _ _
          omega
        have HT := Lib.hid htk
        obtain ⟨x, hx⟩ : ∃ x, s[k]'hlt = x := ⟨_, rfl⟩
        have hxn : (s[k]'hlt).toNat = x.toNat := by rw [hx]
        rw [hx] at HT hle
        obtain ⟨c1, f1⟩ := HC.out x
        have gb : (x.toNat : Int) < 256 := by have := x.toNat_lt; omega
        clear htk hx
        go_wp2_with fail
        go_roundw
        case rel => exact ⟨k + 1, by omega, by go_num, by rw [HT.out]; exact HC.out.inc x rfl, HB.out.setCell (by simp) _⟩
        case measure => simp [intOf]; omega
      · have htk : s.data.toList.take k = s.data.toList := List.take_of_length_le (by simp; omega)
        rw [htk] at HC
        obtain ⟨c34, f34⟩ := HC.out 34
        obtain ⟨c39, f39⟩ := HC.out 39
        have e34 : (34 : UInt8).toNat = 34 := rfl
        have e39 : (39 : UInt8).toNat = 39 := rfl
        rw [e34] at c34 f34
        rw [e39] at c39 f39
        clear htk e34 e39
        obtain ⟨A, hA⟩ : ∃ A, cnt 34 s.data.toList = A := ⟨_, rfl⟩
        obtain ⟨B, hB⟩ : ∃ B, cnt 39 s.data.toList = B := ⟨_, rfl⟩
        rw [hA] at c34
        rw [hB] at c39
        have HA := Lib.hid hA; have HBB := Lib.hid hB
        clear hA hB
        have hABC : (A : Int) < B ∨ (B : Int) < A ∨ ((A : Int) = B) := by omega
        rcases hABC with h | h | h
        · have h' : ¬ (B : Int) < A := by omega
          have hp : Hid (cnt 34 s.data.toList < cnt 39 s.data.toList ∧ ¬ cnt 39 s.data.toList < cnt 34 s.data.toList) := Lib.hid (by rw [HA.out, HBB.out]; omega)
          go_wp2_with fail
          go_quiet (fail)
          go_wp2_with fail
          go_ret2
          exact ⟨by unfold pick; simp [hp.out.1, hp.out.2], below_drewN HB.out _⟩
        · have h' : ¬ (A : Int) < B := by omega
          have hp : Hid (cnt 39 s.data.toList < cnt 34 s.data.toList ∧ ¬ cnt 34 s.data.toList < cnt 39 s.data.toList) := Lib.hid (by rw [HA.out, HBB.out]; omega)
          go_wp2_with fail
          go_quiet (fail)
          go_wp2_with fail
          go_ret2
          exact ⟨by unfold pick; simp [hp.out.1, hp.out.2], below_drewN HB.out _⟩
        · have hp : Hid (¬ cnt 39 s.data.toList < cnt 34 s.data.toList ∧ ¬ cnt 34 s.data.toList < cnt 39 s.data.toList) := Lib.hid (by rw [HA.out, HBB.out]; omega)
          have hBA : B = A := by omega
          subst hBA
          have h1 : ¬ (B : Int) < B := by omega
          clear h
          go_wp2_with fail
          go_quiet (fail)
          go_wp2_with fail
          go_ret2
          exact ⟨by unfold pick; simp [hp.out.1, hp.out.2], below_drewN HB.out _⟩

end Str
end Go.Proofs.YtddldddehgnobaaDoor
