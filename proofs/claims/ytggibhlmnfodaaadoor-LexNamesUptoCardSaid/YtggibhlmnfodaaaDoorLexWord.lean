/-
  The contract of the function that tells names.
-/
import Derived.Test.YtggibhlmnfodaaaDoorWordPlain
import Derived.Test.YtggibhlmnfodaaaDoorUniRunes
import Derived.Lib.OthersKept
namespace Go.Proofs.YtggibhlmnfodaaaDoor
namespace Word
open Go.RowKit
open Uni (lenN runeN startB partB ret_bool)

theorem below_iterAt {B : Nat} {a wr : World} (h : Below B a wr) (k : Nat) (hk : B ≤ k) (s : ByteArray) (p : Nat) : Below B a (wr.iterAt k s p) :=
  h.trans ⟨rfl, rfl, rfl, by simp [World.iterAt], fun j hj => by simp only [World.iterAt, Array.getElem?_setIfInBounds]; rw [if_neg (by omega)]⟩

set_option maxHeartbeats 1000000 in
set_option maxRecDepth 20000 in
theorem name_any (s : ByteArray) (w : World) (hs : s.size ≤ maxLen) :
    Calls Tryd.prog 5 #[.string s] w fun e w' => e = .returned (.bool (nameB s)) ∧ Below w.heap.size w w' := by
  have hm := hs
  unfold maxLen at hs
  go_enter Tryd.func5, Tryd.ntmps5
  go_wp2
  go_loopw [3, 4] (fun _ _ wr => ∃ i : Nat, i ≤ s.size ∧ (i = 0 ∨ 0 < i ∧ startB ((Utf8.decode s 0).1 : Int) = true ∧ goes s 0 = goes s i) ∧ wr.heap[w.heap.size]? = some (.stringIter s i) ∧ Below w.heap.size w wr) (fun _ _ wr => s.size - wr.iterPos w.heap.size)
  case atStart => exact ⟨0, by omega, Or.inl rfl, World.iter_heap w s 0, (Below.refl _ _).alloc (Nat.le_refl _) _⟩
  case round =>
    obtain ⟨i, hi, he, hk, hw⟩ := hrel
    have He := Lib.hid he; clear he
    have Hk := Lib.hid hk
    have Hp := Lib.hid (iterPos_of hk)
    by_cases hlt : i < s.size
    · have hn := fun ty => Lib.run_next_any_at (P := Tryd.prog) wr w.heap.size s i ty hk hlt
      clear hk
      have hd := decode_le s i
      have hp := Uni.step_pos s i
      have hl := Uni.step_le s i hlt
      have Hit := Lib.hid (Lib.iterAt_heap wr w.heap.size s i (i + (Utf8.decode s i).2) Hk.out)
      have Hbi := below_iterAt hw w.heap.size (Nat.le_refl _) s (i + (Utf8.decode s i).2)
      have hszw : w.heap.size < (wr.iterAt w.heap.size s (i + (Utf8.decode s i).2)).heap.size := (Array.getElem?_eq_some_iff.1 Hit.out).1
      have Hw2 := Lib.hid hszw; clear hszw
      have Hlt := Lib.hid hlt
      go_wp2_with fail
      generalize wr.iterAt w.heap.size s (i + (Utf8.decode s i).2) = w2 at *
      refine (Uni.part_any _ _).mono ?_
      rintro e w3 ⟨rfl, hb3⟩
      have Hk3 : Hid (w3.heap[w.heap.size]? = some (.stringIter s (i + (Utf8.decode s i).2))) := Lib.hid ((hb3.block _ Hw2.out).trans Hit.out)
      have Hb3 := Hbi.trans (hb3.mono (Nat.le_of_lt Hw2.out))
      have Hp3 := Lib.hid (iterPos_of Hk3.out)
      cases hpa : partB ((Utf8.decode s i).1 : Int)
      · have Hf : Hid (nameB s = false) := Lib.hid (by
          rcases He.out with h | ⟨_, h1, h2⟩
          · subst h
            cases hst : startB ((Utf8.decode s 0).1 : Int)
            · exact name_no s hst
            · rw [Uni.start_part _ hst] at hpa; cases hpa
          · rw [name_yes s (by have := Hlt.out; omega) h1, h2]; exact goes_no s i Hlt.out hpa)
        clear hpa
        go_wp2_with fail
        go_ret
        exact ⟨ret_bool Hf.out.symm, Hb3⟩
      · have Hpa := Lib.hid hpa
        clear hpa
        by_cases h0 : i = 0
        · subst h0
          go_wp2_with fail
          refine (Uni.start_any _ _).mono ?_
          rintro e w4 ⟨rfl, hb4⟩
          have Hs3 : Hid (w.heap.size < w3.heap.size) := Lib.hid (Array.getElem?_eq_some_iff.1 Hk3.out).1
          have Hk4 : Hid (w4.heap[w.heap.size]? = some (.stringIter s (0 + (Utf8.decode s 0).2))) := Lib.hid ((hb4.block _ Hs3.out).trans Hk3.out)
          have Hb4 := Hb3.trans (hb4.mono (Nat.le_of_lt Hs3.out))
          have Hp4 := Lib.hid (iterPos_of Hk4.out)
          cases hst : startB ((Utf8.decode s 0).1 : Int)
          · have Hf : Hid (nameB s = false) := Lib.hid (name_no s hst)
            clear hst
            go_wp2_with fail
            go_ret
            exact ⟨ret_bool Hf.out.symm, Hb4⟩
          · have Hst := Lib.hid hst
            clear hst
            go_wp2_with fail
            go_roundw
            case rel => exact ⟨0 + (Utf8.decode s 0).2, hl, Or.inr ⟨by omega, Hst.out, goes_on s 0 Hlt.out Hpa.out⟩, Hk4.out, Hb4⟩
            case measure => rw [Hp4.out, Hp.out]; omega
        · have b0 : ((i : Int) == 0) = false := beq_eq_false_iff_ne.2 (by omega)
          have He2 : Hid (startB ((Utf8.decode s 0).1 : Int) = true ∧ goes s 0 = goes s i) := Lib.hid (He.out.elim (fun h => absurd h h0) (fun h => h.2))
          clear He
          go_wp2_with fail
          go_roundw
          case rel => exact ⟨i + (Utf8.decode s i).2, hl, Or.inr ⟨by omega, He2.out.1, He2.out.2.trans (goes_on s i Hlt.out Hpa.out)⟩, Hk3.out, Hb3⟩
          case measure => rw [Hp3.out, Hp.out]; omega
    · have hn := fun ty => Lib.run_next_end_at (P := Tryd.prog) wr w.heap.size s i ty hk hlt
      clear hk
      by_cases h0 : s.size = 0
      · have Hf : Hid (nameB s = false) := Lib.hid (name_empty s (by omega))
        obtain rfl : s = ⟨#[]⟩ := by
          apply ByteArray.ext; apply Array.eq_empty_of_size_eq_zero; exact h0
        go_wp2_with fail
        go_ret
        exact ⟨ret_bool Hf.out.symm, hw⟩
      · have b0 : (s.toList == []) = false := beq_eq_false_iff_ne.2 (by
          rw [Lib.toList_data]
          intro h
          have : s.data.toList.length = 0 := by rw [h]; rfl
          exact h0 (by simpa using this))
        have Hf : Hid (nameB s = true) := Lib.hid (by
          obtain h | ⟨_, h1, h2⟩ := He.out
          · omega
          · rw [name_yes s (by omega) h1, h2]; exact goes_end s i hlt)
        clear He
        go_wp2_with fail
        go_ret
        exact ⟨ret_bool Hf.out.symm, hw⟩


end Word
end Go.Proofs.YtggibhlmnfodaaaDoor
