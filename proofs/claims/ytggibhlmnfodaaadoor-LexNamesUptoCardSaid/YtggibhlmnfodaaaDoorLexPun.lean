/-
  A sign is read.
-/
import Derived.Test.YtggibhlmnfodaaaDoorLexJoined
import Derived.WalkMore
import Derived.Deep.LoopGhost
namespace Go.Proofs.YtggibhlmnfodaaaDoor
namespace Lex
open Go.RowKit
open Str (lenL runeL)

/-- The longest sign of at most so many bytes. -/
def sgn (l : List UInt8) : Nat → Nat
  | 0 => 1
  | 1 => 1
  | j + 2 => if signB l (j + 2) = true then j + 2 else sgn l (j + 1)
theorem sgn_min (l : List UInt8) (h : l ≠ []) : signN l = sgn l (min 4 l.length) := by
  have hp := Str.pos_of_ne h
  unfold signN
  match hl : l.length with
  | 0 => omega
  | 1 => rw [if_neg (by omega), if_neg (by omega), if_neg (by omega)]; rfl
  | 2 => rw [if_neg (by omega), if_neg (by omega)]; simp [sgn]
  | 3 => rw [if_neg (by omega)]; simp [sgn]
  | n + 4 =>
    rw [show min 4 (n + 4) = 4 by omega]
    simp [sgn]
theorem sgn_le (l : List UInt8) : ∀ j, 1 ≤ j → 1 ≤ sgn l j ∧ sgn l j ≤ j
  | 0, h => by omega
  | 1, _ => by simp [sgn]
  | j + 2, _ => by
    have := sgn_le l (j + 1) (by omega)
    rw [sgn]
    split <;> omega

theorem sgn_yes {l : List UInt8} {j : Nat} (h : 1 < j) (hs : signB l j = true) : sgn l j = j := by
  match j, h with
  | j + 2, _ => rw [sgn, if_pos hs]
theorem sgn_no {l : List UInt8} {j : Nat} (h : 1 < j) (hs : signB l j = false) : sgn l j = sgn l (j - 1) := by
  match j, h with
  | j + 2, _ => rw [sgn, if_neg (by rw [hs]; decide)]; rfl

set_option maxHeartbeats 4000000 in
set_option maxRecDepth 20000 in
theorem punctuator_any (K : Box) (l : List UInt8) (hl : l ≠ []) (w : World) (h : Rd K l w) :
    Calls Tryd.prog 34 #[K.ptr] w (PostO K w (punP l)) := by
  obtain ⟨R, hR⟩ : ∃ R, punP l = R := ⟨_, rfl⟩
  rw [hR]
  have HR : Hid (R = (5, 0, l.drop (sgn l (min 4 l.length)))) := Lib.hid (by rw [← hR, punP, sgn_min l hl])
  have hp := Str.pos_of_ne hl
  have hlen := h.len
  have hs := h.small
  have hle := at_le K l
  have g0 := h.cell0
  have g1 := h.cell1
  have Hsub : Hid ((K.s.size : Int) - (K.at l : Nat) = (l.length : Nat)) := Lib.hid (by unfold Box.at; omega)
  have H := Lib.hid h
  clear h hR hl
  go_enter Tryd.func34, Tryd.ntmps34
  go_wp2_with fail
  go_step3
  go_wp2_with fail
  go_quiet (fail)
  rw [Hsub.out]
  obtain ⟨j0, hj0⟩ : ∃ j, min 4 l.length = j := ⟨_, rfl⟩
  rw [show min (4 : Int) ((l.length : Nat) : Int) = ((j0 : Nat) : Int) by omega]
  have HJ : Hid (1 ≤ j0 ∧ j0 ≤ 4 ∧ j0 ≤ l.length) := Lib.hid (by omega)
  have HR0 : Hid (R = (5, 0, l.drop (sgn l j0))) := Lib.hid (by rw [HR.out, hj0])
  clear HR hj0
  generalize hw : World.drewN _ _ = w1
  have HX := Lib.hid (And.intro (show Rd K l w1 from hw ▸ H.out.drewN _) (show Bar K.b w w1 from hw ▸ (Bar.refl _ _).drewN _))
  clear hw g0 g1
  go_wp2_with fail
  go_step3
  go_wp2_with fail
  go_loopg [4, 5] j0 (fun n a _ wr => ∃ j, a = .int .i64 ((j : Nat) : Int) ∧ n = j ∧ 1 ≤ j ∧ j ≤ 4 ∧ j ≤ l.length ∧ R = (5, 0, l.drop (sgn l j)) ∧ Rd K l wr ∧ Bar K.b w wr)
  case atStart => exact ⟨j0, rfl, rfl, HJ.out.1, HJ.out.2.1, HJ.out.2.2, HR0.out, HX.out.1, HX.out.2⟩
  case round =>
    clear HX HJ HR0
    obtain ⟨j, rfl, hn, h1, h4, hjl, hr, hRd, hBar⟩ := hrel
    have Hat := Lib.hid (at_drop K l j hRd.len hjl)
    have hat : ((K.at l : Nat) : Int) + (j : Nat) ≤ K.s.size := by rw [Hat.out]; have := at_le K (l.drop j); omega
    have HW := Lib.hid (And.intro hRd hBar)
    have Hn := Lib.hid hn
    have Hr := Lib.hid hr
    clear hn hr hRd hBar
    by_cases c1 : j = 1
    · subst c1
      have Hf : Hid (R = (5, 0, l.drop 1)) := Lib.hid Hr.out
      have g0 := HW.out.1.cell0
      have f0 := HW.out.1.frozen 0
      go_wp2_with fail
      try rw [Exit.noGoto_ret]
      go_ret2
      exact post_o Hf.out (HW.out.1.to (drop_suf _ _) Hat.out) (HW.out.2.set _ _ _)
    · have c2 : 1 < j := by omega
      clear c1
      have hat2 : (((K.at (l.drop j) : Nat) : Int)) = ((K.at l : Nat) : Int) + (j : Nat) := Hat.out.symm
      obtain ⟨q, hq⟩ : ∃ q, K.at (l.drop j) = q := ⟨_, rfl⟩
      obtain ⟨N, hN⟩ : ∃ N, K.s.extract (K.at l) (K.at (l.drop j)) = N := ⟨_, rfl⟩
      have hNt : N.data.toList = l.take j := by
        rw [← hN, extract_up K HW.out.1.suf (drop_suf l j).length_le]
        unfold upTo
        rw [List.length_drop]; congr 1; omega
      have g0 := HW.out.1.cell0
      have g1 := HW.out.1.cell1
      have HN := Lib.hid hN
      have HNt := Lib.hid hNt
      clear hN hNt hat2 hq q
      go_wp2_with fail
      go_quiet (fail)
      rw [show K.at l + j = K.at (l.drop j) by have := Hat.out; omega, HN.out]
      generalize hw : World.drewN _ _ = w2
      have HX := Lib.hid (And.intro (show Rd K l w2 from hw ▸ HW.out.1.drewN _) (show Bar K.b w w2 from hw ▸ HW.out.2.drewN _))
      clear hw g0 g1
      by_cases e1 : N.toList = [63, 46]
      · have b1 : (N.toList == [63, 46]) = true := beq_iff_eq.2 e1
        have Hq : Hid (signB l j = !digAt (l.drop j)) := Lib.hid (by rw [signB, if_pos (by rw [← HNt.out, ← Lib.toList_data]; exact e1)])
        clear e1
        obtain ⟨v, hv⟩ : ∃ v, digAt (l.drop j) = v := ⟨_, rfl⟩
        have Hv := Lib.hid hv
        clear hv
        go_wp2_with fail
        refine (digitBehind_any K l j hjl v Hv.out _ HX.out.1).mono ?_
        rintro e w3 ⟨rfl, h3, hb3⟩
        have HY := Lib.hid (And.intro h3 (HX.out.2.on hb3))
        clear h3 hb3
        cases v with
        | false =>
          have Hf : Hid (R = (5, 0, l.drop j)) := Lib.hid (by rw [Hr.out, sgn_yes c2 (by rw [Hq.out, Hv.out]; rfl)])
          have g0 := HY.out.1.cell0
          have f0 := HY.out.1.frozen 0
          go_wp2_with fail
          try rw [Exit.noGoto_ret]
          go_ret2
          exact post_o Hf.out (HY.out.1.to (drop_suf _ _) Hat.out) (HY.out.2.set _ _ _)
        | true =>
          have Hg : Hid (R = (5, 0, l.drop (sgn l (j - 1)))) := Lib.hid (by rw [Hr.out, sgn_no c2 (by rw [Hq.out, Hv.out]; rfl)])
          go_wp2_with fail
          go_roundg (j - 1)
          case rel => exact ⟨j - 1, by rw [show ((j : Nat) : Int) - 1 = ((j - 1 : Nat) : Int) by omega], rfl, by omega, by omega, by omega, Hg.out, HY.out.1, HY.out.2⟩
          case measure => rw [Hn.out]; omega
      · have b1 : (N.toList == [63, 46]) = false := beq_eq_false_iff_ne.2 e1
        have Hq : Hid (signB l j = joinB N.data.toList) := Lib.hid (by rw [signB, if_neg (by rw [← HNt.out, ← Lib.toList_data]; exact e1), HNt.out])
        clear e1
        go_wp2_with fail
        refine (joined_any N _).mono ?_
        rintro e w3 ⟨rfl, rfl⟩
        cases hv : joinB N.data.toList with
        | true =>
          have Hv := Lib.hid hv
          clear hv
          have Hf : Hid (R = (5, 0, l.drop j)) := Lib.hid (by rw [Hr.out, sgn_yes c2 (by rw [Hq.out, Hv.out])])
          have g0 := HX.out.1.cell0
          have f0 := HX.out.1.frozen 0
          go_wp2_with fail
          try rw [Exit.noGoto_ret]
          go_ret2
          exact post_o Hf.out (HX.out.1.to (drop_suf _ _) Hat.out) (HX.out.2.set _ _ _)
        | false =>
          have Hv := Lib.hid hv
          clear hv
          have Hg : Hid (R = (5, 0, l.drop (sgn l (j - 1)))) := Lib.hid (by rw [Hr.out, sgn_no c2 (by rw [Hq.out, Hv.out])])
          go_wp2_with fail
          go_roundg (j - 1)
          case rel => exact ⟨j - 1, by rw [show ((j : Nat) : Int) - 1 = ((j - 1 : Nat) : Int) by omega], rfl, by omega, by omega, by omega, Hg.out, HX.out.1, HX.out.2⟩
          case measure => rw [Hn.out]; omega

end Lex
end Go.Proofs.YtggibhlmnfodaaaDoor
