/-
  The law 'NumOthers': its walk.
-/
import Derived.Test.YtinjaopgnlpncaaGreatDoorNumLawF
namespace Go.Proofs.YtinjaopgnlpncaaGreatDoor
namespace Num
open Go.RowKit

theorem mod5 (x : Int) : ∃ k : Nat, k < 5 ∧ (IntKind.u64.wrap x).tmod 5 = k := by
  obtain ⟨k, hk, h⟩ := mod_cut x 4
  exact ⟨k, by omega, h⟩

set_option maxHeartbeats 4000000 in
set_option maxRecDepth 100000 in
theorem numothers_any (x y a b : Int) (w : World) (ht : Tab w.heap.size w) :
    Calls Tryz.prog 6 #[.int .i64 x, .int .i64 y, .int .i64 a, .int .i64 b] w fun e w' => e = .returned (.bool true) ∧ Below w.heap.size w w' := by
  obtain ⟨p, hp, hx⟩ := and_6 x
  obtain ⟨q, hq, hy⟩ := and_6 y
  obtain ⟨i, hi, hmi⟩ := mod5 a
  obtain ⟨k, hk, hmk⟩ := mod5 b
  have Ht := Lib.hid ht
  clear ht
  obtain ⟨f1, _, _⟩ := forms_canon (1 + p) i (by omega) (by omega) hi
  obtain ⟨f2, _, _⟩ := forms_canon (1 + q) k (by omega) (by omega) hk
  have hsame := forms_same (1 + p) (1 + q) i k (by omega) (by omega) hi (by omega) (by omega) hk
  obtain ⟨s, hs⟩ : ∃ s : ByteArray, (⟨(formL (1 + p) i).toArray⟩ : ByteArray) = s := ⟨_, rfl⟩
  obtain ⟨t, ht⟩ : ∃ t : ByteArray, (⟨(formL (1 + q) k).toArray⟩ : ByteArray) = t := ⟨_, rfl⟩
  have hss : s.size ≤ 11 := by rw [← hs, size_of]; exact forms_size _ _
  have hts : t.size ≤ 11 := by rw [← ht, size_of]; exact forms_size _ _
  rw [show formL (1 + p) i = s.data.toList from by rw [← hs]] at f1 hsame
  rw [show formL (1 + q) k = t.data.toList from by rw [← ht]] at f2 hsame
  obtain ⟨S, hS⟩ : ∃ S : ByteArray, canonS s.data.toList = S := ⟨_, rfl⟩
  obtain ⟨T, hT⟩ : ∃ T : ByteArray, canonS t.data.toList = T := ⟨_, rfl⟩
  rw [hS, hT] at hsame
  have H1 := Lib.hid (fun W => forms_any (1 + p) i (1 + p) a W (by omega) (by omega) (by omega) hi hmi)
  have H2 := Lib.hid (fun W => forms_any (1 + q) k (1 + q) b W (by omega) (by omega) (by omega) hk hmk)
  rw [hs] at H1
  rw [ht] at H2
  have F1 := Lib.hid (And.intro hS f1)
  have F2 := Lib.hid (And.intro hT f2)
  clear hs ht hS hT f1 f2
  obtain ⟨M, hM⟩ : ∃ M : Nat, max i 2 = M := ⟨_, rfl⟩
  obtain ⟨O, hO⟩ : ∃ O : Nat, max k 2 = O := ⟨_, rfl⟩
  rw [hM, hO] at hsame
  have K1 := Lib.hid (fun W => kind_any i W hi)
  have K2 := Lib.hid (fun W => kind_any k W hk)
  rw [hM] at K1
  rw [hO] at K2
  clear hM hO
  by_cases hpq : p = q
  · by_cases hmm : M = O
    · obtain rfl := hsame.2 ⟨by omega, hmm⟩
      subst hpq
      subst hmm
      clear hsame
      go_enter Tryz.func6, Tryz.ntmps6
      go_wp2_with fail
      refine (awake_any _ Ht.out).mono ?_
      rintro e w1 ⟨rfl, hb1⟩
      go_wp2_with fail
      refine (H1.out _).mono ?_
      rintro e w2 ⟨rfl, hb2⟩
      have hc2 := hb1.trans (hb2.mono hb1.size)
      go_wp2_with fail
      refine (canon_any s _ (by omega) ((Ht.out.on hc2).up hc2.size)).mono ?_
      rintro e w3 ⟨rfl, hb3⟩
      have hc3 := hc2.trans (hb3.mono hc2.size)
      rw [F1.out.1, F1.out.2]
      go_wp2_with fail
      refine (H2.out _).mono ?_
      rintro e w4 ⟨rfl, hb4⟩
      have hc4 := hc3.trans (hb4.mono hc3.size)
      go_wp2_with fail
      refine (canon_any t _ (by omega) ((Ht.out.on hc4).up hc4.size)).mono ?_
      rintro e w5 ⟨rfl, hb5⟩
      have hc5 := hc4.trans (hb5.mono hc4.size)
      rw [F2.out.1, F2.out.2]
      go_wp2_with fail
      refine (num_any _ _).mono ?_
      rintro e w6 ⟨rfl, rfl⟩
      go_wp2_with fail
      refine (num_any _ _).mono ?_
      rintro e w6 ⟨rfl, rfl⟩
      go_wp2_with fail
      refine (K1.out _).mono ?_
      rintro e w6 ⟨rfl, rfl⟩
      go_wp2_with fail
      refine (K2.out _).mono ?_
      rintro e w6 ⟨rfl, rfl⟩
      go_wp2_with fail
      go_ret
      exact ⟨rfl, hc5⟩
    · have hST : ¬ S = T := fun e => hmm (hsame.1 e).2
      have hTL : (S.toList == T.toList) = false := beq_eq_false_iff_ne.2 (fun e => hST (str_eq _ _ (by rw [← Lib.toList_data, ← Lib.toList_data]; exact e)))
      subst hpq
      have hMO : ((M : Int) == (O : Int)) = false := beq_eq_false_iff_ne.2 (by omega)
      clear hsame hmm
      go_enter Tryz.func6, Tryz.ntmps6
      go_wp2_with fail
      refine (awake_any _ Ht.out).mono ?_
      rintro e w1 ⟨rfl, hb1⟩
      go_wp2_with fail
      refine (H1.out _).mono ?_
      rintro e w2 ⟨rfl, hb2⟩
      have hc2 := hb1.trans (hb2.mono hb1.size)
      go_wp2_with fail
      refine (canon_any s _ (by omega) ((Ht.out.on hc2).up hc2.size)).mono ?_
      rintro e w3 ⟨rfl, hb3⟩
      have hc3 := hc2.trans (hb3.mono hc2.size)
      rw [F1.out.1, F1.out.2]
      go_wp2_with fail
      refine (H2.out _).mono ?_
      rintro e w4 ⟨rfl, hb4⟩
      have hc4 := hc3.trans (hb4.mono hc3.size)
      go_wp2_with fail
      refine (canon_any t _ (by omega) ((Ht.out.on hc4).up hc4.size)).mono ?_
      rintro e w5 ⟨rfl, hb5⟩
      have hc5 := hc4.trans (hb5.mono hc4.size)
      rw [F2.out.1, F2.out.2]
      go_wp2_with fail
      refine (num_any _ _).mono ?_
      rintro e w6 ⟨rfl, rfl⟩
      go_wp2_with fail
      refine (num_any _ _).mono ?_
      rintro e w6 ⟨rfl, rfl⟩
      go_wp2_with fail
      refine (K1.out _).mono ?_
      rintro e w6 ⟨rfl, rfl⟩
      go_wp2_with fail
      refine (K2.out _).mono ?_
      rintro e w6 ⟨rfl, rfl⟩
      go_wp2_with fail
      go_ret
      exact ⟨rfl, hc5⟩
  · have hST : ¬ S = T := fun e => hpq (by have := (hsame.1 e).1; omega)
    have hTL : (S.toList == T.toList) = false := beq_eq_false_iff_ne.2 (fun e => hST (str_eq _ _ (by rw [← Lib.toList_data, ← Lib.toList_data]; exact e)))
    have hPQ : (1 + (p : Int) == 1 + (q : Int)) = false := beq_eq_false_iff_ne.2 (by omega)
    clear hsame hpq
    go_enter Tryz.func6, Tryz.ntmps6
    go_wp2_with fail
    refine (awake_any _ Ht.out).mono ?_
    rintro e w1 ⟨rfl, hb1⟩
    go_wp2_with fail
    refine (H1.out _).mono ?_
    rintro e w2 ⟨rfl, hb2⟩
    have hc2 := hb1.trans (hb2.mono hb1.size)
    go_wp2_with fail
    refine (canon_any s _ (by omega) ((Ht.out.on hc2).up hc2.size)).mono ?_
    rintro e w3 ⟨rfl, hb3⟩
    have hc3 := hc2.trans (hb3.mono hc2.size)
    rw [F1.out.1, F1.out.2]
    go_wp2_with fail
    refine (H2.out _).mono ?_
    rintro e w4 ⟨rfl, hb4⟩
    have hc4 := hc3.trans (hb4.mono hc3.size)
    go_wp2_with fail
    refine (canon_any t _ (by omega) ((Ht.out.on hc4).up hc4.size)).mono ?_
    rintro e w5 ⟨rfl, hb5⟩
    have hc5 := hc4.trans (hb5.mono hc4.size)
    rw [F2.out.1, F2.out.2]
    go_wp2_with fail
    refine (num_any _ _).mono ?_
    rintro e w6 ⟨rfl, rfl⟩
    go_wp2_with fail
    refine (num_any _ _).mono ?_
    rintro e w6 ⟨rfl, rfl⟩
    go_wp2_with fail
    go_ret
    exact ⟨rfl, hc5⟩

end Num
end Go.Proofs.YtinjaopgnlpncaaGreatDoor
