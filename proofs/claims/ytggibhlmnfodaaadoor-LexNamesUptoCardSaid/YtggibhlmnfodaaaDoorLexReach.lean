/-
  As far as a numeric literal could reach.
-/
import Derived.Test.YtggibhlmnfodaaaDoorLexDigs
import Derived.Test.YtggibhlmnfodaaaDoorLexLit
namespace Go.Proofs.YtggibhlmnfodaaaDoor
namespace Lex
open Go.RowKit
open Str (lenL runeL)

theorem low8 (x : UInt8) : bits .or .u8 (x.toNat : Int) 32 = ((x ||| 32).toNat : Int) := by
  have h : ∀ n : Fin 256, bits .or .u8 ((n.val : Nat) : Int) 32 = (((UInt8.ofNat n.val) ||| 32).toNat : Int) := by decide +kernel
  have := h ⟨x.toNat, x.toNat_lt⟩
  rwa [UInt8.ofNat_toNat] at this
theorem pre1_at (c : UInt8) {l : List UInt8} (h : pre [c] l = true) : l.tail = l.drop 1 ∧ 1 ≤ l.length := by
  rw [pre_ne h]; exact ⟨rfl, by simp⟩
theorem getD_at (N : ByteArray) (t : List UInt8) (h : N.data.toList = t) (i : Nat) (hi : i < N.size) : t.getD i 0 = N[i]'hi := by
  subst h
  rw [Str.getD_lt _ _ (by simpa using hi)]; rfl
theorem eqb (x : UInt8) (n : Nat) (hn : n < 256) : ((x.toNat : Int) == (n : Int)) = (x == UInt8.ofNat n) := by
  rw [Bool.eq_iff_iff, beq_iff_eq, beq_iff_eq]
  constructor
  · intro h; apply UInt8.toNat_inj.1; rw [UInt8.toNat_ofNat_of_lt' hn]; omega
  · intro h; rw [h, UInt8.toNat_ofNat_of_lt' hn]

/-- Behind the pieces: what the last tests say. -/
theorem reach_stop {t m : List UInt8} {b : Bool} {y : UInt8} (hb : hexQ t = b) (hy : (t.getD (t.length - 1) 0 ||| 32) = y) (h : b = true ∨ y ≠ 101) : reachQ t m = m := by
  rw [reachQ, hb, hy, if_pos h]
theorem reach_on {t m : List UInt8} {b : Bool} {y : UInt8} (hb : hexQ t = b) (hy : (t.getD (t.length - 1) 0 ||| 32) = y) (h : ¬ (b = true ∨ y ≠ 101)) : reachQ t m = if pre [43] m = true ∨ pre [45] m = true then (digsP m.tail).2 else m := by
  rw [reachQ, hb, hy, if_neg h]

set_option maxHeartbeats 8000000 in
set_option maxRecDepth 20000 in
theorem reach_any (K : Box) (l : List UInt8) (hne : 1 ≤ (upTo l (reachW l)).length) (w : World) (h : Rd K l w) :
    Calls Tryd.prog 43 #[K.ptr] w fun e w' => e = .returned (.tuple #[]) ∧ Rd K (reachP l) w' ∧ Bar K.b w w' := by
  obtain ⟨m2, hm2⟩ : ∃ m, reachW l = m := ⟨_, rfl⟩
  have hsf := reachW_suf l
  have hRP : reachP l = reachQ (upTo l m2) m2 := by rw [reachP, hm2]
  rw [hm2] at hne hsf
  rw [hRP]
  obtain ⟨N, hN⟩ : ∃ N, K.s.extract (K.at l) (K.at m2) = N := ⟨_, rfl⟩
  have hNt := extract_up K h.suf hsf.length_le
  rw [hN] at hNt
  have hNs : N.size = (upTo l m2).length := by rw [← hNt]; simp
  obtain ⟨t, ht⟩ : ∃ t, upTo l m2 = t := ⟨_, rfl⟩
  rw [ht] at hne hNt hNs ⊢
  have hn1 : 1 ≤ N.size := by omega
  obtain ⟨b, hb⟩ : ∃ b, hexQ t = b := ⟨_, rfl⟩
  have hlast : N.size - 1 < N.size := by omega
  have hl8 := low8 (N[N.size - 1]'hlast)
  have hl0 : (t.getD (t.length - 1) 0 ||| 32) = (N[N.size - 1]'hlast ||| 32) := by rw [← hNs, getD_at N t hNt _ hlast]
  obtain ⟨y, hy⟩ : ∃ y, (N[N.size - 1]'hlast ||| 32) = y := ⟨_, rfl⟩
  rw [hy] at hl8 hl0
  have hle : K.at l ≤ K.at m2 := by have := hsf.length_le; have := h.len; unfold Box.at; omega
  have hlm := at_le K m2
  have hs := h.small
  have hNle : N.size ≤ 4194304 := by rw [hNs, ← ht]; have := h.len; unfold upTo; rw [List.length_take]; omega
  obtain ⟨v1, hv1⟩ : ∃ v, (digsP l).1 = v := ⟨_, rfl⟩
  obtain ⟨m1, hm1⟩ : ∃ m, (digsP l).2 = m := ⟨_, rfl⟩
  obtain ⟨p, hp⟩ : ∃ p, pre [46] m1 = p := ⟨_, rfl⟩
  have hW : m2 = if v1 = true ∧ p = true then (digsP m1.tail).2 else m1 := by rw [← hm2, reachW, hv1, hm1, hp]
  have Hb := Lib.hid hb
  have HL := Lib.hid hl0
  have HW := Lib.hid hW
  have Hv1 := Lib.hid hv1
  have Hm1 := Lib.hid hm1
  have Hp := Lib.hid hp
  have HN := Lib.hid hN
  have Hex : Hid (b = (decide (1 < N.size) && ((t.getD 1 0 ||| 32) == 120))) := Lib.hid (by rw [← hb, hexQ, hNs])
  have HNt := Lib.hid hNt
  have g0 := h.cell0
  have H := Lib.hid h
  clear h hm2 hsf hRP hb hl0 hW hv1 hm1 hp hN hNt hNs hne ht hy
  go_enter Tryd.func43, Tryd.ntmps43
  go_wp2_with fail
  refine (digits_any K l _ H.out).mono ?_
  rintro e w1 ⟨rfl, h1, hb1⟩
  rw [Hm1.out] at h1
  rw [Hv1.out]
  have H1 := Lib.hid (And.intro h1 hb1)
  clear h1 hb1 g0
  cases v1 with
  | false =>
    have HE : Hid (m2 = m1) := Lib.hid (by rw [HW.out, if_neg (fun x => by cases x.1)])
    have HW3 : Hid (Rd K m2 w1 ∧ Bar K.b w w1) := Lib.hid (by rw [HE.out]; exact H1.out)
    have g0 := HW3.out.1.cell0
    have g1 := HW3.out.1.cell1
    go_wp2_with fail
    go_quiet (fail)
    generalize hw : World.drewN _ _ = w4
    have HX := Lib.hid (And.intro (show Rd K m2 w4 from hw ▸ HW3.out.1.drewN _) (show Bar K.b w w4 from hw ▸ HW3.out.2.drewN _))
    clear hw g0 g1
    rw [HN.out]
    have g0 := HX.out.1.cell0
    have f0 := HX.out.1.frozen 0
    by_cases c1 : 1 < N.size
    · have h18 := low8 (N[1]'c1)
      obtain ⟨z, hz⟩ : ∃ z, (N[1]'c1 ||| 32) = z := ⟨_, rfl⟩
      rw [hz] at h18
      have Hz : Hid (b = (z == 120)) := Lib.hid (by rw [Hex.out, getD_at N t HNt.out 1 c1, hz, decide_eq_true c1]; rfl)
      clear hz
      cases hzz : (z == 120) with
      | true =>
        have Hbv : Hid (b = true) := Lib.hid (by rw [Hz.out, hzz])
        have c4 : ((z.toNat : Int) == 120) = true := by rw [← hzz]; exact eqb z 120 (by decide)
        clear hzz
        have Hf : Hid (reachQ t m2 = m2) := Lib.hid (reach_stop Hb.out HL.out (Or.inl Hbv.out))
        go_wp2_with fail
        first | go_end0 | ((try simp only [Exit.inBlock, Exit.then]); refine bodyPost_ret (results_none rfl _ _ _) rfl ?_)
        rw [Hf.out]
        exact ⟨by first | rfl | trivial, HX.out⟩
      | false =>
        have Hbv : Hid (b = false) := Lib.hid (by rw [Hz.out, hzz])
        have c4 : ((z.toNat : Int) == 120) = false := by rw [← hzz]; exact eqb z 120 (by decide)
        clear hzz
        by_cases c2 : (y == 101) = true
        · have c3 : ((y.toNat : Int) != 101) = false := by rw [bne, show ((y.toNat : Int) == 101) = (y == 101) from eqb y 101 (by decide), c2]; rfl
          have Hr : Hid (reachQ t m2 = if pre [43] m2 = true ∨ pre [45] m2 = true then (digsP m2.tail).2 else m2) := Lib.hid (reach_on Hb.out HL.out (by rw [Hbv.out]; exact fun h => h.elim (fun h => by cases h) (fun h => h (beq_iff_eq.1 c2))))
          clear c2
          obtain ⟨q1, hq1⟩ : ∃ v, pre [43] m2 = v := ⟨_, rfl⟩
          obtain ⟨q2, hq2⟩ : ∃ v, pre [45] m2 = v := ⟨_, rfl⟩
          have Hq1 := Lib.hid hq1
          have Hq2 := Lib.hid hq2
          clear hq1 hq2
          go_wp2_with fail
          refine (follows_any K m2 ⟨#[43]⟩ q1 Hq1.out _ HX.out.1).mono ?_
          rintro e w5 ⟨rfl, h5, hb5⟩
          have HY := Lib.hid (And.intro h5 (HX.out.2.on hb5))
          clear h5 hb5 g0 f0
          cases q1 with
          | true =>
            have Hf : Hid (reachQ t m2 = (digsP m2.tail).2) := Lib.hid (by rw [Hr.out, if_pos (Or.inl Hq1.out)])
            have Hat : Hid (((K.at m2 : Nat) : Int) + 1 = (K.at m2.tail : Nat)) := Lib.hid (by rw [(pre1_at _ Hq1.out).1]; exact at_drop K m2 1 HY.out.1.len (pre1_at _ Hq1.out).2)
            have hat : ((K.at m2 : Nat) : Int) + 1 ≤ K.s.size := by rw [Hat.out]; have := at_le K m2.tail; omega
            have g0 := HY.out.1.cell0
            have f0 := HY.out.1.frozen 0
            go_wp2_with fail
            refine (digits_any K m2.tail _ (HY.out.1.to (tail_sufx _) Hat.out)).mono ?_
            rintro e w7 ⟨rfl, h7, hb7⟩
            have HZ := Lib.hid (And.intro h7 ((HY.out.2.set 0 none (.int .i64 (((K.at m2 : Nat) : Int) + 1))).trans hb7))
            clear h7 hb7
            go_wp2_with fail
            first | go_end0 | ((try simp only [Exit.inBlock, Exit.then]); refine bodyPost_ret (results_none rfl _ _ _) rfl ?_)
            rw [Hf.out]
            exact ⟨by first | rfl | trivial, HZ.out⟩
          | false =>
            go_wp2_with fail
            refine (follows_any K m2 ⟨#[45]⟩ q2 Hq2.out _ HY.out.1).mono ?_
            rintro e w6 ⟨rfl, h6, hb6⟩
            have HU := Lib.hid (And.intro h6 (HY.out.2.on hb6))
            clear h6 hb6
            cases q2 with
            | true =>
              have Hf : Hid (reachQ t m2 = (digsP m2.tail).2) := Lib.hid (by rw [Hr.out, if_pos (Or.inr Hq2.out)])
              have Hat : Hid (((K.at m2 : Nat) : Int) + 1 = (K.at m2.tail : Nat)) := Lib.hid (by rw [(pre1_at _ Hq2.out).1]; exact at_drop K m2 1 HU.out.1.len (pre1_at _ Hq2.out).2)
              have hat : ((K.at m2 : Nat) : Int) + 1 ≤ K.s.size := by rw [Hat.out]; have := at_le K m2.tail; omega
              have g0 := HU.out.1.cell0
              have f0 := HU.out.1.frozen 0
              go_wp2_with fail
              refine (digits_any K m2.tail _ (HU.out.1.to (tail_sufx _) Hat.out)).mono ?_
              rintro e w7 ⟨rfl, h7, hb7⟩
              have HZ := Lib.hid (And.intro h7 ((HU.out.2.set 0 none (.int .i64 (((K.at m2 : Nat) : Int) + 1))).trans hb7))
              clear h7 hb7
              go_wp2_with fail
              first | go_end0 | ((try simp only [Exit.inBlock, Exit.then]); refine bodyPost_ret (results_none rfl _ _ _) rfl ?_)
              rw [Hf.out]
              exact ⟨by first | rfl | trivial, HZ.out⟩
            | false =>
              have Hf : Hid (reachQ t m2 = m2) := Lib.hid (by rw [Hr.out, if_neg (by rw [Hq1.out, Hq2.out]; decide)])
              go_wp2_with fail
              first | go_end0 | ((try simp only [Exit.inBlock, Exit.then]); refine bodyPost_ret (results_none rfl _ _ _) rfl ?_)
              rw [Hf.out]
              exact ⟨by first | rfl | trivial, HU.out⟩
        · have c3 : ((y.toNat : Int) != 101) = true := by rw [Bool.not_eq_true] at c2; rw [bne, show ((y.toNat : Int) == 101) = (y == 101) from eqb y 101 (by decide), c2]; rfl
          have Hf : Hid (reachQ t m2 = m2) := Lib.hid (reach_stop Hb.out HL.out (Or.inr (fun h => c2 (beq_iff_eq.2 h))))
          clear c2
          go_wp2_with fail
          first | go_end0 | ((try simp only [Exit.inBlock, Exit.then]); refine bodyPost_ret (results_none rfl _ _ _) rfl ?_)
          rw [Hf.out]
          exact ⟨by first | rfl | trivial, HX.out⟩
    · have Hbv : Hid (b = false) := Lib.hid (by rw [Hex.out, decide_eq_false c1]; rfl)
      by_cases c2 : (y == 101) = true
      · have c3 : ((y.toNat : Int) != 101) = false := by rw [bne, show ((y.toNat : Int) == 101) = (y == 101) from eqb y 101 (by decide), c2]; rfl
        have Hr : Hid (reachQ t m2 = if pre [43] m2 = true ∨ pre [45] m2 = true then (digsP m2.tail).2 else m2) := Lib.hid (reach_on Hb.out HL.out (by rw [Hbv.out]; exact fun h => h.elim (fun h => by cases h) (fun h => h (beq_iff_eq.1 c2))))
        clear c2
        obtain ⟨q1, hq1⟩ : ∃ v, pre [43] m2 = v := ⟨_, rfl⟩
        obtain ⟨q2, hq2⟩ : ∃ v, pre [45] m2 = v := ⟨_, rfl⟩
        have Hq1 := Lib.hid hq1
        have Hq2 := Lib.hid hq2
        clear hq1 hq2
        go_wp2_with fail
        refine (follows_any K m2 ⟨#[43]⟩ q1 Hq1.out _ HX.out.1).mono ?_
        rintro e w5 ⟨rfl, h5, hb5⟩
        have HY := Lib.hid (And.intro h5 (HX.out.2.on hb5))
        clear h5 hb5 g0 f0
        cases q1 with
        | true =>
          have Hf : Hid (reachQ t m2 = (digsP m2.tail).2) := Lib.hid (by rw [Hr.out, if_pos (Or.inl Hq1.out)])
          have Hat : Hid (((K.at m2 : Nat) : Int) + 1 = (K.at m2.tail : Nat)) := Lib.hid (by rw [(pre1_at _ Hq1.out).1]; exact at_drop K m2 1 HY.out.1.len (pre1_at _ Hq1.out).2)
          have hat : ((K.at m2 : Nat) : Int) + 1 ≤ K.s.size := by rw [Hat.out]; have := at_le K m2.tail; omega
          have g0 := HY.out.1.cell0
          have f0 := HY.out.1.frozen 0
          go_wp2_with fail
          refine (digits_any K m2.tail _ (HY.out.1.to (tail_sufx _) Hat.out)).mono ?_
          rintro e w7 ⟨rfl, h7, hb7⟩
          have HZ := Lib.hid (And.intro h7 ((HY.out.2.set 0 none (.int .i64 (((K.at m2 : Nat) : Int) + 1))).trans hb7))
          clear h7 hb7
          go_wp2_with fail
          first | go_end0 | ((try simp only [Exit.inBlock, Exit.then]); refine bodyPost_ret (results_none rfl _ _ _) rfl ?_)
          rw [Hf.out]
          exact ⟨by first | rfl | trivial, HZ.out⟩
        | false =>
          go_wp2_with fail
          refine (follows_any K m2 ⟨#[45]⟩ q2 Hq2.out _ HY.out.1).mono ?_
          rintro e w6 ⟨rfl, h6, hb6⟩
          have HU := Lib.hid (And.intro h6 (HY.out.2.on hb6))
          clear h6 hb6
          cases q2 with
          | true =>
            have Hf : Hid (reachQ t m2 = (digsP m2.tail).2) := Lib.hid (by rw [Hr.out, if_pos (Or.inr Hq2.out)])
            have Hat : Hid (((K.at m2 : Nat) : Int) + 1 = (K.at m2.tail : Nat)) := Lib.hid (by rw [(pre1_at _ Hq2.out).1]; exact at_drop K m2 1 HU.out.1.len (pre1_at _ Hq2.out).2)
            have hat : ((K.at m2 : Nat) : Int) + 1 ≤ K.s.size := by rw [Hat.out]; have := at_le K m2.tail; omega
            have g0 := HU.out.1.cell0
            have f0 := HU.out.1.frozen 0
            go_wp2_with fail
            refine (digits_any K m2.tail _ (HU.out.1.to (tail_sufx _) Hat.out)).mono ?_
            rintro e w7 ⟨rfl, h7, hb7⟩
            have HZ := Lib.hid (And.intro h7 ((HU.out.2.set 0 none (.int .i64 (((K.at m2 : Nat) : Int) + 1))).trans hb7))
            clear h7 hb7
            go_wp2_with fail
            first | go_end0 | ((try simp only [Exit.inBlock, Exit.then]); refine bodyPost_ret (results_none rfl _ _ _) rfl ?_)
            rw [Hf.out]
            exact ⟨by first | rfl | trivial, HZ.out⟩
          | false =>
            have Hf : Hid (reachQ t m2 = m2) := Lib.hid (by rw [Hr.out, if_neg (by rw [Hq1.out, Hq2.out]; decide)])
            go_wp2_with fail
            first | go_end0 | ((try simp only [Exit.inBlock, Exit.then]); refine bodyPost_ret (results_none rfl _ _ _) rfl ?_)
            rw [Hf.out]
            exact ⟨by first | rfl | trivial, HU.out⟩
      · have c3 : ((y.toNat : Int) != 101) = true := by rw [Bool.not_eq_true] at c2; rw [bne, show ((y.toNat : Int) == 101) = (y == 101) from eqb y 101 (by decide), c2]; rfl
        have Hf : Hid (reachQ t m2 = m2) := Lib.hid (reach_stop Hb.out HL.out (Or.inr (fun h => c2 (beq_iff_eq.2 h))))
        clear c2
        go_wp2_with fail
        first | go_end0 | ((try simp only [Exit.inBlock, Exit.then]); refine bodyPost_ret (results_none rfl _ _ _) rfl ?_)
        rw [Hf.out]
        exact ⟨by first | rfl | trivial, HX.out⟩
  | true =>
    go_wp2_with fail
    refine (follows_any K m1 ⟨#[46]⟩ p Hp.out _ H1.out.1).mono ?_
    rintro e w2 ⟨rfl, h2, hb2⟩
    have H2 := Lib.hid (And.intro h2 (H1.out.2.on hb2))
    clear h2 hb2
    cases p with
    | false =>
      have HE : Hid (m2 = m1) := Lib.hid (by rw [HW.out, if_neg (fun x => by cases x.2)])
      have HW3 : Hid (Rd K m2 w2 ∧ Bar K.b w w2) := Lib.hid (by rw [HE.out]; exact H2.out)
      have g0 := HW3.out.1.cell0
      have g1 := HW3.out.1.cell1
      go_wp2_with fail
      go_quiet (fail)
      generalize hw : World.drewN _ _ = w4
      have HX := Lib.hid (And.intro (show Rd K m2 w4 from hw ▸ HW3.out.1.drewN _) (show Bar K.b w w4 from hw ▸ HW3.out.2.drewN _))
      clear hw g0 g1
      rw [HN.out]
      have g0 := HX.out.1.cell0
      have f0 := HX.out.1.frozen 0
      by_cases c1 : 1 < N.size
      · have h18 := low8 (N[1]'c1)
        obtain ⟨z, hz⟩ : ∃ z, (N[1]'c1 ||| 32) = z := ⟨_, rfl⟩
        rw [hz] at h18
        have Hz : Hid (b = (z == 120)) := Lib.hid (by rw [Hex.out, getD_at N t HNt.out 1 c1, hz, decide_eq_true c1]; rfl)
        clear hz
        cases hzz : (z == 120) with
        | true =>
          have Hbv : Hid (b = true) := Lib.hid (by rw [Hz.out, hzz])
          have c4 : ((z.toNat : Int) == 120) = true := by rw [← hzz]; exact eqb z 120 (by decide)
          clear hzz
          have Hf : Hid (reachQ t m2 = m2) := Lib.hid (reach_stop Hb.out HL.out (Or.inl Hbv.out))
          go_wp2_with fail
          first | go_end0 | ((try simp only [Exit.inBlock, Exit.then]); refine bodyPost_ret (results_none rfl _ _ _) rfl ?_)
          rw [Hf.out]
          exact ⟨by first | rfl | trivial, HX.out⟩
        | false =>
          have Hbv : Hid (b = false) := Lib.hid (by rw [Hz.out, hzz])
          have c4 : ((z.toNat : Int) == 120) = false := by rw [← hzz]; exact eqb z 120 (by decide)
          clear hzz
          by_cases c2 : (y == 101) = true
          · have c3 : ((y.toNat : Int) != 101) = false := by rw [bne, show ((y.toNat : Int) == 101) = (y == 101) from eqb y 101 (by decide), c2]; rfl
            have Hr : Hid (reachQ t m2 = if pre [43] m2 = true ∨ pre [45] m2 = true then (digsP m2.tail).2 else m2) := Lib.hid (reach_on Hb.out HL.out (by rw [Hbv.out]; exact fun h => h.elim (fun h => by cases h) (fun h => h (beq_iff_eq.1 c2))))
            clear c2
            obtain ⟨q1, hq1⟩ : ∃ v, pre [43] m2 = v := ⟨_, rfl⟩
            obtain ⟨q2, hq2⟩ : ∃ v, pre [45] m2 = v := ⟨_, rfl⟩
            have Hq1 := Lib.hid hq1
            have Hq2 := Lib.hid hq2
            clear hq1 hq2
            go_wp2_with fail
            refine (follows_any K m2 ⟨#[43]⟩ q1 Hq1.out _ HX.out.1).mono ?_
            rintro e w5 ⟨rfl, h5, hb5⟩
            have HY := Lib.hid (And.intro h5 (HX.out.2.on hb5))
            clear h5 hb5 g0 f0
            cases q1 with
            | true =>
              have Hf : Hid (reachQ t m2 = (digsP m2.tail).2) := Lib.hid (by rw [Hr.out, if_pos (Or.inl Hq1.out)])
              have Hat : Hid (((K.at m2 : Nat) : Int) + 1 = (K.at m2.tail : Nat)) := Lib.hid (by rw [(pre1_at _ Hq1.out).1]; exact at_drop K m2 1 HY.out.1.len (pre1_at _ Hq1.out).2)
              have hat : ((K.at m2 : Nat) : Int) + 1 ≤ K.s.size := by rw [Hat.out]; have := at_le K m2.tail; omega
              have g0 := HY.out.1.cell0
              have f0 := HY.out.1.frozen 0
              go_wp2_with fail
              refine (digits_any K m2.tail _ (HY.out.1.to (tail_sufx _) Hat.out)).mono ?_
              rintro e w7 ⟨rfl, h7, hb7⟩
              have HZ := Lib.hid (And.intro h7 ((HY.out.2.set 0 none (.int .i64 (((K.at m2 : Nat) : Int) + 1))).trans hb7))
              clear h7 hb7
              go_wp2_with fail
              first | go_end0 | ((try simp only [Exit.inBlock, Exit.then]); refine bodyPost_ret (results_none rfl _ _ _) rfl ?_)
              rw [Hf.out]
              exact ⟨by first | rfl | trivial, HZ.out⟩
            | false =>
              go_wp2_with fail
              refine (follows_any K m2 ⟨#[45]⟩ q2 Hq2.out _ HY.out.1).mono ?_
              rintro e w6 ⟨rfl, h6, hb6⟩
              have HU := Lib.hid (And.intro h6 (HY.out.2.on hb6))
              clear h6 hb6
              cases q2 with
              | true =>
                have Hf : Hid (reachQ t m2 = (digsP m2.tail).2) := Lib.hid (by rw [Hr.out, if_pos (Or.inr Hq2.out)])
                have Hat : Hid (((K.at m2 : Nat) : Int) + 1 = (K.at m2.tail : Nat)) := Lib.hid (by rw [(pre1_at _ Hq2.out).1]; exact at_drop K m2 1 HU.out.1.len (pre1_at _ Hq2.out).2)
                have hat : ((K.at m2 : Nat) : Int) + 1 ≤ K.s.size := by rw [Hat.out]; have := at_le K m2.tail; omega
                have g0 := HU.out.1.cell0
                have f0 := HU.out.1.frozen 0
                go_wp2_with fail
                refine (digits_any K m2.tail _ (HU.out.1.to (tail_sufx _) Hat.out)).mono ?_
                rintro e w7 ⟨rfl, h7, hb7⟩
                have HZ := Lib.hid (And.intro h7 ((HU.out.2.set 0 none (.int .i64 (((K.at m2 : Nat) : Int) + 1))).trans hb7))
                clear h7 hb7
                go_wp2_with fail
                first | go_end0 | ((try simp only [Exit.inBlock, Exit.then]); refine bodyPost_ret (results_none rfl _ _ _) rfl ?_)
                rw [Hf.out]
                exact ⟨by first | rfl | trivial, HZ.out⟩
              | false =>
                have Hf : Hid (reachQ t m2 = m2) := Lib.hid (by rw [Hr.out, if_neg (by rw [Hq1.out, Hq2.out]; decide)])
                go_wp2_with fail
                first | go_end0 | ((try simp only [Exit.inBlock, Exit.then]); refine bodyPost_ret (results_none rfl _ _ _) rfl ?_)
                rw [Hf.out]
                exact ⟨by first | rfl | trivial, HU.out⟩
          · have c3 : ((y.toNat : Int) != 101) = true := by rw [Bool.not_eq_true] at c2; rw [bne, show ((y.toNat : Int) == 101) = (y == 101) from eqb y 101 (by decide), c2]; rfl
            have Hf : Hid (reachQ t m2 = m2) := Lib.hid (reach_stop Hb.out HL.out (Or.inr (fun h => c2 (beq_iff_eq.2 h))))
            clear c2
            go_wp2_with fail
            first | go_end0 | ((try simp only [Exit.inBlock, Exit.then]); refine bodyPost_ret (results_none rfl _ _ _) rfl ?_)
            rw [Hf.out]
            exact ⟨by first | rfl | trivial, HX.out⟩
      · have Hbv : Hid (b = false) := Lib.hid (by rw [Hex.out, decide_eq_false c1]; rfl)
        by_cases c2 : (y == 101) = true
        · have c3 : ((y.toNat : Int) != 101) = false := by rw [bne, show ((y.toNat : Int) == 101) = (y == 101) from eqb y 101 (by decide), c2]; rfl
          have Hr : Hid (reachQ t m2 = if pre [43] m2 = true ∨ pre [45] m2 = true then (digsP m2.tail).2 else m2) := Lib.hid (reach_on Hb.out HL.out (by rw [Hbv.out]; exact fun h => h.elim (fun h => by cases h) (fun h => h (beq_iff_eq.1 c2))))
          clear c2
          obtain ⟨q1, hq1⟩ : ∃ v, pre [43] m2 = v := ⟨_, rfl⟩
          obtain ⟨q2, hq2⟩ : ∃ v, pre [45] m2 = v := ⟨_, rfl⟩
          have Hq1 := Lib.hid hq1
          have Hq2 := Lib.hid hq2
          clear hq1 hq2
          go_wp2_with fail
          refine (follows_any K m2 ⟨#[43]⟩ q1 Hq1.out _ HX.out.1).mono ?_
          rintro e w5 ⟨rfl, h5, hb5⟩
          have HY := Lib.hid (And.intro h5 (HX.out.2.on hb5))
          clear h5 hb5 g0 f0
          cases q1 with
          | true =>
            have Hf : Hid (reachQ t m2 = (digsP m2.tail).2) := Lib.hid (by rw [Hr.out, if_pos (Or.inl Hq1.out)])
            have Hat : Hid (((K.at m2 : Nat) : Int) + 1 = (K.at m2.tail : Nat)) := Lib.hid (by rw [(pre1_at _ Hq1.out).1]; exact at_drop K m2 1 HY.out.1.len (pre1_at _ Hq1.out).2)
            have hat : ((K.at m2 : Nat) : Int) + 1 ≤ K.s.size := by rw [Hat.out]; have := at_le K m2.tail; omega
            have g0 := HY.out.1.cell0
            have f0 := HY.out.1.frozen 0
            go_wp2_with fail
            refine (digits_any K m2.tail _ (HY.out.1.to (tail_sufx _) Hat.out)).mono ?_
            rintro e w7 ⟨rfl, h7, hb7⟩
            have HZ := Lib.hid (And.intro h7 ((HY.out.2.set 0 none (.int .i64 (((K.at m2 : Nat) : Int) + 1))).trans hb7))
            clear h7 hb7
            go_wp2_with fail
            first | go_end0 | ((try simp only [Exit.inBlock, Exit.then]); refine bodyPost_ret (results_none rfl _ _ _) rfl ?_)
            rw [Hf.out]
            exact ⟨by first | rfl | trivial, HZ.out⟩
          | false =>
            go_wp2_with fail
            refine (follows_any K m2 ⟨#[45]⟩ q2 Hq2.out _ HY.out.1).mono ?_
            rintro e w6 ⟨rfl, h6, hb6⟩
            have HU := Lib.hid (And.intro h6 (HY.out.2.on hb6))
            clear h6 hb6
            cases q2 with
            | true =>
              have Hf : Hid (reachQ t m2 = (digsP m2.tail).2) := Lib.hid (by rw [Hr.out, if_pos (Or.inr Hq2.out)])
              have Hat : Hid (((K.at m2 : Nat) : Int) + 1 = (K.at m2.tail : Nat)) := Lib.hid (by rw [(pre1_at _ Hq2.out).1]; exact at_drop K m2 1 HU.out.1.len (pre1_at _ Hq2.out).2)
              have hat : ((K.at m2 : Nat) : Int) + 1 ≤ K.s.size := by rw [Hat.out]; have := at_le K m2.tail; omega
              have g0 := HU.out.1.cell0
              have f0 := HU.out.1.frozen 0
              go_wp2_with fail
              refine (digits_any K m2.tail _ (HU.out.1.to (tail_sufx _) Hat.out)).mono ?_
              rintro e w7 ⟨rfl, h7, hb7⟩
              have HZ := Lib.hid (And.intro h7 ((HU.out.2.set 0 none (.int .i64 (((K.at m2 : Nat) : Int) + 1))).trans hb7))
              clear h7 hb7
              go_wp2_with fail
              first | go_end0 | ((try simp only [Exit.inBlock, Exit.then]); refine bodyPost_ret (results_none rfl _ _ _) rfl ?_)
              rw [Hf.out]
              exact ⟨by first | rfl | trivial, HZ.out⟩
            | false =>
              have Hf : Hid (reachQ t m2 = m2) := Lib.hid (by rw [Hr.out, if_neg (by rw [Hq1.out, Hq2.out]; decide)])
              go_wp2_with fail
              first | go_end0 | ((try simp only [Exit.inBlock, Exit.then]); refine bodyPost_ret (results_none rfl _ _ _) rfl ?_)
              rw [Hf.out]
              exact ⟨by first | rfl | trivial, HU.out⟩
        · have c3 : ((y.toNat : Int) != 101) = true := by rw [Bool.not_eq_true] at c2; rw [bne, show ((y.toNat : Int) == 101) = (y == 101) from eqb y 101 (by decide), c2]; rfl
          have Hf : Hid (reachQ t m2 = m2) := Lib.hid (reach_stop Hb.out HL.out (Or.inr (fun h => c2 (beq_iff_eq.2 h))))
          clear c2
          go_wp2_with fail
          first | go_end0 | ((try simp only [Exit.inBlock, Exit.then]); refine bodyPost_ret (results_none rfl _ _ _) rfl ?_)
          rw [Hf.out]
          exact ⟨by first | rfl | trivial, HX.out⟩
    | true =>
      have HE : Hid (m2 = (digsP m1.tail).2) := Lib.hid (by rw [HW.out, if_pos (by simp)])
      have Hat : Hid (((K.at m1 : Nat) : Int) + 1 = (K.at m1.tail : Nat)) := Lib.hid (by rw [(pre1_at _ Hp.out).1]; exact at_drop K m1 1 H2.out.1.len (pre1_at _ Hp.out).2)
      have hat : ((K.at m1 : Nat) : Int) + 1 ≤ K.s.size := by rw [Hat.out]; have := at_le K m1.tail; omega
      have g0 := H2.out.1.cell0
      have f0 := H2.out.1.frozen 0
      go_wp2_with fail
      refine (digits_any K m1.tail _ (H2.out.1.to (tail_sufx _) Hat.out)).mono ?_
      rintro e w3 ⟨rfl, h3, hb3⟩
      have HW3 : Hid (Rd K m2 w3 ∧ Bar K.b w w3) := Lib.hid (by rw [HE.out]; exact And.intro h3 ((H2.out.2.set 0 none (.int .i64 (((K.at m1 : Nat) : Int) + 1))).trans hb3))
      clear h3 hb3 g0 f0 hat
      have g0 := HW3.out.1.cell0
      have g1 := HW3.out.1.cell1
      go_wp2_with fail
      go_quiet (fail)
      generalize hw : World.drewN _ _ = w4
      have HX := Lib.hid (And.intro (show Rd K m2 w4 from hw ▸ HW3.out.1.drewN _) (show Bar K.b w w4 from hw ▸ HW3.out.2.drewN _))
      clear hw g0 g1
      rw [HN.out]
      have g0 := HX.out.1.cell0
      have f0 := HX.out.1.frozen 0
      by_cases c1 : 1 < N.size
      · have h18 := low8 (N[1]'c1)
        obtain ⟨z, hz⟩ : ∃ z, (N[1]'c1 ||| 32) = z := ⟨_, rfl⟩
        rw [hz] at h18
        have Hz : Hid (b = (z == 120)) := Lib.hid (by rw [Hex.out, getD_at N t HNt.out 1 c1, hz, decide_eq_true c1]; rfl)
        clear hz
        cases hzz : (z == 120) with
        | true =>
          have Hbv : Hid (b = true) := Lib.hid (by rw [Hz.out, hzz])
          have c4 : ((z.toNat : Int) == 120) = true := by rw [← hzz]; exact eqb z 120 (by decide)
          clear hzz
          have Hf : Hid (reachQ t m2 = m2) := Lib.hid (reach_stop Hb.out HL.out (Or.inl Hbv.out))
          go_wp2_with fail
          first | go_end0 | ((try simp only [Exit.inBlock, Exit.then]); refine bodyPost_ret (results_none rfl _ _ _) rfl ?_)
          rw [Hf.out]
          exact ⟨by first | rfl | trivial, HX.out⟩
        | false =>
          have Hbv : Hid (b = false) := Lib.hid (by rw [Hz.out, hzz])
          have c4 : ((z.toNat : Int) == 120) = false := by rw [← hzz]; exact eqb z 120 (by decide)
          clear hzz
          by_cases c2 : (y == 101) = true
          · have c3 : ((y.toNat : Int) != 101) = false := by rw [bne, show ((y.toNat : Int) == 101) = (y == 101) from eqb y 101 (by decide), c2]; rfl
            have Hr : Hid (reachQ t m2 = if pre [43] m2 = true ∨ pre [45] m2 = true then (digsP m2.tail).2 else m2) := Lib.hid (reach_on Hb.out HL.out (by rw [Hbv.out]; exact fun h => h.elim (fun h => by cases h) (fun h => h (beq_iff_eq.1 c2))))
            clear c2
            obtain ⟨q1, hq1⟩ : ∃ v, pre [43] m2 = v := ⟨_, rfl⟩
            obtain ⟨q2, hq2⟩ : ∃ v, pre [45] m2 = v := ⟨_, rfl⟩
            have Hq1 := Lib.hid hq1
            have Hq2 := Lib.hid hq2
            clear hq1 hq2
            go_wp2_with fail
            refine (follows_any K m2 ⟨#[43]⟩ q1 Hq1.out _ HX.out.1).mono ?_
            rintro e w5 ⟨rfl, h5, hb5⟩
            have HY := Lib.hid (And.intro h5 (HX.out.2.on hb5))
            clear h5 hb5 g0 f0
            cases q1 with
            | true =>
              have Hf : Hid (reachQ t m2 = (digsP m2.tail).2) := Lib.hid (by rw [Hr.out, if_pos (Or.inl Hq1.out)])
              have Hat : Hid (((K.at m2 : Nat) : Int) + 1 = (K.at m2.tail : Nat)) := Lib.hid (by rw [(pre1_at _ Hq1.out).1]; exact at_drop K m2 1 HY.out.1.len (pre1_at _ Hq1.out).2)
              have hat : ((K.at m2 : Nat) : Int) + 1 ≤ K.s.size := by rw [Hat.out]; have := at_le K m2.tail; omega
              have g0 := HY.out.1.cell0
              have f0 := HY.out.1.frozen 0
              go_wp2_with fail
              refine (digits_any K m2.tail _ (HY.out.1.to (tail_sufx _) Hat.out)).mono ?_
              rintro e w7 ⟨rfl, h7, hb7⟩
              have HZ := Lib.hid (And.intro h7 ((HY.out.2.set 0 none (.int .i64 (((K.at m2 : Nat) : Int) + 1))).trans hb7))
              clear h7 hb7
              go_wp2_with fail
              first | go_end0 | ((try simp only [Exit.inBlock, Exit.then]); refine bodyPost_ret (results_none rfl _ _ _) rfl ?_)
              rw [Hf.out]
              exact ⟨by first | rfl | trivial, HZ.out⟩
            | false =>
              go_wp2_with fail
              refine (follows_any K m2 ⟨#[45]⟩ q2 Hq2.out _ HY.out.1).mono ?_
              rintro e w6 ⟨rfl, h6, hb6⟩
              have HU := Lib.hid (And.intro h6 (HY.out.2.on hb6))
              clear h6 hb6
              cases q2 with
              | true =>
                have Hf : Hid (reachQ t m2 = (digsP m2.tail).2) := Lib.hid (by rw [Hr.out, if_pos (Or.inr Hq2.out)])
                have Hat : Hid (((K.at m2 : Nat) : Int) + 1 = (K.at m2.tail : Nat)) := Lib.hid (by rw [(pre1_at _ Hq2.out).1]; exact at_drop K m2 1 HU.out.1.len (pre1_at _ Hq2.out).2)
                have hat : ((K.at m2 : Nat) : Int) + 1 ≤ K.s.size := by rw [Hat.out]; have := at_le K m2.tail; omega
                have g0 := HU.out.1.cell0
                have f0 := HU.out.1.frozen 0
                go_wp2_with fail
                refine (digits_any K m2.tail _ (HU.out.1.to (tail_sufx _) Hat.out)).mono ?_
                rintro e w7 ⟨rfl, h7, hb7⟩
                have HZ := Lib.hid (And.intro h7 ((HU.out.2.set 0 none (.int .i64 (((K.at m2 : Nat) : Int) + 1))).trans hb7))
                clear h7 hb7
                go_wp2_with fail
                first | go_end0 | ((try simp only [Exit.inBlock, Exit.then]); refine bodyPost_ret (results_none rfl _ _ _) rfl ?_)
                rw [Hf.out]
                exact ⟨by first | rfl | trivial, HZ.out⟩
              | false =>
                have Hf : Hid (reachQ t m2 = m2) := Lib.hid (by rw [Hr.out, if_neg (by rw [Hq1.out, Hq2.out]; decide)])
                go_wp2_with fail
                first | go_end0 | ((try simp only [Exit.inBlock, Exit.then]); refine bodyPost_ret (results_none rfl _ _ _) rfl ?_)
                rw [Hf.out]
                exact ⟨by first | rfl | trivial, HU.out⟩
          · have c3 : ((y.toNat : Int) != 101) = true := by rw [Bool.not_eq_true] at c2; rw [bne, show ((y.toNat : Int) == 101) = (y == 101) from eqb y 101 (by decide), c2]; rfl
            have Hf : Hid (reachQ t m2 = m2) := Lib.hid (reach_stop Hb.out HL.out (Or.inr (fun h => c2 (beq_iff_eq.2 h))))
            clear c2
            go_wp2_with fail
            first | go_end0 | ((try simp only [Exit.inBlock, Exit.then]); refine bodyPost_ret (results_none rfl _ _ _) rfl ?_)
            rw [Hf.out]
            exact ⟨by first | rfl | trivial, HX.out⟩
      · have Hbv : Hid (b = false) := Lib.hid (by rw [Hex.out, decide_eq_false c1]; rfl)
        by_cases c2 : (y == 101) = true
        · have c3 : ((y.toNat : Int) != 101) = false := by rw [bne, show ((y.toNat : Int) == 101) = (y == 101) from eqb y 101 (by decide), c2]; rfl
          have Hr : Hid (reachQ t m2 = if pre [43] m2 = true ∨ pre [45] m2 = true then (digsP m2.tail).2 else m2) := Lib.hid (reach_on Hb.out HL.out (by rw [Hbv.out]; exact fun h => h.elim (fun h => by cases h) (fun h => h (beq_iff_eq.1 c2))))
          clear c2
          obtain ⟨q1, hq1⟩ : ∃ v, pre [43] m2 = v := ⟨_, rfl⟩
          obtain ⟨q2, hq2⟩ : ∃ v, pre [45] m2 = v := ⟨_, rfl⟩
          have Hq1 := Lib.hid hq1
          have Hq2 := Lib.hid hq2
          clear hq1 hq2
          go_wp2_with fail
          refine (follows_any K m2 ⟨#[43]⟩ q1 Hq1.out _ HX.out.1).mono ?_
          rintro e w5 ⟨rfl, h5, hb5⟩
          have HY := Lib.hid (And.intro h5 (HX.out.2.on hb5))
          clear h5 hb5 g0 f0
          cases q1 with
          | true =>
            have Hf : Hid (reachQ t m2 = (digsP m2.tail).2) := Lib.hid (by rw [Hr.out, if_pos (Or.inl Hq1.out)])
            have Hat : Hid (((K.at m2 : Nat) : Int) + 1 = (K.at m2.tail : Nat)) := Lib.hid (by rw [(pre1_at _ Hq1.out).1]; exact at_drop K m2 1 HY.out.1.len (pre1_at _ Hq1.out).2)
            have hat : ((K.at m2 : Nat) : Int) + 1 ≤ K.s.size := by rw [Hat.out]; have := at_le K m2.tail; omega
            have g0 := HY.out.1.cell0
            have f0 := HY.out.1.frozen 0
            go_wp2_with fail
            refine (digits_any K m2.tail _ (HY.out.1.to (tail_sufx _) Hat.out)).mono ?_
            rintro e w7 ⟨rfl, h7, hb7⟩
            have HZ := Lib.hid (And.intro h7 ((HY.out.2.set 0 none (.int .i64 (((K.at m2 : Nat) : Int) + 1))).trans hb7))
            clear h7 hb7
            go_wp2_with fail
            first | go_end0 | ((try simp only [Exit.inBlock, Exit.then]); refine bodyPost_ret (results_none rfl _ _ _) rfl ?_)
            rw [Hf.out]
            exact ⟨by first | rfl | trivial, HZ.out⟩
          | false =>
            go_wp2_with fail
            refine (follows_any K m2 ⟨#[45]⟩ q2 Hq2.out _ HY.out.1).mono ?_
            rintro e w6 ⟨rfl, h6, hb6⟩
            have HU := Lib.hid (And.intro h6 (HY.out.2.on hb6))
            clear h6 hb6
            cases q2 with
            | true =>
              have Hf : Hid (reachQ t m2 = (digsP m2.tail).2) := Lib.hid (by rw [Hr.out, if_pos (Or.inr Hq2.out)])
              have Hat : Hid (((K.at m2 : Nat) : Int) + 1 = (K.at m2.tail : Nat)) := Lib.hid (by rw [(pre1_at _ Hq2.out).1]; exact at_drop K m2 1 HU.out.1.len (pre1_at _ Hq2.out).2)
              have hat : ((K.at m2 : Nat) : Int) + 1 ≤ K.s.size := by rw [Hat.out]; have := at_le K m2.tail; omega
              have g0 := HU.out.1.cell0
              have f0 := HU.out.1.frozen 0
              go_wp2_with fail
              refine (digits_any K m2.tail _ (HU.out.1.to (tail_sufx _) Hat.out)).mono ?_
              rintro e w7 ⟨rfl, h7, hb7⟩
              have HZ := Lib.hid (And.intro h7 ((HU.out.2.set 0 none (.int .i64 (((K.at m2 : Nat) : Int) + 1))).trans hb7))
              clear h7 hb7
              go_wp2_with fail
              first | go_end0 | ((try simp only [Exit.inBlock, Exit.then]); refine bodyPost_ret (results_none rfl _ _ _) rfl ?_)
              rw [Hf.out]
              exact ⟨by first | rfl | trivial, HZ.out⟩
            | false =>
              have Hf : Hid (reachQ t m2 = m2) := Lib.hid (by rw [Hr.out, if_neg (by rw [Hq1.out, Hq2.out]; decide)])
              go_wp2_with fail
              first | go_end0 | ((try simp only [Exit.inBlock, Exit.then]); refine bodyPost_ret (results_none rfl _ _ _) rfl ?_)
              rw [Hf.out]
              exact ⟨by first | rfl | trivial, HU.out⟩
        · have c3 : ((y.toNat : Int) != 101) = true := by rw [Bool.not_eq_true] at c2; rw [bne, show ((y.toNat : Int) == 101) = (y == 101) from eqb y 101 (by decide), c2]; rfl
          have Hf : Hid (reachQ t m2 = m2) := Lib.hid (reach_stop Hb.out HL.out (Or.inr (fun h => c2 (beq_iff_eq.2 h))))
          clear c2
          go_wp2_with fail
          first | go_end0 | ((try simp only [Exit.inBlock, Exit.then]); refine bodyPost_ret (results_none rfl _ _ _) rfl ?_)
          rw [Hf.out]
          exact ⟨by first | rfl | trivial, HX.out⟩

end Lex
end Go.Proofs.YtggibhlmnfodaaaDoor
