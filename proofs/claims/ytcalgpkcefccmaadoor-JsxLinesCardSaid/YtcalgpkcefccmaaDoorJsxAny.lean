/-
  The library's IndexAny for the bytes that end lines, at every text.
-/
import Derived.Test.YtcalgpkcefccmaaDoorJsxWords
import Derived.Laws.RangeString
import Derived.Laws.RangeAny
import Derived.Lib.RuneCount
import Derived.BigQuiet
import Derived.Deep.QuietTactic
import Derived.WalkMore
import Derived.LoopN
namespace Go.Proofs.YtcalgpkcefccmaaDoor
namespace Jsx
open Go.RowKit

abbrev lnS : ByteArray := ⟨#[10, 13]⟩
def lnI (x : Nat) : Int := if x = 10 then 0 else if x = 13 then 1 else -1
theorem ln_ascii : ∀ c : Nat, c < 128 → Lib.indexByte [10, 13] c.toUInt8 = lnI c := by decide +kernel
theorem ln_far (c : Nat) (h : 128 ≤ c) : lnI c = -1 := by unfold lnI; rw [if_neg (by omega), if_neg (by omega)]

theorem encode_far (r : Int) (h : 128 ≤ r) (hv : Utf8.valid r = true) : (∃ a b, 128 ≤ b.toNat ∧ Utf8.encode r = ⟨#[a, b]⟩) ∨ (∃ a b c, 128 ≤ c.toNat ∧ Utf8.encode r = ⟨#[a, b, c]⟩) ∨ (∃ a b c d, 128 ≤ d.toNat ∧ Utf8.encode r = ⟨#[a, b, c, d]⟩) := by
  have hb : ∀ n : Nat, 128 ≤ (UInt8.ofNat (128 + n % 64)).toNat := by
    intro n
    have : n % 64 < 64 := Nat.mod_lt _ (by decide)
    rw [UInt8.toNat_ofNat']; omega
  unfold Utf8.encode
  rw [if_pos hv, if_neg (by omega)]
  split
  · exact Or.inl ⟨_, _, hb _, rfl⟩
  split
  · exact Or.inr (Or.inl ⟨_, _, _, hb _, rfl⟩)
  · exact Or.inr (Or.inr ⟨_, _, _, _, hb _, rfl⟩)

set_option maxHeartbeats 2000000 in
set_option maxRecDepth 100000 in
theorem irune_far (r : Int) (h0 : 128 ≤ r) (h1 : r ≤ 1114111) (h2 : r ≠ 65533) (w : World) :
    Calls Tryd.prog 59 #[.string lnS, .int .i32 r] w fun e w' => e = .returned (.int .i64 (-1)) ∧ Below w.heap.size w w' := by
  have e2 : (r == 65533) = false := beq_eq_false_iff_ne.2 h2
  clear h2
  cases hv : Lib.validRune r with
  | false =>
    have HV := Lib.hid hv; clear hv
    go_enter Tryd.func59, Tryd.ntmps59
    go_wp2_with fail
    refine (Tryd.utf8_ValidRune r _).mono ?_
    rintro e w1 ⟨rfl, rfl⟩
    rw [HV.out]
    go_wp2_with fail
    go_ret
    exact ⟨rfl, Below.refl _ _⟩
  | true =>
    have hv2 : Utf8.valid r = true := by
      have := of_decide_eq_true hv
      unfold Utf8.valid
      simp only [Bool.or_eq_true, Bool.and_eq_true, decide_eq_true_eq]
      omega
    have hf := encode_far r h0 hv2
    have HV := Lib.hid hv; clear hv hv2
    rcases hf with ⟨a, b, hb, hE⟩ | ⟨a, b, c, hb, hE⟩ | ⟨a, b, c, d, hb, hE⟩
    · have HN : Hid (Lib.indexByte ByteArray.empty.data.toList ((((⟨#[a, b]⟩ : ByteArray)[1]'(show 1 < 2 by decide)).toNat : Int).toNat.toUInt8) = -1) := Lib.hid rfl
      go_enter Tryd.func59, Tryd.ntmps59
      go_wp2_with fail
      refine (Tryd.utf8_ValidRune r _).mono ?_
      rintro e w1 ⟨rfl, rfl⟩
      rw [HV.out]
      go_wp2_with fail
      go_step3
      go_wp2_with fail
      refine wp_loop_rounds 1 ?_
      rw [rounds_succ]
      have hb9 : (b.toNat : Int) < 256 := by have := b.toNat_lt; omega
      have eb : (((lnS[1]'(by decide)).toNat : Int) != (((⟨#[a, b]⟩ : ByteArray)[1]'(show 1 < 2 by decide)).toNat : Int)) = true := by rw [bne_iff_ne]; show (13 : Int) ≠ (b.toNat : Int); omega
      go_wp2_with fail
      go_step3
      go_wp2_with fail
      go_quiet (fail)
      go_wp2_with fail
      clear eb
      have hbq := below_drewN (Below.refl w1.heap.size w1) nq
      generalize w1.drewN nq = w2 at *
      go_quiet ((go_at_call 21; exact Calls.quiet_of_same (Tryd.strings_IndexByte _ _ _)))
      go_upto_region 8 with fail
      rw [HN.out]
      go_wp2_with fail
      rw [Exit.noGoto_ret]
      simp only [Exit.inBlock, Exit.then]
      rw [Exit.noGoto_ret]
      simp only [Exit.inBlock]
      go_ret
      exact ⟨rfl, below_drewN hbq _⟩
    · go_enter Tryd.func59, Tryd.ntmps59
      go_wp2_with fail
      refine (Tryd.utf8_ValidRune r _).mono ?_
      rintro e w1 ⟨rfl, rfl⟩
      rw [HV.out]
      go_wp2_with fail
      go_step3
      go_wp2_with fail
      refine wp_loop_rounds 1 ?_
      rw [rounds_succ]
      go_wp2_with fail
      rw [Exit.noGoto_ret]
      simp only [Exit.inBlock]
      go_ret
      exact ⟨rfl, Below.refl _ _⟩
    · go_enter Tryd.func59, Tryd.ntmps59
      go_wp2_with fail
      refine (Tryd.utf8_ValidRune r _).mono ?_
      rintro e w1 ⟨rfl, rfl⟩
      rw [HV.out]
      go_wp2_with fail
      go_step3
      go_wp2_with fail
      refine wp_loop_rounds 1 ?_
      rw [rounds_succ]
      go_wp2_with fail
      rw [Exit.noGoto_ret]
      simp only [Exit.inBlock]
      go_ret
      exact ⟨rfl, Below.refl _ _⟩

theorem ln_decode : ∀ i : Nat, i < 2 → (Utf8.decode lnS i).2 = 1 ∧ (Utf8.decode lnS i).1 < 128 := by decide +kernel
theorem below_iterAt {B : Nat} {a wr : World} (h : Below B a wr) (k : Nat) (hk : B ≤ k) (s : ByteArray) (p : Nat) : Below B a (wr.iterAt k s p) :=
  h.trans ⟨rfl, rfl, rfl, by simp [World.iterAt], fun j hj => by simp only [World.iterAt, Array.getElem?_setIfInBounds]; rw [if_neg (by omega)]⟩

set_option maxHeartbeats 1000000 in
set_option maxRecDepth 100000 in
theorem irune_err (w : World) :
    Calls Tryd.prog 59 #[.string lnS, .int .i32 65533] w fun e w' => e = .returned (.int .i64 (-1)) ∧ Below w.heap.size w w' := by
  go_enter Tryd.func59, Tryd.ntmps59
  go_wp2_with fail
  go_loopw [176] (fun _ wr => ∃ i : Nat, i ≤ 2 ∧ wr.heap[w.heap.size]? = some (.stringIter lnS i) ∧ Below w.heap.size w wr) (fun _ wr => 2 - wr.iterPos w.heap.size)
  case atStart => exact ⟨0, by omega, World.iter_heap w lnS 0, (Below.refl _ _).alloc (Nat.le_refl _) _⟩
  case round =>
    obtain ⟨i, hi, hk, hw⟩ := hrel
    have Hk := Lib.hid hk
    have Hp := Lib.hid (iterPos_of hk)
    by_cases hlt : i < 2
    · have hn := fun ty => Lib.run_next_any_at (P := Tryd.prog) wr w.heap.size lnS i ty hk hlt
      obtain ⟨hd2, hd1⟩ := ln_decode i hlt
      rw [hd2] at hn
      have Hit := Lib.hid (Lib.iterAt_heap wr w.heap.size lnS i (i + 1) Hk.out)
      have Hbi := below_iterAt hw w.heap.size (Nat.le_refl _) lnS (i + 1)
      generalize (Utf8.decode lnS i).1 = c at *
      have eb : ((c : Int) == 65533) = false := beq_eq_false_iff_ne.2 (by omega)
      clear hk hd2
      go_wp2_with fail
      have Hp3 := Lib.hid (iterPos_of Hit.out)
      go_roundw
      case rel => exact ⟨i + 1, hlt, Hit.out, Hbi⟩
      case measure => rw [Hp3.out, Hp.out]; omega
    · have hn := fun ty => Lib.run_next_end_at (P := Tryd.prog) wr w.heap.size lnS i ty hk hlt
      clear hk
      go_wp2_with fail
      go_ret
      exact ⟨rfl, hw⟩

theorem irune_any (x : Nat) (hx : x ≤ 1114111) (w : World) :
    Calls Tryd.prog 59 #[.string lnS, .int .i32 x] w fun e w' => e = .returned (.int .i64 (lnI x)) ∧ Below w.heap.size w w' := by
  by_cases h2 : x < 128
  · refine (Tryd.strings_IndexRune_ascii lnS x w (by omega) (by omega)).mono ?_
    rintro e w' ⟨rfl, rfl⟩
    exact ⟨by rw [show (x : Int).toNat = x from Int.toNat_natCast x, ← ln_ascii x h2], Below.refl _ _⟩
  · rw [ln_far x (by omega)]
    by_cases h3 : x = 65533
    · subst h3; exact irune_err w
    · exact irune_far x (by omega) (by omega) (by omega) w

/-- A byte that ends a line. -/
def endB (c : UInt8) : Bool := ([10, 13] : List UInt8).contains c
theorem endB_low (c : UInt8) (h : 128 ≤ c.toNat) : endB c = false := by
  have key : ∀ n : Nat, n < 256 → 128 ≤ n → endB (UInt8.ofNat n) = false := by decide +kernel
  have := key c.toNat c.toNat_lt h
  simpa using this
theorem rune_max (s : ByteArray) (i : Nat) : (Utf8.decode s i).1 ≤ 1114111 := by
  have b0 := Uni.byteN_lt s i
  have b1 := Uni.byteN_lt s (i + 1)
  have b2 := Uni.byteN_lt s (i + 2)
  have b3 := Uni.byteN_lt s (i + 3)
  rw [Uni.decode_form]
  split
  · simp only; omega
  split
  · split <;> (simp only; omega)
  split
  · split <;> (simp only; omega)
  split
  · split
    · rename_i h
      simp only [Bool.and_eq_true, Uni.valid_iff, decide_eq_true_eq] at h
      simp only; omega
    · simp only; omega
  · simp only; omega
theorem no_more {L : List UInt8} {i n : Nat} (h : Lib.NoAny L [10, 13] i) (hn : ∀ j, i ≤ j → j < i + n → ∀ x, L[j]? = some x → endB x = false) : Lib.NoAny L [10, 13] (i + n) := by
  intro j b hj hb
  by_cases h1 : j < i
  · exact h j b h1 hb
  · exact hn j (by omega) hj b hb

set_option maxHeartbeats 4000000 in
set_option maxRecDepth 100000 in
theorem iany_short (s : ByteArray) (w : World) (h8 : s.size ≤ 8) :
    Calls Tryd.prog 48 #[.string s, .string lnS] w fun e w' => e = .returned (.int .i64 (Lib.indexAny s.data.toList [10, 13])) ∧ Below w.heap.size w w' := by
  go_enter Tryd.func48, Tryd.ntmps48
  go_wp2_with fail
  refine (Tryd.strings_shouldUseASCIISet _ _).mono ?_
  rintro e w1 ⟨rfl, rfl⟩
  have h8z : decide ((8 : Int) < (s.size : Int)) = false := decide_eq_false (by omega)
  rw [h8z]
  go_wp2_with fail
  go_loopw [46] (fun _ wr => ∃ i : Nat, i ≤ s.size ∧ wr.heap[w1.heap.size]? = some (.stringIter s i) ∧ Below w1.heap.size w1 wr ∧ Hid (Lib.NoAny s.data.toList [10, 13] i)) (fun _ wr => s.size - wr.iterPos w1.heap.size)
  case atStart => exact ⟨0, by omega, World.iter_heap w1 s 0, (Below.refl _ _).alloc (Nat.le_refl _) _, Lib.hid (Lib.NoAny.zero _ _)⟩
  case round =>
    obtain ⟨i, hi, hk, hw, HN⟩ := hrel
    have Hk := Lib.hid hk
    have Hp := Lib.hid (iterPos_of hk)
    by_cases hlt : i < s.size
    · have hn := fun ty => Lib.run_next_any_at (P := Tryd.prog) wr w1.heap.size s i ty hk hlt
      have hmax := rune_max s i
      have hget : s.data.toList[i]? = some (s[i]'hlt) := by rw [List.getElem?_eq_getElem (by rw [list_size]; exact hlt)]; rfl
      have hbn := Uni.byteN_at s i hlt
      by_cases he : s[i] = 10 ∨ s[i] = 13
      · have hlow := low_step s i (by rw [← hbn]; rcases he with e | e <;> rw [e] <;> decide)
        have Hf : Hid (Lib.indexAny s.data.toList [10, 13] = i) := Lib.hid (Lib.indexAny_hit HN.out hget (by rcases he with e | e <;> rw [e] <;> decide))
        rw [hlow, ← hbn] at hn
        clear hlow hbn hget hmax
        rcases he with e | e
        · rw [e, show ((10 : UInt8).toNat, 1).1 = 10 from rfl, show ((10 : UInt8).toNat, 1).2 = 1 from rfl] at hn
          clear e hk
          go_wp2_with fail
          refine (irune_any 10 (by omega) _).mono ?_
          rintro e w2 ⟨rfl, hb2⟩
          rw [show lnI 10 = 0 from rfl]
          have hb3 := (below_iterAt hw w1.heap.size (Nat.le_refl _) s (i + 1)).trans (hb2.mono (below_iterAt hw w1.heap.size (Nat.le_refl _) s (i + 1)).size)
          clear hb2
          go_wp2_with fail
          go_ret
          exact ⟨by rw [Hf.out]; rfl, hb3⟩
        · rw [e, show ((13 : UInt8).toNat, 1).1 = 13 from rfl, show ((13 : UInt8).toNat, 1).2 = 1 from rfl] at hn
          clear e hk
          go_wp2_with fail
          refine (irune_any 13 (by omega) _).mono ?_
          rintro e w2 ⟨rfl, hb2⟩
          rw [show lnI 13 = 1 from rfl]
          have hb3 := (below_iterAt hw w1.heap.size (Nat.le_refl _) s (i + 1)).trans (hb2.mono (below_iterAt hw w1.heap.size (Nat.le_refl _) s (i + 1)).size)
          clear hb2
          go_wp2_with fail
          go_ret
          exact ⟨by rw [Hf.out]; rfl, hb3⟩
      · have hE : endB (s[i]'hlt) = false := by
          unfold endB
          have h1 : ¬ s[i] = 10 := fun e => he (.inl e)
          have h2 : ¬ s[i] = 13 := fun e => he (.inr e)
          simp [h1, h2]
        have hln : lnI (Utf8.decode s i).1 = -1 := by
          by_cases hl : Uni.byteN s i < 128
          · rw [low_step s i hl]
            show lnI (Uni.byteN s i) = -1
            rw [← hbn]
            have n10 : (s[i]'hlt).toNat ≠ 10 := fun e => he (.inl (UInt8.toNat_inj.1 e))
            have n13 : (s[i]'hlt).toNat ≠ 13 := fun e => he (.inr (UInt8.toNat_inj.1 e))
            unfold lnI
            rw [if_neg n10, if_neg n13]
          · exact ln_far _ (high_rune s i hlt (by omega))
        have hno : Lib.NoAny s.data.toList [10, 13] (i + (Utf8.decode s i).2) := by
          refine no_more HN.out (fun j h1 h2 x hx => ?_)
          by_cases hl : Uni.byteN s i < 128
          · rw [low_step s i hl] at h2
            obtain rfl : j = i := by simp at h2; omega
            rw [hget] at hx; cases hx; exact hE
          · have hjs : j < s.size := by have := Uni.step_le s i hlt; omega
            obtain ⟨y, hy, hy'⟩ := byte_list s j hjs
            rw [hy] at hx; cases hx
            exact endB_low _ (by rw [hy']; exact high_step s i hlt (by omega) j h1 h2)
        have hle := Uni.step_le s i hlt
        have hpos := (Uni.step_pos s i).1
        have Hno := Lib.hid hno
        have Hln := Lib.hid hln
        clear hno hln hE hget hbn he
        generalize (Utf8.decode s i).1 = x at *
        generalize (Utf8.decode s i).2 = n at *
        have Hit := Lib.hid (Lib.iterAt_heap wr w1.heap.size s i (i + n) Hk.out)
        have hbi := below_iterAt hw w1.heap.size (Nat.le_refl _) s (i + n)
        clear hk
        go_wp2_with fail
        refine (irune_any x hmax _).mono ?_
        rintro e w2 ⟨rfl, hb2⟩
        rw [Hln.out]
        have hb3 := hbi.trans (hb2.mono hbi.size)
        have hit2 : w2.heap[w1.heap.size]? = some (.stringIter s (i + n)) := by rw [hb2.block _ (block_lt Hit.out)]; exact Hit.out
        have Hit2 := Lib.hid hit2
        have Hp3 := Lib.hid (iterPos_of hit2)
        clear hb2 hit2
        go_wp2_with fail
        go_roundw
        case rel => exact ⟨i + n, hle, Hit2.out, hb3, Hno⟩
        case measure => rw [Hp3.out, Hp.out]; omega
    · have hn := fun ty => Lib.run_next_end_at (P := Tryd.prog) wr w1.heap.size s i ty hk hlt
      have Hf : Hid (Lib.indexAny s.data.toList [10, 13] = -1) := Lib.hid (Lib.indexAny_none (by rw [list_size, show s.size = i by omega]; exact HN.out))
      clear hk
      go_wp2_with fail
      go_ret
      exact ⟨by rw [Hf.out]; rfl, hw⟩

theorem infoA : (Tryd.prog.info? 91).map (fun i => (i.zero, i.size)) = some (some (.agg (Array.replicate 256 (.bool false))), 256) := by kernel_rfl
theorem iany_any (s : ByteArray) (w : World) (hs : s.size < 4294967281) :
    Calls Tryd.prog 48 #[.string s, .string lnS] w fun e w' => e = .returned (.int .i64 (Lib.indexAny s.data.toList [10, 13])) ∧ Below w.heap.size w w' := by
  by_cases h8 : s.size ≤ 8
  · exact iany_short s w h8
  · refine (Tryd.strings_IndexAny_long (zero_of_info infoA).1 s lnS w (by decide) (by omega) hs (by decide) (by
      intro j b hb
      match j, hb with
      | 0, hb => cases hb; decide
      | 1, hb => cases hb; decide
      | (j + 2), hb => cases hb)).mono ?_
    rintro e w' ⟨rfl, rfl⟩
    exact ⟨rfl, ((Below.refl _ _).alloc (Nat.le_refl _) _).alloc (by simp) _⟩

end Jsx
end Go.Proofs.YtcalgpkcefccmaaDoor
