/-
  The library's ContainsRune over the characters that may be escaped with the flag u.
-/
import Derived.Test.YtjoohpdohdehgaaGreatDoorRegParse
import Derived.Laws.RangeString
import Derived.Laws.RangeAny
import Derived.Lib.RuneCount
import Derived.WalkMore
import Derived.LoopN
namespace Go.Proofs.YtjoohpdohdehgaaGreatDoor
namespace Reg
open Go.RowKit

abbrev synS : ByteArray := ⟨#[94, 36, 92, 46, 42, 43, 63, 40, 41, 91, 93, 123, 125, 124, 47]⟩
theorem synS_list : synS.data.toList = synL := rfl
def synB (c : Nat) : Bool := synL.any fun x => x.toNat == c
theorem syn_index : ∀ c : Nat, c < 128 → decide (0 ≤ Lib.indexByte synL c.toUInt8) = synB c := by decide +kernel
theorem syn_far (c : Nat) (h : 128 ≤ c) : synB c = false := by
  have : ∀ x ∈ synL, x.toNat < 128 := by decide
  unfold synB
  rw [List.any_eq_false]
  intro x hx
  have := this x hx
  simp; omega
theorem syn_none : ∀ c : UInt8, 128 ≤ c.toNat → Lib.indexByte (synL.drop 2) c = -1 ∧ Lib.indexByte (synL.drop 3) c = -1 ∧ Lib.indexByte (synL.drop 4) c = -1 := by
  intro c hc
  have h : ∀ n : Nat, n < 256 → 128 ≤ n → Lib.indexByte (synL.drop 2) (UInt8.ofNat n) = -1 ∧ Lib.indexByte (synL.drop 3) (UInt8.ofNat n) = -1 ∧ Lib.indexByte (synL.drop 4) (UInt8.ofNat n) = -1 := by decide +kernel
  have := h c.toNat c.toNat_lt hc
  simpa using this

theorem syn_cut (c : UInt8) (h : 128 ≤ c.toNat) : Lib.indexByte (synS.extract 2 15).data.toList ((c.toNat : Int).toNat.toUInt8) = -1 ∧ Lib.indexByte (synS.extract 3 15).data.toList ((c.toNat : Int).toNat.toUInt8) = -1 ∧ Lib.indexByte (synS.extract 4 15).data.toList ((c.toNat : Int).toNat.toUInt8) = -1 := by
  have e : ((c.toNat : Int).toNat.toUInt8) = c := by simp
  rw [e]
  have h2 : (synS.extract 2 15).data.toList = synL.drop 2 := by simp [synL]
  have h3 : (synS.extract 3 15).data.toList = synL.drop 3 := by simp [synL]
  have h4 : (synS.extract 4 15).data.toList = synL.drop 4 := by simp [synL]
  rw [h2, h3, h4]
  exact syn_none c h

/-- The bytes of a character beyond ASCII: how many, and the last one. -/
theorem encode_far (r : Int) (h : 128 ≤ r) (hv : Utf8.valid r = true) : (∃ a b, 128 ≤ b.toNat ∧ Utf8.encode r = ⟨#[a, b]⟩) ∨ (∃ a b c, 128 ≤ c.toNat ∧ Utf8.encode r = ⟨#[a, b, c]⟩) ∨ (∃ a b c d, 128 ≤ d.toNat ∧ Utf8.encode r = ⟨#[a, b, c, d]⟩) := by
  have hb : ∀ n : Nat, 128 ≤ (UInt8.ofNat (128 + n % 64)).toNat := by
    intro n
    have : n % 64 < 64 := Nat.mod_lt _ (by decide)
    rw [UInt8.toNat_ofNat']; omega
  unfold Utf8.encode
  rw [if_pos hv, if_neg (by omega)]
  split
  · exact Or.inl ⟨_, _, hb _, rfl⟩
  split
  · exact Or.inr (Or.inl ⟨_, _, _, hb _, rfl⟩)
  · exact Or.inr (Or.inr ⟨_, _, _, _, hb _, rfl⟩)

set_option maxHeartbeats 2000000 in
set_option maxRecDepth 100000 in
theorem index_far (r : Int) (h0 : 128 ≤ r) (h1 : r ≤ 1114111) (h2 : r ≠ 65533) (w : World) :
    Calls Tryz.prog 119 #[.string synS, .int .i32 r] w fun e w' => e = .returned (.int .i64 (-1)) ∧ Below w.heap.size w w' := by
  have e2 : (r == 65533) = false := beq_eq_false_iff_ne.2 h2
  clear h2
  cases hv : Lib.validRune r with
  | false =>
    have HV := Lib.hid hv; clear hv
    go_enter Tryz.func119, Tryz.ntmps119
    go_wp2_with fail
    refine (Tryz.utf8_ValidRune r _).mono ?_
    rintro e w1 ⟨rfl, rfl⟩
    rw [HV.out]
    go_wp2_with fail
    go_ret
    exact ⟨rfl, Below.refl _ _⟩
  | true =>
    have hv2 : Utf8.valid r = true := by
      have := of_decide_eq_true hv
      unfold Utf8.valid
      simp only [Bool.or_eq_true, Bool.and_eq_true, decide_eq_true_eq]
      omega
    have hf := encode_far r h0 hv2
    have HV := Lib.hid hv; clear hv hv2
    rcases hf with ⟨a, b, hb, hE⟩ | ⟨a, b, c, hb, hE⟩ | ⟨a, b, c, d, hb, hE⟩
    · have hn := syn_cut b hb
      obtain ⟨n2, n3, n4⟩ := hn
      have HN : Hid (Lib.indexByte (synS.extract 2 15).data.toList ((((⟨#[a, b]⟩ : ByteArray)[1]'(show 1 < 2 by decide)).toNat : Int).toNat.toUInt8) = -1) := Lib.hid n2
      clear n2 n3 n4
      go_enter Tryz.func119, Tryz.ntmps119
      go_wp2_with fail
      refine (Tryz.utf8_ValidRune r _).mono ?_
      rintro e w1 ⟨rfl, rfl⟩
      rw [HV.out]
      go_wp2_with fail
      go_step3
      go_wp2_with fail
      refine wp_loop_rounds 1 ?_
      rw [rounds_succ]
      have hb9 : (b.toNat : Int) < 256 := by have := b.toNat_lt; omega
      have eb : (((synS[1]'(by decide)).toNat : Int) != (((⟨#[a, b]⟩ : ByteArray)[1]'(show 1 < 2 by decide)).toNat : Int)) = true := by rw [bne_iff_ne]; show (36 : Int) ≠ (b.toNat : Int); omega
      go_wp2_with fail
      go_step3
      go_wp2_with fail
      go_quiet (fail)
      go_wp2_with fail
      clear eb
      have hbq := below_drewN (Below.refl w1.heap.size w1) nq
      generalize w1.drewN nq = w2 at *
      go_quiet ((go_at_call 28; exact Calls.quiet_of_same (Tryz.strings_IndexByte _ _ _)))
      go_upto_region 8 with fail
      rw [HN.out]
      go_wp2_with fail
      rw [Exit.noGoto_ret]
      simp only [Exit.inBlock, Exit.then]
      rw [Exit.noGoto_ret]
      simp only [Exit.inBlock]
      go_ret
      exact ⟨rfl, below_drewN hbq _⟩
    · have hn := syn_cut c hb
      obtain ⟨n2, n3, n4⟩ := hn
      have HN : Hid (Lib.indexByte (synS.extract 3 15).data.toList ((((⟨#[a, b, c]⟩ : ByteArray)[2]'(show 2 < 3 by decide)).toNat : Int).toNat.toUInt8) = -1) := Lib.hid n3
      clear n2 n3 n4
      go_enter Tryz.func119, Tryz.ntmps119
      go_wp2_with fail
      refine (Tryz.utf8_ValidRune r _).mono ?_
      rintro e w1 ⟨rfl, rfl⟩
      rw [HV.out]
      go_wp2_with fail
      go_step3
      go_wp2_with fail
      refine wp_loop_rounds 1 ?_
      rw [rounds_succ]
      have hb9 : (c.toNat : Int) < 256 := by have := c.toNat_lt; omega
      have eb : (((synS[2]'(by decide)).toNat : Int) != (((⟨#[a, b, c]⟩ : ByteArray)[2]'(show 2 < 3 by decide)).toNat : Int)) = true := by rw [bne_iff_ne]; show (92 : Int) ≠ (c.toNat : Int); omega
      go_wp2_with fail
      go_step3
      go_wp2_with fail
      go_quiet (fail)
      go_wp2_with fail
      clear eb
      have hbq := below_drewN (Below.refl w1.heap.size w1) nq
      generalize w1.drewN nq = w2 at *
      go_quiet ((go_at_call 28; exact Calls.quiet_of_same (Tryz.strings_IndexByte _ _ _)))
      go_upto_region 8 with fail
      rw [HN.out]
      go_wp2_with fail
      rw [Exit.noGoto_ret]
      simp only [Exit.inBlock, Exit.then]
      rw [Exit.noGoto_ret]
      simp only [Exit.inBlock]
      go_ret
      exact ⟨rfl, below_drewN hbq _⟩
    · have hn := syn_cut d hb
      obtain ⟨n2, n3, n4⟩ := hn
      have HN : Hid (Lib.indexByte (synS.extract 4 15).data.toList ((((⟨#[a, b, c, d]⟩ : ByteArray)[3]'(show 3 < 4 by decide)).toNat : Int).toNat.toUInt8) = -1) := Lib.hid n4
      clear n2 n3 n4
      go_enter Tryz.func119, Tryz.ntmps119
      go_wp2_with fail
      refine (Tryz.utf8_ValidRune r _).mono ?_
      rintro e w1 ⟨rfl, rfl⟩
      rw [HV.out]
      go_wp2_with fail
      go_step3
      go_wp2_with fail
      refine wp_loop_rounds 1 ?_
      rw [rounds_succ]
      have hb9 : (d.toNat : Int) < 256 := by have := d.toNat_lt; omega
      have eb : (((synS[3]'(by decide)).toNat : Int) != (((⟨#[a, b, c, d]⟩ : ByteArray)[3]'(show 3 < 4 by decide)).toNat : Int)) = true := by rw [bne_iff_ne]; show (46 : Int) ≠ (d.toNat : Int); omega
      go_wp2_with fail
      go_step3
      go_wp2_with fail
      go_quiet (fail)
      go_wp2_with fail
      clear eb
      have hbq := below_drewN (Below.refl w1.heap.size w1) nq
      generalize w1.drewN nq = w2 at *
      go_quiet ((go_at_call 28; exact Calls.quiet_of_same (Tryz.strings_IndexByte _ _ _)))
      go_upto_region 8 with fail
      rw [HN.out]
      go_wp2_with fail
      rw [Exit.noGoto_ret]
      simp only [Exit.inBlock, Exit.then]
      rw [Exit.noGoto_ret]
      simp only [Exit.inBlock]
      go_ret
      exact ⟨rfl, below_drewN hbq _⟩

theorem syn_decode : ∀ i : Nat, i < 15 → (Utf8.decode synS i).2 = 1 ∧ (Utf8.decode synS i).1 < 128 := by decide +kernel
theorem below_iterAt {B : Nat} {a wr : World} (h : Below B a wr) (k : Nat) (hk : B ≤ k) (s : ByteArray) (p : Nat) : Below B a (wr.iterAt k s p) :=
  h.trans ⟨rfl, rfl, rfl, by simp [World.iterAt], fun j hj => by simp only [World.iterAt, Array.getElem?_setIfInBounds]; rw [if_neg (by omega)]⟩

set_option maxHeartbeats 1000000 in
set_option maxRecDepth 100000 in
theorem index_err (w : World) :
    Calls Tryz.prog 119 #[.string synS, .int .i32 65533] w fun e w' => e = .returned (.int .i64 (-1)) ∧ Below w.heap.size w w' := by
  go_enter Tryz.func119, Tryz.ntmps119
  go_wp2_with fail
  go_loopw [176] (fun _ wr => ∃ i : Nat, i ≤ 15 ∧ wr.heap[w.heap.size]? = some (.stringIter synS i) ∧ Below w.heap.size w wr) (fun _ wr => 15 - wr.iterPos w.heap.size)
  case atStart => exact ⟨0, by omega, World.iter_heap w synS 0, (Below.refl _ _).alloc (Nat.le_refl _) _⟩
  case round =>
    obtain ⟨i, hi, hk, hw⟩ := hrel
    have Hk := Lib.hid hk
    have Hp := Lib.hid (iterPos_of hk)
    by_cases hlt : i < 15
    · have hn := fun ty => Lib.run_next_any_at (P := Tryz.prog) wr w.heap.size synS i ty hk hlt
      obtain ⟨hd2, hd1⟩ := syn_decode i hlt
      rw [hd2] at hn
      have Hit := Lib.hid (Lib.iterAt_heap wr w.heap.size synS i (i + 1) Hk.out)
      have Hbi := below_iterAt hw w.heap.size (Nat.le_refl _) synS (i + 1)
      generalize (Utf8.decode synS i).1 = c at *
      have eb : ((c : Int) == 65533) = false := beq_eq_false_iff_ne.2 (by omega)
      clear hk hd2
      go_wp2_with fail
      have Hp3 := Lib.hid (iterPos_of Hit.out)
      go_roundw
      case rel => exact ⟨i + 1, hlt, Hit.out, Hbi⟩
      case measure => rw [Hp3.out, Hp.out]; omega
    · have hn := fun ty => Lib.run_next_end_at (P := Tryz.prog) wr w.heap.size synS i ty hk hlt
      clear hk
      go_wp2_with fail
      go_ret
      exact ⟨rfl, hw⟩

set_option maxHeartbeats 400000 in
theorem contains_any (r : Int) (h0 : 0 ≤ r) (h1 : r ≤ 1114111) (w : World) :
    Calls Tryz.prog 110 #[.string synS, .int .i32 r] w fun e w' => e = .returned (.bool (synB r.toNat)) ∧ Below w.heap.size w w' := by
  by_cases h2 : r < 128
  · exact (Tryz.strings_ContainsRune_ascii synS r w h0 h2).mono fun _ _ ⟨he, hw⟩ => ⟨by rw [he, synS_list, syn_index r.toNat (by omega)], hw ▸ Below.refl _ _⟩
  · have HS : Hid (synB r.toNat = false) := Lib.hid (syn_far _ (by omega))
    by_cases h3 : r = 65533
    · subst h3
      go_enter Tryz.func110, Tryz.ntmps110
      go_wp2_with fail
      refine (index_err _).mono ?_
      rintro e w1 ⟨rfl, hb⟩
      go_wp2_with fail
      go_ret
      exact ⟨Uni.ret_bool HS.out.symm, hb⟩
    · have C := Lib.hid (index_far r (by omega) h1 h3 w)
      clear h3
      go_enter Tryz.func110, Tryz.ntmps110
      go_wp2_with fail
      refine C.out.mono ?_
      rintro e w1 ⟨rfl, hb⟩
      go_wp2_with fail
      go_ret
      exact ⟨Uni.ret_bool HS.out.symm, hb⟩

end Reg
end Go.Proofs.YtjoohpdohdehgaaGreatDoor
