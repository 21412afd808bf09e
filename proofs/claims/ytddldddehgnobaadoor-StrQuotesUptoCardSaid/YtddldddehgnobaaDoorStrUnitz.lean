/-
  The contract of str.Units.
-/
import Derived.Test.YtddldddehgnobaaDoorStrUnits
import Derived.Test.YtddldddehgnobaaDoorStrTheory
namespace Go.Proofs.YtddldddehgnobaaDoor
namespace Str
open Go.RowKit

theorem denV_range (c : Nat) (h : c ≤ 1114111) : denV c = -1 ∨ (0 ≤ denV c ∧ denV c ≤ 1114111) := by
  unfold denV
  split
  · omega
  split
  · omega
  split
  · omega
  split
  · omega
  split
  · omega
  split
  · omega
  split
  · omega
  · omega
theorem run_range (n v : Nat) (hv : v = 0) (hn : n ≤ 4) (l : List UInt8) (x : Nat) (h : (runL n v l).2 = some x) : x ≤ 1114111 := by
  have := run_boundU n v l x h
  subst hv
  have h4 : 16 ^ n ≤ 16 ^ 4 := Nat.pow_le_pow_right (by decide) hn
  have : x < 1 * 16 ^ 4 := Nat.lt_of_lt_of_le this (by rw [Nat.zero_add, Nat.one_mul, Nat.one_mul]; exact h4)
  omega
theorem part_val (l : List UInt8) (v : Int) (h : (partL l).2 = some v) : v = -1 ∨ (0 ≤ v ∧ v ≤ 1114111) := by
  match l with
  | [] => cases h
  | x :: l =>
    rw [partL] at h
    by_cases c1 : x = 92
    · rw [if_pos c1] at h
      have h : (escL l).2 = some v := h
      match l with
      | [] => cases h
      | y :: m =>
        rw [escL] at h
        by_cases d1 : y = 120
        · rw [if_pos d1] at h
          simp only [ahead] at h
          cases hr : (runL 2 0 m).2 with
          | none => rw [hr] at h; cases h
          | some z => rw [hr] at h; injection h with h; have := run_range 2 0 rfl (by decide) m z hr; subst h; exact Or.inr ⟨Int.natCast_nonneg _, by show (z : Int) ≤ _; omega⟩
        rw [if_neg d1] at h
        by_cases d2 : y = 117
        · rw [if_pos d2] at h
          split at h
          · simp only [ahead] at h
            cases hr : (braL true 0 m.tail).2 with
            | none => rw [hr] at h; cases h
            | some z => rw [hr] at h; injection h with h; have := bra_boundU true 0 m.tail z hr; subst h; exact Or.inr ⟨Int.natCast_nonneg _, by show (z : Int) ≤ _; omega⟩
          · simp only [ahead] at h
            cases hr : (runL 4 0 m).2 with
            | none => rw [hr] at h; cases h
            | some z => rw [hr] at h; injection h with h; have := run_range 4 0 rfl (by decide) m z hr; subst h; exact Or.inr ⟨Int.natCast_nonneg _, by show (z : Int) ≤ _; omega⟩
        rw [if_neg d2] at h
        by_cases d3 : y = 48
        · rw [if_pos d3] at h
          simp only at h
          split at h
          · cases h
          · injection h with h; subst h; exact Or.inr ⟨by decide, by decide⟩
        rw [if_neg d3] at h
        by_cases d4 : 49 ≤ y.toNat ∧ y.toNat ≤ 57
        · rw [if_pos d4] at h; cases h
        rw [if_neg d4] at h
        by_cases d5 : y = 13
        · rw [if_pos d5] at h; injection h with h; exact Or.inl h.symm
        rw [if_neg d5] at h
        simp only at h
        split at h
        · cases h
        · rename_i e
          injection h with h
          subst h
          exact denV_range _ (runeL_le _ e)
    · rw [if_neg c1] at h
      split at h
      · cases h
      · simp only at h
        split at h
        · cases h
        · rename_i e
          injection h with h
          subst h
          have := runeL_le _ e
          exact Or.inr ⟨Int.natCast_nonneg _, by omega⟩

/-- A literal's units. -/
def usL (ps : List Piece) : List Int := ps.flatMap fun p => uOf p.2
theorem usL_app (ps qs : List Piece) : usL (ps ++ qs) = usL ps ++ usL qs := by simp [usL]
theorem uOf_len (x : Int) : (uOf x).length ≤ 2 := by unfold uOf unitsL; split <;> (try split) <;> simp
theorem usL_len (ps : List Piece) (h : ∀ p ∈ ps, p.1 ≠ []) : (usL ps).length ≤ 2 * (bytesP ps).length := by
  induction ps with
  | nil => exact Nat.le_refl _
  | cons p ps ih =>
    have h1 := uOf_len p.2
    have h2 := ih (fun p' hp' => h p' (List.mem_cons_of_mem _ hp'))
    have h3 := pos_of_ne (h p (List.mem_cons_self ..))
    have e1 : usL (p :: ps) = uOf p.2 ++ usL ps := rfl
    rw [e1, bytesP_cons, List.length_append, List.length_append]
    omega

theorem own_ne {B b : Nat} {v : Value} {n i : Nat} {xs : List Value} {s : ByteArray} {w : World} (h : w.ownsRow B 3 1 v n xs) (hr : Rd b s i w) : some b ≠ v.ownBlock := by
  intro e
  rcases h.2 with ⟨h1, _⟩ | ⟨g, cap, cur, h1, _, h3, _⟩
  · subst h1; cases e
  · subst h1
    injection e with e
    subst e
    rw [hr.got] at h3
    injection h3 with h3; injection h3 with _ h3 _
    exact absurd h3 (by decide)
theorem own_bar {B b : Nat} {v : Value} {n : Nat} {xs : List Value} {w w' : World} (h : w.ownsRow B 3 1 v n xs) (hb : Bar b w w') (hne : some b ≠ v.ownBlock) : w'.ownsRow B 3 1 v n xs := by
  refine ⟨h.1, ?_⟩
  rcases h.2 with h1 | ⟨g, cap, cur, h1, h2, h3, h4⟩
  · exact Or.inl h1
  · refine Or.inr ⟨g, cap, cur, h1, h2, ?_, h4⟩
    subst h1
    rw [hb.block g (heap_lt h3) (fun e => hne (by rw [e]; rfl))]; exact h3
theorem rd_grown {b : Nat} {s : ByteArray} {i : Nat} {w w' : World} {row : Option Nat} (h : Rd b s i w) (hg : w.grownBy w' row) (hne : some b ≠ row) : Rd b s i w' :=
  ⟨Nat.lt_of_lt_of_le h.lt hg.size, by rw [hg.block b h.lt hne]; exact h.got⟩

theorem row_split : ∀ qs rs m, Row (qs ++ rs) m → Row rs m
  | [], _, _, h => h
  | _ :: qs, rs, m, h => row_split qs rs m h.2.2

/-- What Units hands back. -/
def UnitsR (s : ByteArray) (w : World) (e : Ending) (w' : World) : Prop :=
  (((litL s.data.toList).2 = none ∧ e = .returned (.tuple #[.slice none 0 0, .int .i64 300])) ∨
   ∃ ps v, (litL s.data.toList).2 = some ps ∧ e = .returned (.tuple #[v, .int .i64 0]) ∧ w'.ownsRow w.heap.size 3 1 v (usL ps).length ((usL ps).map (Value.int .i64))) ∧ Below w.heap.size w w'

set_option maxHeartbeats 4000000 in
set_option maxRecDepth 20000 in
theorem units_bad (s : ByteArray) (w : World) (hz : s.size ≤ 16777216) (hT : Tabs w) (hn : (litL s.data.toList).2 = none) :
    Calls Tryd.prog 14 #[.string s] w (UnitsR s w) := by
  have hm : s.size ≤ maxLen := by unfold maxLen; omega
  have hC := check_any s w hm hT
  have hcode : codeL (litL s.data.toList) = 300 := by unfold codeL; rw [hn]; rfl
  unfold Checked at hC
  rw [hcode] at hC
  have HC := Lib.hid hC
  have HN := Lib.hid hn
  clear hC hcode hn
  go_enter Tryd.func14, Tryd.ntmps14
  go_wp2_with fail
  refine HC.out.mono ?_
  rintro e w1 ⟨rfl, hb⟩
  go_wp2_with fail
  go_ret2
  exact ⟨Or.inl ⟨HN.out, rfl⟩, hb⟩

set_option maxHeartbeats 4000000 in
set_option maxRecDepth 20000 in
theorem units_ok (s : ByteArray) (w : World) (hz : s.size ≤ 16777216) (hT : Tabs w) (ps : List Piece) (hn : (litL s.data.toList).2 = some ps) :
    Calls Tryd.prog 14 #[.string s] w (UnitsR s w) := by
  have hm : s.size ≤ maxLen := by unfold maxLen; omega
  have hC := check_any s w hm hT
  obtain ⟨h0, q, hq, hs, hr, hf⟩ := lit_inv _ _ hn
  have hcode : codeL (litL s.data.toList) = 0 := by unfold codeL; rw [hn]; rfl
  unfold Checked at hC
  rw [hcode, h0] at hC
  have HC := Lib.hid hC
  have HN := Lib.hid hn
  have hsz : s.size = (bytesP ps).length + 2 := by rw [Lib.size_eq, hs]; simp
  have h2 : 2 ≤ s.size := by omega
  have HS := Lib.hid hsz
  have HSS := Lib.hid hs
  clear hC hcode hn h0 hs hsz
  go_enter Tryd.func14, Tryd.ntmps14
  go_wp2_with fail
  refine HC.out.mono ?_
  rintro e w1 ⟨rfl, hb⟩
  have HB1 := Lib.hid hb
  clear hb
  go_wp2_with fail
  have hU : (s.extract 0 (s.size - 1)).data.toList = q :: bytesP ps := by
    have e := HSS.out
    have hsz := HS.out
    have : (s.extract 0 (s.size - 1)).data.toList = s.data.toList.take (s.size - 1) := by
      simp only [ByteArray.data_extract, Array.toList_extract, List.extract_eq_take_drop, List.drop_zero, Nat.sub_zero]
    rw [this, e, show s.size - 1 = (bytesP ps).length + 1 by omega]
    simp
  have hUz : (s.extract 0 (s.size - 1)).size = (bytesP ps).length + 1 := by rw [Lib.size_eq, hU]; rfl
  obtain ⟨U, hUU⟩ : ∃ U, s.extract 0 (s.size - 1) = U := ⟨_, rfl⟩
  rw [hUU] at hU hUz ⊢
  clear hUU
  have hUm : U.size ≤ maxLen := by have := HS.out; unfold maxLen; omega
  have hUb : U.size ≤ 16777216 := by have := HS.out; omega
  have hsuf : sufL U 1 = bytesP ps := by unfold sufL; rw [hU]; rfl
  have Hsuf := Lib.hid hsuf
  have HUz := Lib.hid hUz
  have hr0 := row_nil ps _ hr
  have hvals : ∀ rs p qs, ps = qs ++ p :: rs → p.2 = -1 ∨ (0 ≤ p.2 ∧ p.2 ≤ 1114111) := by
    intro rs p qs e
    have : Row (p :: rs) [] := row_split qs _ _ (by rw [← e]; exact hr0)
    have h1 := (row_part p rs this).1
    exact part_val _ _ (by rw [h1])
  have hne := row_ne _ _ hr
  have hlen := usL_len ps hne
  have HV := Lib.hid hvals
  have HR0 := Lib.hid hr0
  have HNE := Lib.hid hne
  have HLEN := Lib.hid hlen
  have h2w : 2 ≤ w.heap.size := hT.1
  have hA := Rd.alloc U 1 w1
  have hBb : Below w.heap.size w (w1.alloc (.cells #[.string U, .int .i64 1] 47)) := HB1.out.alloc HB1.out.size _
  have HA := Lib.hid hA
  have HBb := Lib.hid hBb
  have hbw : w.heap.size ≤ w1.heap.size := HB1.out.size
  clear hU hUz hsuf hr0 hvals hne hlen hr hf hA hBb
  obtain ⟨b, hb⟩ : ∃ b, w1.heap.size = b := ⟨_, rfl⟩
  rw [hb] at HA hbw ⊢
  clear hb
  go_loopg [6, 8, 9] ps.length (fun g v _ _ wr => ∃ qs rs : List Piece, g = rs.length ∧ ps = qs ++ rs ∧ Rd b U (1 + (bytesP qs).length) wr ∧ wr.ownsRow w.heap.size 3 1 v (usL qs).length ((usL qs).map (Value.int .i64)) ∧ Below w.heap.size w wr)
  case atStart => exact ⟨[], ps, rfl, rfl, HA.out, World.ownsRow_nil _ _ _ _, HBb.out⟩
  case round =>
    obtain ⟨qs, rs, rfl, hps, hRd, hown, hbel⟩ := hrel
    have HPS := Lib.hid hps
    have HRd := Lib.hid hRd
    have HO := Lib.hid hown
    have HBe := Lib.hid hbel
    have c0 := hRd.cell0
    have c1 := hRd.cell1
    have hle : 1 + (bytesP qs).length + (bytesP rs).length = U.size := by
      have := HUz.out
      rw [this, hps, bytesP_app, List.length_append]; omega
    clear hps hRd hown hbel
    cases rs with
    | nil =>
      have hle2 : ¬ 1 + (bytesP qs).length < U.size := by rw [← hle]; simp [bytesP]
      clear hle
      go_wp2_with fail
      go_ret2
      have e : ps = qs := by have := HPS.out; rwa [List.append_nil] at this
      exact ⟨Or.inr ⟨ps, _, HN.out, rfl, by rw [e]; exact HO.out⟩, HBe.out⟩
    | cons p rs =>
      have hrow : Row (p :: rs) [] := row_split qs _ _ (by rw [← HPS.out]; exact HR0.out)
      have hpart := row_part p rs hrow
      have hsuf2 : sufL U (1 + (bytesP qs).length) = bytesP (p :: rs) := by
        rw [← suf_drop, Hsuf.out, HPS.out, bytesP_app]; simp
      have hpne := pos_of_ne (HNE.out p (by rw [HPS.out]; simp))
      have hlt : 1 + (bytesP qs).length < U.size := by rw [← hle, bytesP_cons, List.length_append]; omega
      have hP := part_any b U (1 + (bytesP qs).length) wr hUm (by omega) HRd.out (by omega) (hT.below HBe.out h2w)
      rw [hsuf2, hpart.1] at hP
      have HP := Lib.hid hP
      have hval := HV.out rs p qs HPS.out
      have HVal := Lib.hid hval
      have hul : (usL qs).length ≤ 67108864 := by
        have := HLEN.out
        have hz2 := HUz.out
        rw [HPS.out, usL_app, List.length_append] at this
        rw [HPS.out] at hz2
        omega
      clear hrow hpart hsuf2 hpne hle hP hval
      go_wp2_with fail
      refine HP.out.mono ?_
      rintro e w2 hw2
      have HW := Lib.hid hw2
      obtain ⟨rfl, hW⟩ := hw2.two
      clear hW
      go_wp2_with fail
      have hown2 := own_bar HO.out HW.out.2.2 (own_ne HO.out HRd.out)
      have hbel2 : Below w.heap.size w w2 := HBe.out.trans (HW.out.2.2.below hbw HBe.out.size)
      refine (append_any w.heap.size _ (usL qs) p.2 w2 hown2 HVal.out hbel2.size hul).mono ?_
      rintro e w3 ⟨v', rfl, hown3, hg3⟩
      have HO3 := Lib.hid hown3
      have HG3 := Lib.hid hg3
      have HO2 := Lib.hid hown2
      have HB2 := Lib.hid hbel2
      clear hown3 hg3 hown2 hbel2
      go_wp2_with fail
      go_roundg rs.length
      case rel =>
        have e1 : usL (qs ++ [p]) = usL qs ++ uOf p.2 := by simp [usL]
        refine ⟨qs ++ [p], rs, rfl, by rw [HPS.out]; simp, ?_, by rw [e1]; exact HO3.out, ?_⟩
        · have := rd_grown HW.out.2.1 HG3.out (own_ne HO2.out HW.out.2.1)
          rw [bytesP_app, List.length_append]
          simpa [bytesP, Nat.add_assoc] using this
        · exact HB2.out.grown HG3.out HB2.out.size (fun k hk => (HO2.out.lt k hk).1)
      case measure => simp

theorem units_any (s : ByteArray) (w : World) (hz : s.size ≤ 16777216) (hT : Tabs w) : Calls Tryd.prog 14 #[.string s] w (UnitsR s w) := by
  cases hn : (litL s.data.toList).2 with
  | none => exact units_bad s w hz hT hn
  | some ps => exact units_ok s w hz hT ps hn

end Str
end Go.Proofs.YtddldddehgnobaaDoor
