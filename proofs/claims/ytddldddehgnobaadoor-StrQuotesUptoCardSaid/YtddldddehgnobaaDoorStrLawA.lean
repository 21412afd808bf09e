/-
  The walks of the laws StrForms and StrUnits.
-/
import Derived.Test.YtddldddehgnobaaDoorStrAwake
import Derived.Test.YtddldddehgnobaaDoorStrRefTop
namespace Go.Proofs.YtddldddehgnobaaDoor
namespace Str
open Go.RowKit

set_option maxHeartbeats 2000000 in
set_option maxRecDepth 20000 in
theorem forms_law (s : ByteArray) (w : World) (hz : s.size ≤ 16777216) (hT : Tabs w) :
    Calls Tryd.prog 3 #[.string s] w fun e w' => e = .returned (.bool true) ∧ Below w.heap.size w w' := by
  have hm : s.size ≤ maxLen := by unfold maxLen; omega
  have HC := Lib.hid (check_any s w hm hT)
  have HR := Lib.hid (fun W => rcheck_any s W hz)
  have HT := Lib.hid hT
  have h2 : 2 ≤ w.heap.size := hT.1
  clear hT
  unfold Checked at HC HR
  obtain ⟨p, hp⟩ : ∃ p, (litL s.data.toList).1 = p := ⟨_, rfl⟩
  obtain ⟨c, hc⟩ : ∃ c, codeL (litL s.data.toList) = c := ⟨_, rfl⟩
  rw [hp, hc] at HC HR
  clear hp hc
  go_enter Tryd.func3, Tryd.ntmps3
  go_wp2_with fail
  refine HC.out.mono ?_
  rintro e w1 ⟨rfl, hb1⟩
  have HB1 := Lib.hid hb1
  clear hb1
  go_wp2_with fail
  refine (HR.out _).mono ?_
  rintro e w2 ⟨rfl, hb2⟩
  have HB2 := Lib.hid (HB1.out.trans (hb2.mono HB1.out.size))
  clear hb2
  go_wp2_with fail
  refine (num_any c w2).mono ?_
  rintro e w3 ⟨rfl, rfl⟩
  go_wp2_with fail
  refine (awake_any w2 (HT.out.below HB2.out h2)).mono ?_
  rintro e w3 ⟨rfl, hb3⟩
  go_wp2_with fail
  go_ret
  exact ⟨rfl, HB2.out.trans (hb3.mono HB2.out.size)⟩

theorem lit_code (r : Nat × Option (List Piece)) : (r.2 = none → codeL r = 300) ∧ (∀ ps, r.2 = some ps → codeL r = 0) :=
  ⟨fun h => by unfold codeL; rw [h]; rfl, fun ps h => by unfold codeL; rw [h]; rfl⟩

set_option maxHeartbeats 2000000 in
set_option maxRecDepth 20000 in
theorem unitslaw_bad (s : ByteArray) (w : World) (hz : s.size ≤ 16777216) (hT : Tabs w) (hn : (litL s.data.toList).2 = none) :
    Calls Tryd.prog 4 #[.string s] w fun e w' => e = .returned (.bool true) ∧ Below w.heap.size w w' := by
  have HC : Hid (∀ W, Tabs W → Calls Tryd.prog 14 #[.string s] W fun e w' => e = .returned (.tuple #[.slice none 0 0, .int .i64 300]) ∧ Below W.heap.size W w') := Lib.hid (fun W hT => (units_any s W hz hT).mono (by
    rintro e w' ⟨h | ⟨ps, v, h, _⟩, hb⟩
    · exact ⟨h.2, hb⟩
    · rw [hn] at h; cases h))
  have HR : Hid (∀ W, Calls Tryd.prog 15 #[.string s] W fun e w' => e = .returned (.tuple #[.slice none 0 0, .int .i64 300]) ∧ Below W.heap.size W w') := Lib.hid (fun W => (all_ok s W hz).mono (by
    rintro e w' ⟨h | ⟨ps, v, h, _⟩, hb⟩
    · exact ⟨h.2, hb⟩
    · rw [hn] at h; cases h))
  have HT := Lib.hid hT
  have h2 : 2 ≤ w.heap.size := hT.1
  clear hT hn
  go_enter Tryd.func4, Tryd.ntmps4
  go_wp2_with fail
  refine (HC.out w HT.out).mono ?_
  rintro e w1 ⟨rfl, hb1⟩
  have HB1 := Lib.hid hb1
  clear hb1
  go_wp2_with fail
  refine (HC.out w1 (HT.out.below HB1.out h2)).mono ?_
  rintro e w2 ⟨rfl, hb2⟩
  have HB2 := Lib.hid (HB1.out.trans (hb2.mono HB1.out.size))
  clear hb2
  go_wp2_with fail
  refine (HR.out w2).mono ?_
  rintro e w3 ⟨rfl, hb3⟩
  have HB3 := Lib.hid (HB2.out.trans (hb3.mono HB2.out.size))
  clear hb3
  have hnil : ∀ W : World, IntsAt W (.slice none 0 0) [] := fun W => Or.inl ⟨rfl, rfl⟩
  have HN := Lib.hid hnil
  clear hnil
  go_wp2_with fail
  refine (num_any 300 w3).mono ?_
  rintro e w4 ⟨rfl, rfl⟩
  go_wp2_with fail
  refine (num_any 300 w3).mono ?_
  rintro e w4 ⟨rfl, rfl⟩
  go_wp2_with fail
  refine (same_any _ _ [] _ (HN.out _) (HN.out _) (by decide)).mono ?_
  rintro e w4 ⟨rfl, hb4⟩
  have HB4 := Lib.hid (HB3.out.trans (hb4.mono HB3.out.size))
  clear hb4
  go_wp2_with fail
  refine (spoil_any w.heap.size (.slice none 0 0) [] w4 (World.ownsRow_nil _ _ _ _) (by decide)).mono ?_
  rintro e w5 ⟨⟨u, rfl⟩, hg⟩
  have HB5 := Lib.hid (HB4.out.grown hg HB4.out.size (fun k hk => by cases hk))
  clear hg
  go_wp2_with fail
  refine (same_any _ _ [] _ (HN.out _) (HN.out _) (by decide)).mono ?_
  rintro e w6 ⟨rfl, hb6⟩
  have HB6 := Lib.hid (HB5.out.trans (hb6.mono HB5.out.size))
  clear hb6
  go_wp2_with fail
  refine (awake_any w6 (HT.out.below HB6.out h2)).mono ?_
  rintro e w7 ⟨rfl, hb7⟩
  go_wp2_with fail
  go_ret
  exact ⟨rfl, HB6.out.trans (hb7.mono HB6.out.size)⟩

theorem ints_other {B : Nat} {v v' : Value} {n : Nat} {xs : List Value} {us : List Int} {w w' : World} (h : IntsAt w v us) (ho : w.ownsRow B 3 1 v' n xs) (hg : w.grownBy w' v'.ownBlock) (hB : ∀ g, v.ownBlock = some g → g < B ∨ v'.ownBlock ≠ some g) : IntsAt w' v us := by
  rcases h with h | ⟨g, c, cs, fr, h1, h2, h3⟩
  · exact Or.inl h
  · refine Or.inr ⟨g, c, cs, fr, h1, ?_, h3⟩
    rw [hg.block g (heap_lt h2) (fun e => ?_)]
    · exact h2
    · rcases hB g (by rw [h1]; rfl) with h | h
      · have := (ho.lt g e.symm).1; omega
      · exact h e.symm

set_option maxHeartbeats 2000000 in
set_option maxRecDepth 20000 in
theorem unitslaw_ok (s : ByteArray) (w : World) (hz : s.size ≤ 16777216) (hT : Tabs w) (ps : List Piece) (hn : (litL s.data.toList).2 = some ps) :
    Calls Tryd.prog 4 #[.string s] w fun e w' => e = .returned (.bool true) ∧ Below w.heap.size w w' := by
  have HC := Lib.hid (fun W (hT : Tabs W) => units_some s W hz hT ps hn)
  have HR : Hid (∀ W, Calls Tryd.prog 15 #[.string s] W fun e w' => ∃ v, e = .returned (.tuple #[v, .int .i64 0]) ∧ w'.ownsRow W.heap.size 3 1 v (usL ps).length ((usL ps).map (Value.int .i64)) ∧ Below W.heap.size W w') := Lib.hid (fun W => (all_ok s W hz).mono (by
    rintro e w' ⟨h1, hb⟩
    rcases h1 with ⟨h2, _⟩ | ⟨ps', v, h2, h3, h4⟩
    · rw [hn] at h2; cases h2
    · rw [hn] at h2; injection h2 with h2; subst h2
      exact ⟨v, h3, h4, hb⟩))
  have hlen : (usL ps).length ≤ 67108864 := by
    obtain ⟨_, q, _, hs, hr, _⟩ := lit_inv _ _ hn
    have h1 := usL_len ps (row_ne _ _ hr)
    have h2 : s.size = (bytesP ps).length + 2 := by rw [Lib.size_eq, hs]; simp
    omega
  have HT := Lib.hid hT
  have h2 : 2 ≤ w.heap.size := hT.1
  have HL := Lib.hid hlen
  clear hT hn hlen
  go_enter Tryd.func4, Tryd.ntmps4
  go_wp2_with fail
  refine (HC.out w HT.out).mono ?_
  rintro e w1 ⟨va, rfl, hoa, hb1⟩
  have HB1 := Lib.hid hb1
  have HA1 := Lib.hid hoa
  clear hb1 hoa
  go_wp2_with fail
  refine (HC.out w1 (HT.out.below HB1.out h2)).mono ?_
  rintro e w2 ⟨vb, rfl, hob, hb2⟩
  have HB2 := Lib.hid (HB1.out.trans (hb2.mono HB1.out.size))
  have HA2 := Lib.hid (own_below HA1.out hb2)
  have HN2 := Lib.hid hob
  clear hb2 hob
  go_wp2_with fail
  refine (HR.out w2).mono ?_
  rintro e w3 ⟨vu, rfl, hou, hb3⟩
  have HB3 := Lib.hid (HB2.out.trans (hb3.mono HB2.out.size))
  have HA3 := Lib.hid (own_below HA2.out hb3)
  have HN3 := Lib.hid (own_below HN2.out hb3)
  have HU3 := Lib.hid hou
  -- the three lie apart
  have hab : ∀ g, vb.ownBlock = some g → va.ownBlock ≠ some g := fun g hg e => by
    have h1 := (HN2.out.lt g hg).1
    have h2 := (HA1.out.lt g e).2
    omega
  have hau : ∀ g, vu.ownBlock = some g → va.ownBlock ≠ some g := fun g hg e => by
    have h1 := (hou.lt g hg).1
    have h2 := (HA2.out.lt g e).2
    omega
  have HAB := Lib.hid hab
  have HAU := Lib.hid hau
  clear hb3 hou hab hau
  go_wp2_with fail
  refine (num_any 0 w3).mono ?_
  rintro e w4 ⟨rfl, rfl⟩
  go_wp2_with fail
  refine (num_any 0 w3).mono ?_
  rintro e w4 ⟨rfl, rfl⟩
  go_wp2_with fail
  refine (same_any _ _ (usL ps) _ (ints_of_own HA3.out) (ints_of_own HU3.out) HL.out).mono ?_
  rintro e w4 ⟨rfl, hb4⟩
  have HB4 := Lib.hid (HB3.out.trans (hb4.mono HB3.out.size))
  have HA4 := Lib.hid (own_below HA3.out hb4)
  have HN4 := Lib.hid (own_below HN3.out hb4)
  have HU4 := Lib.hid (own_below HU3.out hb4)
  clear hb4
  go_wp2_with fail
  refine (spoil_any w.heap.size va (usL ps) w4 HA4.out HL.out).mono ?_
  rintro e w5 ⟨⟨u, rfl⟩, hg⟩
  have HB5 := Lib.hid (HB4.out.grown hg HB4.out.size (fun k hk => (HA4.out.lt k hk).1))
  have HN5 := Lib.hid (ints_other (ints_of_own HN4.out) HA4.out hg (fun g h => Or.inr (HAB.out g h)))
  have HU5 := Lib.hid (ints_other (ints_of_own HU4.out) HA4.out hg (fun g h => Or.inr (HAU.out g h)))
  clear hg
  go_wp2_with fail
  refine (same_any _ _ (usL ps) _ HN5.out HU5.out HL.out).mono ?_
  rintro e w6 ⟨rfl, hb6⟩
  have HB6 := Lib.hid (HB5.out.trans (hb6.mono HB5.out.size))
  clear hb6
  go_wp2_with fail
  refine (awake_any w6 (HT.out.below HB6.out h2)).mono ?_
  rintro e w7 ⟨rfl, hb7⟩
  go_wp2_with fail
  go_ret
  exact ⟨rfl, HB6.out.trans (hb7.mono HB6.out.size)⟩

theorem units_law (s : ByteArray) (w : World) (hz : s.size ≤ 16777216) (hT : Tabs w) :
    Calls Tryd.prog 4 #[.string s] w fun e w' => e = .returned (.bool true) ∧ Below w.heap.size w w' := by
  cases hn : (litL s.data.toList).2 with
  | none => exact unitslaw_bad s w hz hT hn
  | some ps => exact unitslaw_ok s w hz hT ps hn

end Str
end Go.Proofs.YtddldddehgnobaaDoor
