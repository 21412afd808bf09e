/-
  The walk of the law StrStays.
-/
import Derived.Test.YtddldddehgnobaaDoorStrLawA
import Derived.IntWalk
namespace Go.Proofs.YtddldddehgnobaaDoor
namespace Str
open Go.RowKit

theorem units_of_map {ps qs : List Piece} (h : qs.map (·.2) = ps.map (·.2)) : usL qs = usL ps := by
  have e : ∀ l : List Piece, usL l = (l.map (·.2)).flatMap uOf := fun l => by simp [usL, List.flatMap_map]
  rw [e, e, h]
theorem quoteP_le (q o : UInt8) (p : List UInt8) (h : p ≠ []) : (quoteP q o p).length ≤ 2 * p.length := by
  have h0 := pos_of_ne h
  unfold quoteP
  split
  · simp; omega
  · split
    · rename_i e; rw [e]; simp
    · omega
theorem bytesRe_le (q o : UInt8) : ∀ ps : List Piece, (∀ p ∈ ps, p.1 ≠ []) → (bytesP (rePs q o ps)).length ≤ 2 * (bytesP ps).length
  | [], _ => Nat.le_refl _
  | p :: ps, h => by
    have e : bytesP (rePs q o (p :: ps)) = quoteP q o p.1 ++ bytesP (rePs q o ps) := rfl
    have h1 := quoteP_le q o p.1 (h p (List.mem_cons_self ..))
    have h2 := bytesRe_le q o ps (fun p' hp' => h p' (List.mem_cons_of_mem _ hp'))
    rw [e, bytesP_cons, List.length_append, List.length_append]
    omega
theorem quoteL_le (single : Bool) (s : List UInt8) (ps : List Piece) (h : (litL s).2 = some ps) : (quoteL single s).length ≤ 2 * s.length := by
  obtain ⟨_, q0, _, hs, hr, _⟩ := lit_inv s ps h
  have h1 := bytesRe_le (pick single (bytesP ps)).1 (pick single (bytesP ps)).2 ps (row_ne _ _ hr)
  have h2 : s.length = (bytesP ps).length + 2 := by rw [hs]; simp
  rw [quoteL_of single s ps h]
  simp
  omega
theorem ba_at (Q : ByteArray) (i : Nat) (x : UInt8) (h : i < Q.size) (e : Q.data.toList[i]? = some x) : Q[i]'h = x := by
  have h1 : Q.data.toList[i]? = some (Q[i]'h) := by
    rw [Array.getElem?_toList]
    exact Array.getElem?_eq_getElem _
  rw [h1] at e
  exact Option.some.inj e
theorem ends_eq (Q : ByteArray) (q : UInt8) (m : List UInt8) (h : Q.data.toList = q :: (m ++ [q])) (hn : Q.size = m.length + 2) (h0 : 0 < Q.size) (h1 : Q.size - 1 < Q.size) :
    (((Q[0]'h0).toNat : Int) == ((Q[Q.size - 1]'h1).toNat : Int)) = true := by
  rw [ba_at Q 0 q h0 (by rw [h]; rfl), ba_at Q (Q.size - 1) q h1 (by rw [h, hn]; simp)]
  exact beq_self_eq_true _

set_option maxHeartbeats 2000000 in
set_option maxRecDepth 20000 in
theorem stays_bad (s : ByteArray) (single : Bool) (w : World) (hz : s.size ≤ 16777216) (hT : Tabs w) (hn : (litL s.data.toList).2 = none) :
    Calls Tryd.prog 6 #[.string s, .bool single] w fun e w' => e = .returned (.bool true) ∧ Below w.heap.size w w' := by
  have HC : Hid (∀ W, Tabs W → Calls Tryd.prog 14 #[.string s] W fun e w' => e = .returned (.tuple #[.slice none 0 0, .int .i64 300]) ∧ Below W.heap.size W w') := Lib.hid (fun W hT => (units_any s W hz hT).mono (by
    rintro e w' ⟨h | ⟨ps, v, h, _⟩, hb⟩
    · exact ⟨h.2, hb⟩
    · rw [hn] at h; cases h))
  have HQ : Hid (∀ W, Tabs W → Calls Tryd.prog 18 #[.string s, .bool single] W fun e w' => e = .returned (.tuple #[.string ByteArray.empty, .int .i64 300]) ∧ Below W.heap.size W w') := Lib.hid (fun W hT => (quote_any s single W hz hT).mono (by
    rintro e w' ⟨rfl, hb⟩
    have e1 : quoteL single s.data.toList = [] := by unfold quoteL; rw [hn]
    have e2 := (lit_code _).1 hn
    rw [e1, e2]
    exact ⟨rfl, hb⟩))
  have HT := Lib.hid hT
  have h2 : 2 ≤ w.heap.size := hT.1
  clear hT hn
  go_enter Tryd.func6, Tryd.ntmps6
  go_wp2_with fail
  refine (awake_any w HT.out).mono ?_
  rintro e w0 ⟨rfl, hb0⟩
  have HB0 := Lib.hid hb0
  clear hb0
  go_wp2_with fail
  refine (HC.out w0 (HT.out.below HB0.out h2)).mono ?_
  rintro e w1 ⟨rfl, hb1⟩
  have HB1 := Lib.hid (HB0.out.trans (hb1.mono HB0.out.size))
  clear hb1
  go_wp2_with fail
  refine (HQ.out w1 (HT.out.below HB1.out h2)).mono ?_
  rintro e w2 ⟨rfl, hb2⟩
  have HB2 := Lib.hid (HB1.out.trans (hb2.mono HB1.out.size))
  clear hb2
  go_wp2_with fail
  refine (num_any 300 w2).mono ?_
  rintro e w3 ⟨rfl, rfl⟩
  go_wp2_with fail
  refine (num_any 300 w2).mono ?_
  rintro e w3 ⟨rfl, rfl⟩
  go_wp2_with fail
  go_ret
  exact ⟨rfl, HB2.out⟩

set_option maxHeartbeats 2000000 in
set_option maxRecDepth 20000 in
theorem stays_ok (s : ByteArray) (single : Bool) (w : World) (hz : s.size ≤ 8388608) (hT : Tabs w) (ps : List Piece) (hn : (litL s.data.toList).2 = some ps) :
    Calls Tryd.prog 6 #[.string s, .bool single] w fun e w' => e = .returned (.bool true) ∧ Below w.heap.size w w' := by
  obtain ⟨qs, hq, hm, hqq, q, m, hform⟩ := lit_re single _ ps hn
  have hle := quoteL_le single _ ps hn
  obtain ⟨Q, hQ⟩ : ∃ Q : ByteArray, Q = ⟨(quoteL single s.data.toList).toArray⟩ := ⟨_, rfl⟩
  have hQl : Q.data.toList = quoteL single s.data.toList := by rw [hQ]
  have hQz : Q.size ≤ 16777216 := by rw [Lib.size_eq, hQl]; rw [← Lib.size_eq] at hle; omega
  have hend := hQl.trans hform
  have hQn : Q.size = m.length + 2 := by rw [Lib.size_eq, hend]; simp
  have hus : usL qs = usL ps := units_of_map hm
  have HC := Lib.hid (fun W (hT : Tabs W) => units_some s W (by omega) hT ps hn)
  have HC2 : Hid (∀ W, Tabs W → Calls Tryd.prog 14 #[.string Q] W fun e w' => ∃ v, e = .returned (.tuple #[v, .int .i64 0]) ∧ w'.ownsRow W.heap.size 3 1 v (usL ps).length ((usL ps).map (Value.int .i64)) ∧ Below W.heap.size W w') := Lib.hid (fun W hT => by
    have := units_some Q W hQz hT qs (by rw [hQl, hq])
    rw [hus] at this
    exact this)
  have HQ : Hid (∀ W, Tabs W → Calls Tryd.prog 18 #[.string s, .bool single] W fun e w' => e = .returned (.tuple #[.string Q, .int .i64 0]) ∧ Below W.heap.size W w') := Lib.hid (fun W hT => (quote_any s single W (by omega) hT).mono (by
    rintro e w' ⟨rfl, hb⟩
    rw [(lit_code _).2 ps hn, ← hQ]
    exact ⟨rfl, hb⟩))
  have HQ2 : Hid (∀ W, Tabs W → Calls Tryd.prog 18 #[.string Q, .bool single] W fun e w' => e = .returned (.tuple #[.string Q, .int .i64 0]) ∧ Below W.heap.size W w') := Lib.hid (fun W hT => (quote_any Q single W hQz hT).mono (by
    rintro e w' ⟨rfl, hb⟩
    rw [hQl, hq, hqq, ← hQ]
    exact ⟨rfl, hb⟩))
  have hlen : (usL ps).length ≤ 67108864 := by
    obtain ⟨_, q, _, hs, hr, _⟩ := lit_inv _ _ hn
    have h1 := usL_len ps (row_ne _ _ hr)
    have h2 : s.size = (bytesP ps).length + 2 := by rw [Lib.size_eq, hs]; simp
    omega
  have HT := Lib.hid hT
  have h2 : 2 ≤ w.heap.size := hT.1
  have HL := Lib.hid hlen
  have hn31 : m.length + 2 ≤ 16777216 := by omega
  clear hT hn hlen hq hm hqq hform hle hQl hQ hus hQz
  generalize usL ps = us at *
  go_enter Tryd.func6, Tryd.ntmps6
  go_wp2_with fail
  refine (awake_any w HT.out).mono ?_
  rintro e w0 ⟨rfl, hb0⟩
  have HB0 := Lib.hid hb0
  clear hb0
  go_wp2_with fail
  refine (HC.out w0 (HT.out.below HB0.out h2)).mono ?_
  rintro e w1 ⟨va, rfl, hoa, hb1⟩
  have HB1 := Lib.hid (HB0.out.trans (hb1.mono HB0.out.size))
  have HA1 := Lib.hid hoa
  clear hb1 hoa
  go_wp2_with fail
  refine (HQ.out w1 (HT.out.below HB1.out h2)).mono ?_
  rintro e w2 ⟨rfl, hb2⟩
  have HB2 := Lib.hid (HB1.out.trans (hb2.mono HB1.out.size))
  have HA2 := Lib.hid (own_below HA1.out hb2)
  clear hb2
  go_wp2_with fail
  refine (num_any 0 w2).mono ?_
  rintro e w3 ⟨rfl, rfl⟩
  go_wp2_with fail
  refine (HC2.out w2 (HT.out.below HB2.out h2)).mono ?_
  rintro e w3 ⟨vb, rfl, hob, hb3⟩
  have HB3 := Lib.hid (HB2.out.trans (hb3.mono HB2.out.size))
  have HA3 := Lib.hid (own_below HA2.out hb3)
  have HN3 := Lib.hid hob
  clear hb3 hob
  go_wp2_with fail
  refine (HQ2.out w3 (HT.out.below HB3.out h2)).mono ?_
  rintro e w4 ⟨rfl, hb4⟩
  have HB4 := Lib.hid (HB3.out.trans (hb4.mono HB3.out.size))
  have HA4 := Lib.hid (own_below HA3.out hb4)
  have HN4 := Lib.hid (own_below HN3.out hb4)
  clear hb4
  go_upto_region 9 with fail
  have hS : IntsAt w4 va us ∧ IntsAt w4 vb us ∧ Below w.heap.size w w4 := ⟨ints_of_own HA4.out, ints_of_own HN4.out, HB4.out⟩
  have HNum : Hid (∀ wx, (IntsAt wx va us ∧ IntsAt wx vb us ∧ Below w.heap.size w wx) → Calls Tryd.prog 12 #[.int .i64 0] wx fun e wy => e = .returned (.int .i64 0) ∧ IntsAt wy va us ∧ IntsAt wy vb us ∧ Below w.heap.size w wy) := Lib.hid (fun wx hx => (num_any 0 wx).mono (by rintro e wy ⟨rfl, rfl⟩; exact ⟨rfl, hx⟩))
  have HSame : Hid (∀ wx, (IntsAt wx va us ∧ IntsAt wx vb us ∧ Below w.heap.size w wx) → Calls Tryd.prog 16 #[va, vb] wx fun e wy => e = .returned (.bool true) ∧ IntsAt wy va us ∧ IntsAt wy vb us ∧ Below w.heap.size w wy) := Lib.hid (fun wx hx => (same_any _ _ us wx hx.1 hx.2.1 HL.out).mono (by
    rintro e wy ⟨rfl, hb⟩
    exact ⟨rfl, hx.1.keep hb, hx.2.1.keep hb, hx.2.2.trans (hb.mono hx.2.2.size)⟩))
  have CD : ∀ wx, (IntsAt wx va us ∧ IntsAt wx vb us ∧ Below w.heap.size w wx) → IntsAt wx.drew va us ∧ IntsAt wx.drew vb us ∧ Below w.heap.size w wx.drew := fun wx hx => ⟨hx.1, hx.2.1, hx.2.2.drew⟩
  have HEq := Lib.hid (ends_eq Q q m hend hQn)
  have hqa : (2 : Int) ≤ (Q.size : Int) := by omega
  have hqb : (0 : Int) < (Q.size : Int) := by omega
  have hqd : (0 : Int) ≤ (Q.size : Int) - 1 := by omega
  have hqe : (Q.size : Int) - 1 < (Q.size : Int) := by omega
  have hqc : IntKind.i64.wrap ((Q.size : Int) - 1) = (Q.size : Int) - 1 := IntWalk.i64_in _ (by omega)
  clear hend hQn hn31 hz h2
  go_cut [4] from 47 to 85 (fun c wx => c = .bool true ∧ Below w.heap.size w wx)
  case first =>
    go_region_held3 (fun wx => IntsAt wx va us ∧ IntsAt wx vb us ∧ Below w.heap.size w wx)
      (first | exact CD _ hS | exact hS | assumption | exact CD _ (by assumption))
      (first
      | (go_at_call 12; refine (HNum.out _ ?_).mono ?_; (first | exact hS | assumption | exact CD _ hS); rintro e wx ⟨rfl, hS⟩)
      | (go_at_call 16; refine (HSame.out _ ?_).mono ?_; (first | exact hS | assumption | exact CD _ hS); rintro e wx ⟨rfl, hS⟩))
    all_goals (go_wp2_with fail; go_meet; exact ⟨by rw [HEq.out], hS.2.2⟩)
  case rest =>
    obtain ⟨rfl, hb⟩ := hcut
    go_wp2_with fail
    go_ret
    exact ⟨rfl, hb⟩

theorem stays_law (s : ByteArray) (single : Bool) (w : World) (hz : s.size ≤ 8388608) (hT : Tabs w) :
    Calls Tryd.prog 6 #[.string s, .bool single] w fun e w' => e = .returned (.bool true) ∧ Below w.heap.size w w' := by
  cases hn : (litL s.data.toList).2 with
  | none => exact stays_bad s single w (by omega) hT hn
  | some ps => exact stays_ok s single w hz hT ps hn

end Str
end Go.Proofs.YtddldddehgnobaaDoor
