/-
  The walk of the law StrChosen.
-/
import Derived.Test.YtddldddehgnobaaDoorStrLawB
namespace Go.Proofs.YtddldddehgnobaaDoor
namespace Str
open Go.RowKit

def pcA : Piece := ([92, 39], 39)
def pcB : Piece := ([92, 34], 34)
def pcC : Piece := ([97], 97)
/-- The three parts that are written. -/
def Three (ps : List Piece) : Prop := ∀ p ∈ ps, p = pcA ∨ p = pcB ∨ p = pcC
theorem three_row (m : List UInt8) : ∀ ps : List Piece, Three ps → Row ps m
  | [], _ => trivial
  | p :: ps, h => by
    have hp := h p (List.mem_cons_self ..)
    refine ⟨?_, ?_, three_row m ps (fun p' hp' => h p' (List.mem_cons_of_mem _ hp'))⟩
    · rcases hp with rfl | rfl | rfl <;> decide +kernel
    · rcases hp with rfl | rfl | rfl
      · exact ⟨fun e => by simp [pcA] at e, fun e => by simp [pcA] at e⟩
      · exact ⟨fun e => by simp [pcB] at e, fun e => by simp [pcB] at e⟩
      · exact ⟨fun e => by simp [pcC] at e, fun e => by simp [pcC] at e⟩
theorem three_free (q : UInt8) (hq : q = 39 ∨ q = 34) (ps : List Piece) (h : Three ps) : Free q ps := by
  intro p hp
  rcases h p hp with rfl | rfl | rfl <;> rcases hq with rfl | rfl <;> simp [pcA, pcB, pcC]
theorem three_snoc {ps : List Piece} (h : Three ps) (p : Piece) (hp : p = pcA ∨ p = pcB ∨ p = pcC) : Three (ps ++ [p]) := by
  intro p' hp'
  rcases List.mem_append.1 hp' with h' | h'
  · exact h p' h'
  · rw [List.mem_singleton.1 h']; exact hp
theorem three_len : ∀ ps : List Piece, Three ps → (bytesP ps).length ≤ 2 * ps.length
  | [], _ => Nat.le_refl _
  | p :: ps, h => by
    have h1 := three_len ps (fun p' hp' => h p' (List.mem_cons_of_mem _ hp'))
    rw [bytesP_cons, List.length_append, List.length_cons]
    rcases h p (List.mem_cons_self ..) with rfl | rfl | rfl <;> simp [pcA, pcB, pcC] <;> omega
theorem sum_le (q : UInt8) : ∀ ps : List Piece, sumIf q ps ≤ ps.length
  | [] => Nat.le_refl _
  | p :: ps => by
    have h1 := sum_le q ps
    have h2 : sumIf q (p :: ps) = oneIf q p.1 + sumIf q ps := rfl
    have h3 : oneIf q p.1 ≤ 1 := by unfold oneIf; split <;> omega
    rw [h2, List.length_cons]; omega

/-- What is written so far. -/
def Chose (k : Nat) (S : ByteArray) (o t : Nat) : Prop := ∃ ps : List Piece, ps.length = k ∧ Three ps ∧ S.data.toList = bytesP ps ∧ o = sumIf 39 ps ∧ t = sumIf 34 ps
theorem Chose.start : Chose 0 ⟨#[]⟩ 0 0 := ⟨[], rfl, (fun _ hp => nomatch hp), rfl, rfl, rfl⟩
theorem Chose.A {k o t : Nat} {S : ByteArray} (h : Chose k S o t) : Chose (k + 1) (S ++ ⟨#[92, 39]⟩) (o + 1) t := by
  obtain ⟨ps, h1, h2, h3, h4, h5⟩ := h
  refine ⟨ps ++ [pcA], by simp [h1], three_snoc h2 _ (Or.inl rfl), by simp [h3, bytesP, pcA], ?_, ?_⟩
  · rw [sumIf_app, ← h4]; rfl
  · rw [sumIf_app, ← h5]; rfl
theorem Chose.B {k o t : Nat} {S : ByteArray} (h : Chose k S o t) : Chose (k + 1) (S ++ ⟨#[92, 34]⟩) o (t + 1) := by
  obtain ⟨ps, h1, h2, h3, h4, h5⟩ := h
  refine ⟨ps ++ [pcB], by simp [h1], three_snoc h2 _ (Or.inr (Or.inl rfl)), by simp [h3, bytesP, pcB], ?_, ?_⟩
  · rw [sumIf_app, ← h4]; rfl
  · rw [sumIf_app, ← h5]; rfl
theorem Chose.C {k o t : Nat} {S : ByteArray} (h : Chose k S o t) : Chose (k + 1) (S ++ ⟨#[97]⟩) o t := by
  obtain ⟨ps, h1, h2, h3, h4, h5⟩ := h
  refine ⟨ps ++ [pcC], by simp [h1], three_snoc h2 _ (Or.inr (Or.inr rfl)), by simp [h3, bytesP, pcC], ?_, ?_⟩
  · rw [sumIf_app, ← h4]; rfl
  · rw [sumIf_app, ← h5]; rfl
theorem Chose.le {k o t : Nat} {S : ByteArray} (h : Chose k S o t) : S.size ≤ 2 * k ∧ o ≤ k ∧ t ≤ k := by
  obtain ⟨ps, h1, h2, h3, h4, h5⟩ := h
  have e1 := three_len ps h2
  have e2 := sum_le 39 ps
  have e3 := sum_le 34 ps
  rw [Lib.size_eq, h3]
  omega
/-- In quotes q, what comes out. -/
theorem Chose.out {k o t : Nat} {S : ByteArray} (h : Chose k S o t) (q : UInt8) (hq : q = 39 ∨ q = 34) (single : Bool) (P : UInt8)
    (hP : P = if single then (if t < o then 34 else 39) else (if o < t then 39 else 34)) :
    codeL (litL (q :: (S.data.toList ++ [q]))) = 0 ∧ ∃ l, quoteL single (q :: (S.data.toList ++ [q])) = P :: l := by
  obtain ⟨ps, h1, h2, h3, h4, h5⟩ := h
  have hl := lit_of q hq ps (three_row _ ps h2) (three_free q hq ps h2)
  rw [← h3] at hl
  refine ⟨(lit_code _).2 ps (by rw [hl]), ?_⟩
  rw [quoteL_of single _ ps (by rw [hl])]
  have hsh := row_shape _ _ (three_row [q] ps h2)
  have c39 : cnt 39 (bytesP ps) = o := by rw [cnt_row (q := 39) (o := 34) (by simp [IsQ]) _ hsh, h4]
  have c34 : cnt 34 (bytesP ps) = t := by rw [cnt_row (q := 34) (o := 39) (by simp [IsQ]) _ hsh, h5]
  have hp : (pick single (bytesP ps)).1 = P := by
    unfold pick
    rw [c39, c34, hP]
    cases single <;> simp <;> split <;> rfl
  rw [hp]
  exact ⟨_, rfl⟩

theorem chose_quote {k o t : Nat} {S : ByteArray} (h : Chose k S o t) (hk : k ≤ 40) (q : UInt8) (hq : q = 39 ∨ q = 34) (single : Bool) (P : UInt8)
    (hP : P = if single then (if t < o then 34 else 39) else (if o < t then 39 else 34)) (W : World) (hT : Tabs W) :
    Calls Tryd.prog 18 #[.string ((⟨#[q]⟩ ++ S) ++ ⟨#[q]⟩), .bool single] W fun e w' => ∃ T : ByteArray, e = .returned (.tuple #[.string T, .int .i64 0]) ∧ (0 : Int) < (T.size : Int) ∧ (∀ h : 0 < T.size, T[0]'h = P) ∧ Below W.heap.size W w' := by
  have hl : ((⟨#[q]⟩ ++ S) ++ ⟨#[q]⟩ : ByteArray).data.toList = q :: (S.data.toList ++ [q]) := by simp
  obtain ⟨h1, l, h2⟩ := h.out q hq single P hP
  have hz : ((⟨#[q]⟩ ++ S) ++ ⟨#[q]⟩ : ByteArray).size ≤ 16777216 := by
    have h3 := h.le.1
    have h4 := Lib.size_eq S
    rw [Lib.size_eq, hl]
    simp only [List.length_cons, List.length_append, List.length_nil]
    omega
  refine (quote_any _ single W hz hT).mono ?_
  rintro e w' ⟨rfl, hb⟩
  rw [hl, h1, h2]
  refine ⟨_, rfl, ?_, fun h => ?_, hb⟩
  · rw [Lib.size_eq]; simp
  · exact ba_at _ 0 P h rfl

set_option maxHeartbeats 4000000 in
set_option maxRecDepth 20000 in
theorem chosen_law (a0 : Option Addr) (len0 cap0 : Nat) (own single : Bool) (w : World) (hp : ∀ k, k < len0 → ∃ x z, a0 = some x ∧ w.cell? (x.add k) = some (.int .i64 z) ∧ x.block < w.heap.size) (hT : Tabs w) :
    Calls Tryd.prog 9 #[.slice a0 len0 cap0, .bool own, .bool single] w fun e w' => e = .returned (.bool true) ∧ Below w.heap.size w w' := by
  have HT := Lib.hid hT
  have HP := Lib.hid hp
  have h2 : 2 ≤ w.heap.size := hT.1
  clear hT hp
  go_enter Tryd.func9, Tryd.ntmps9
  go_wp2_with fail
  refine (awake_any w HT.out).mono ?_
  rintro e w0 ⟨rfl, hb0⟩
  have HB0 := Lib.hid hb0
  clear hb0
  go_wp2_with fail
  go_loopw [7, 8, 9, 10] (fun s o t i wr => ∃ (k o' t' : Nat) (S : ByteArray), k ≤ 40 ∧ k ≤ len0 ∧ s = .string S ∧ o = .int .i64 o' ∧ t = .int .i64 t' ∧ i = .int .i64 k ∧ Chose k S o' t' ∧ Below w.heap.size w wr) (fun _ _ _ i _ => 40 - (intOf i).toNat)
  case atStart => exact ⟨0, 0, 0, ⟨#[]⟩, by omega, by omega, rfl, rfl, rfl, rfl, Chose.start, HB0.out⟩
  case round =>
    obtain ⟨k, o, t, S, hk, hkl, rfl, rfl, rfl, rfl, hch, hbel⟩ := hrel
    have HC := Lib.hid hch
    have HB := Lib.hid hbel
    obtain ⟨hS, ho, ht⟩ := hch.le
    clear hch hbel
    by_cases hlt : k < len0
    · by_cases h40 : k < 40
      · obtain ⟨x, z, rfl, hcell, hx⟩ := HP.out k hlt
        have hcell' : wr.cell? (x.add k) = some (.int .i64 z) := by rw [HB.out.cell (p := x.add k) (by unfold Addr.add; split <;> exact hx)]; exact hcell
        by_cases r0 : (IntKind.u64.wrap z).tmod 3 = 0
        · go_wp2_with fail
          go_roundw
          case rel => exact ⟨k + 1, o + 1, t, _, by omega, by omega, rfl, rfl, rfl, rfl, HC.out.A, HB.out⟩
          case measure => simp [intOf]; omega
        by_cases r1 : (IntKind.u64.wrap z).tmod 3 = 1
        · go_wp2_with fail
          go_roundw
          case rel => exact ⟨k + 1, o, t + 1, _, by omega, by omega, rfl, rfl, rfl, rfl, HC.out.B, HB.out⟩
          case measure => simp [intOf]; omega
        · go_wp2_with fail
          go_roundw
          case rel => exact ⟨k + 1, o, t, _, by omega, by omega, rfl, rfl, rfl, rfl, HC.out.C, HB.out⟩
          case measure => simp [intOf]; omega
      · --EXIT
        rcases Nat.lt_trichotomy o t with h | h | h
        · have c1 : (o : Int) ≤ (t : Int) := by omega
          have c2 : (o : Int) < (t : Int) := by omega
          cases own <;> cases single
          · have HQ := Lib.hid (chose_quote HC.out hk 34 (by decide) false 39 (by simp [h]) wr (HT.out.below HB.out h2))
            clear h
            go_wp2_with fail
            refine HQ.out.mono ?_
            rintro e w1 ⟨T, rfl, hT0, hT1, hb1⟩
            have HB1 := Lib.hid (HB.out.trans (hb1.mono HB.out.size))
            have HT1 := Lib.hid hT1
            clear hT1 hb1
            go_wp2_with fail
            refine (num_any 0 w1).mono ?_
            rintro e w2 ⟨rfl, rfl⟩
            go_wp2_with fail
            go_ret
            exact ⟨by rw [HT1.out]; rfl, HB1.out⟩
          · have HQ := Lib.hid (chose_quote HC.out hk 34 (by decide) true 39 (by simp [show ¬ t < o by omega]) wr (HT.out.below HB.out h2))
            clear h
            go_wp2_with fail
            refine HQ.out.mono ?_
            rintro e w1 ⟨T, rfl, hT0, hT1, hb1⟩
            have HB1 := Lib.hid (HB.out.trans (hb1.mono HB.out.size))
            have HT1 := Lib.hid hT1
            clear hT1 hb1
            go_wp2_with fail
            refine (num_any 0 w1).mono ?_
            rintro e w2 ⟨rfl, rfl⟩
            go_wp2_with fail
            go_ret
            exact ⟨by rw [HT1.out]; rfl, HB1.out⟩
          · have HQ := Lib.hid (chose_quote HC.out hk 39 (by decide) false 39 (by simp [h]) wr (HT.out.below HB.out h2))
            clear h
            go_wp2_with fail
            refine HQ.out.mono ?_
            rintro e w1 ⟨T, rfl, hT0, hT1, hb1⟩
            have HB1 := Lib.hid (HB.out.trans (hb1.mono HB.out.size))
            have HT1 := Lib.hid hT1
            clear hT1 hb1
            go_wp2_with fail
            refine (num_any 0 w1).mono ?_
            rintro e w2 ⟨rfl, rfl⟩
            go_wp2_with fail
            go_ret
            exact ⟨by rw [HT1.out]; rfl, HB1.out⟩
          · have HQ := Lib.hid (chose_quote HC.out hk 39 (by decide) true 39 (by simp [show ¬ t < o by omega]) wr (HT.out.below HB.out h2))
            clear h
            go_wp2_with fail
            refine HQ.out.mono ?_
            rintro e w1 ⟨T, rfl, hT0, hT1, hb1⟩
            have HB1 := Lib.hid (HB.out.trans (hb1.mono HB.out.size))
            have HT1 := Lib.hid hT1
            clear hT1 hb1
            go_wp2_with fail
            refine (num_any 0 w1).mono ?_
            rintro e w2 ⟨rfl, rfl⟩
            go_wp2_with fail
            go_ret
            exact ⟨by rw [HT1.out]; rfl, HB1.out⟩
        · subst h
          have c1 : (o : Int) ≤ (o : Int) := by omega
          have c2 : ¬ (o : Int) < (o : Int) := by omega
          cases own <;> cases single
          · have HQ := Lib.hid (chose_quote HC.out hk 34 (by decide) false 34 (by simp) wr (HT.out.below HB.out h2))
            skip
            go_wp2_with fail
            refine HQ.out.mono ?_
            rintro e w1 ⟨T, rfl, hT0, hT1, hb1⟩
            have HB1 := Lib.hid (HB.out.trans (hb1.mono HB.out.size))
            have HT1 := Lib.hid hT1
            clear hT1 hb1
            go_wp2_with fail
            refine (num_any 0 w1).mono ?_
            rintro e w2 ⟨rfl, rfl⟩
            go_wp2_with fail
            go_ret
            exact ⟨by rw [HT1.out]; rfl, HB1.out⟩
          · have HQ := Lib.hid (chose_quote HC.out hk 34 (by decide) true 39 (by simp) wr (HT.out.below HB.out h2))
            skip
            go_wp2_with fail
            refine HQ.out.mono ?_
            rintro e w1 ⟨T, rfl, hT0, hT1, hb1⟩
            have HB1 := Lib.hid (HB.out.trans (hb1.mono HB.out.size))
            have HT1 := Lib.hid hT1
            clear hT1 hb1
            go_wp2_with fail
            refine (num_any 0 w1).mono ?_
            rintro e w2 ⟨rfl, rfl⟩
            go_wp2_with fail
            go_ret
            exact ⟨by rw [HT1.out]; rfl, HB1.out⟩
          · have HQ := Lib.hid (chose_quote HC.out hk 39 (by decide) false 34 (by simp) wr (HT.out.below HB.out h2))
            skip
            go_wp2_with fail
            refine HQ.out.mono ?_
            rintro e w1 ⟨T, rfl, hT0, hT1, hb1⟩
            have HB1 := Lib.hid (HB.out.trans (hb1.mono HB.out.size))
            have HT1 := Lib.hid hT1
            clear hT1 hb1
            go_wp2_with fail
            refine (num_any 0 w1).mono ?_
            rintro e w2 ⟨rfl, rfl⟩
            go_wp2_with fail
            go_ret
            exact ⟨by rw [HT1.out]; rfl, HB1.out⟩
          · have HQ := Lib.hid (chose_quote HC.out hk 39 (by decide) true 39 (by simp) wr (HT.out.below HB.out h2))
            skip
            go_wp2_with fail
            refine HQ.out.mono ?_
            rintro e w1 ⟨T, rfl, hT0, hT1, hb1⟩
            have HB1 := Lib.hid (HB.out.trans (hb1.mono HB.out.size))
            have HT1 := Lib.hid hT1
            clear hT1 hb1
            go_wp2_with fail
            refine (num_any 0 w1).mono ?_
            rintro e w2 ⟨rfl, rfl⟩
            go_wp2_with fail
            go_ret
            exact ⟨by rw [HT1.out]; rfl, HB1.out⟩
        · have c1 : ¬ (o : Int) ≤ (t : Int) := by omega
          have c2 : ¬ (o : Int) < (t : Int) := by omega
          cases own <;> cases single
          · have HQ := Lib.hid (chose_quote HC.out hk 34 (by decide) false 34 (by simp [show ¬ o < t by omega]) wr (HT.out.below HB.out h2))
            clear h
            go_wp2_with fail
            refine HQ.out.mono ?_
            rintro e w1 ⟨T, rfl, hT0, hT1, hb1⟩
            have HB1 := Lib.hid (HB.out.trans (hb1.mono HB.out.size))
            have HT1 := Lib.hid hT1
            clear hT1 hb1
            go_wp2_with fail
            refine (num_any 0 w1).mono ?_
            rintro e w2 ⟨rfl, rfl⟩
            go_wp2_with fail
            go_ret
            exact ⟨by rw [HT1.out]; rfl, HB1.out⟩
          · have HQ := Lib.hid (chose_quote HC.out hk 34 (by decide) true 34 (by simp [h]) wr (HT.out.below HB.out h2))
            clear h
            go_wp2_with fail
            refine HQ.out.mono ?_
            rintro e w1 ⟨T, rfl, hT0, hT1, hb1⟩
            have HB1 := Lib.hid (HB.out.trans (hb1.mono HB.out.size))
            have HT1 := Lib.hid hT1
            clear hT1 hb1
            go_wp2_with fail
            refine (num_any 0 w1).mono ?_
            rintro e w2 ⟨rfl, rfl⟩
            go_wp2_with fail
            go_ret
            exact ⟨by rw [HT1.out]; rfl, HB1.out⟩
          · have HQ := Lib.hid (chose_quote HC.out hk 39 (by decide) false 34 (by simp [show ¬ o < t by omega]) wr (HT.out.below HB.out h2))
            clear h
            go_wp2_with fail
            refine HQ.out.mono ?_
            rintro e w1 ⟨T, rfl, hT0, hT1, hb1⟩
            have HB1 := Lib.hid (HB.out.trans (hb1.mono HB.out.size))
            have HT1 := Lib.hid hT1
            clear hT1 hb1
            go_wp2_with fail
            refine (num_any 0 w1).mono ?_
            rintro e w2 ⟨rfl, rfl⟩
            go_wp2_with fail
            go_ret
            exact ⟨by rw [HT1.out]; rfl, HB1.out⟩
          · have HQ := Lib.hid (chose_quote HC.out hk 39 (by decide) true 34 (by simp [h]) wr (HT.out.below HB.out h2))
            clear h
            go_wp2_with fail
            refine HQ.out.mono ?_
            rintro e w1 ⟨T, rfl, hT0, hT1, hb1⟩
            have HB1 := Lib.hid (HB.out.trans (hb1.mono HB.out.size))
            have HT1 := Lib.hid hT1
            clear hT1 hb1
            go_wp2_with fail
            refine (num_any 0 w1).mono ?_
            rintro e w2 ⟨rfl, rfl⟩
            go_wp2_with fail
            go_ret
            exact ⟨by rw [HT1.out]; rfl, HB1.out⟩
    · --EXIT2
      rcases Nat.lt_trichotomy o t with h | h | h
      · have c1 : (o : Int) ≤ (t : Int) := by omega
        have c2 : (o : Int) < (t : Int) := by omega
        cases own <;> cases single
        · have HQ := Lib.hid (chose_quote HC.out hk 34 (by decide) false 39 (by simp [h]) wr (HT.out.below HB.out h2))
          clear h
          go_wp2_with fail
          refine HQ.out.mono ?_
          rintro e w1 ⟨T, rfl, hT0, hT1, hb1⟩
          have HB1 := Lib.hid (HB.out.trans (hb1.mono HB.out.size))
          have HT1 := Lib.hid hT1
          clear hT1 hb1
          go_wp2_with fail
          refine (num_any 0 w1).mono ?_
          rintro e w2 ⟨rfl, rfl⟩
          go_wp2_with fail
          go_ret
          exact ⟨by rw [HT1.out]; rfl, HB1.out⟩
        · have HQ := Lib.hid (chose_quote HC.out hk 34 (by decide) true 39 (by simp [show ¬ t < o by omega]) wr (HT.out.below HB.out h2))
          clear h
          go_wp2_with fail
          refine HQ.out.mono ?_
          rintro e w1 ⟨T, rfl, hT0, hT1, hb1⟩
          have HB1 := Lib.hid (HB.out.trans (hb1.mono HB.out.size))
          have HT1 := Lib.hid hT1
          clear hT1 hb1
          go_wp2_with fail
          refine (num_any 0 w1).mono ?_
          rintro e w2 ⟨rfl, rfl⟩
          go_wp2_with fail
          go_ret
          exact ⟨by rw [HT1.out]; rfl, HB1.out⟩
        · have HQ := Lib.hid (chose_quote HC.out hk 39 (by decide) false 39 (by simp [h]) wr (HT.out.below HB.out h2))
          clear h
          go_wp2_with fail
          refine HQ.out.mono ?_
          rintro e w1 ⟨T, rfl, hT0, hT1, hb1⟩
          have HB1 := Lib.hid (HB.out.trans (hb1.mono HB.out.size))
          have HT1 := Lib.hid hT1
          clear hT1 hb1
          go_wp2_with fail
          refine (num_any 0 w1).mono ?_
          rintro e w2 ⟨rfl, rfl⟩
          go_wp2_with fail
          go_ret
          exact ⟨by rw [HT1.out]; rfl, HB1.out⟩
        · have HQ := Lib.hid (chose_quote HC.out hk 39 (by decide) true 39 (by simp [show ¬ t < o by omega]) wr (HT.out.below HB.out h2))
          clear h
          go_wp2_with fail
          refine HQ.out.mono ?_
          rintro e w1 ⟨T, rfl, hT0, hT1, hb1⟩
          have HB1 := Lib.hid (HB.out.trans (hb1.mono HB.out.size))
          have HT1 := Lib.hid hT1
          clear hT1 hb1
          go_wp2_with fail
          refine (num_any 0 w1).mono ?_
          rintro e w2 ⟨rfl, rfl⟩
          go_wp2_with fail
          go_ret
          exact ⟨by rw [HT1.out]; rfl, HB1.out⟩
      · subst h
        have c1 : (o : Int) ≤ (o : Int) := by omega
        have c2 : ¬ (o : Int) < (o : Int) := by omega
        cases own <;> cases single
        · have HQ := Lib.hid (chose_quote HC.out hk 34 (by decide) false 34 (by simp) wr (HT.out.below HB.out h2))
          skip
          go_wp2_with fail
          refine HQ.out.mono ?_
          rintro e w1 ⟨T, rfl, hT0, hT1, hb1⟩
          have HB1 := Lib.hid (HB.out.trans (hb1.mono HB.out.size))
          have HT1 := Lib.hid hT1
          clear hT1 hb1
          go_wp2_with fail
          refine (num_any 0 w1).mono ?_
          rintro e w2 ⟨rfl, rfl⟩
          go_wp2_with fail
          go_ret
          exact ⟨by rw [HT1.out]; rfl, HB1.out⟩
        · have HQ := Lib.hid (chose_quote HC.out hk 34 (by decide) true 39 (by simp) wr (HT.out.below HB.out h2))
          skip
          go_wp2_with fail
          refine HQ.out.mono ?_
          rintro e w1 ⟨T, rfl, hT0, hT1, hb1⟩
          have HB1 := Lib.hid (HB.out.trans (hb1.mono HB.out.size))
          have HT1 := Lib.hid hT1
          clear hT1 hb1
          go_wp2_with fail
          refine (num_any 0 w1).mono ?_
          rintro e w2 ⟨rfl, rfl⟩
          go_wp2_with fail
          go_ret
          exact ⟨by rw [HT1.out]; rfl, HB1.out⟩
        · have HQ := Lib.hid (chose_quote HC.out hk 39 (by decide) false 34 (by simp) wr (HT.out.below HB.out h2))
          skip
          go_wp2_with fail
          refine HQ.out.mono ?_
          rintro e w1 ⟨T, rfl, hT0, hT1, hb1⟩
          have HB1 := Lib.hid (HB.out.trans (hb1.mono HB.out.size))
          have HT1 := Lib.hid hT1
          clear hT1 hb1
          go_wp2_with fail
          refine (num_any 0 w1).mono ?_
          rintro e w2 ⟨rfl, rfl⟩
          go_wp2_with fail
          go_ret
          exact ⟨by rw [HT1.out]; rfl, HB1.out⟩
        · have HQ := Lib.hid (chose_quote HC.out hk 39 (by decide) true 39 (by simp) wr (HT.out.below HB.out h2))
          skip
          go_wp2_with fail
          refine HQ.out.mono ?_
          rintro e w1 ⟨T, rfl, hT0, hT1, hb1⟩
          have HB1 := Lib.hid (HB.out.trans (hb1.mono HB.out.size))
          have HT1 := Lib.hid hT1
          clear hT1 hb1
          go_wp2_with fail
          refine (num_any 0 w1).mono ?_
          rintro e w2 ⟨rfl, rfl⟩
          go_wp2_with fail
          go_ret
          exact ⟨by rw [HT1.out]; rfl, HB1.out⟩
      · have c1 : ¬ (o : Int) ≤ (t : Int) := by omega
        have c2 : ¬ (o : Int) < (t : Int) := by omega
        cases own <;> cases single
        · have HQ := Lib.hid (chose_quote HC.out hk 34 (by decide) false 34 (by simp [show ¬ o < t by omega]) wr (HT.out.below HB.out h2))
          clear h
          go_wp2_with fail
          refine HQ.out.mono ?_
          rintro e w1 ⟨T, rfl, hT0, hT1, hb1⟩
          have HB1 := Lib.hid (HB.out.trans (hb1.mono HB.out.size))
          have HT1 := Lib.hid hT1
          clear hT1 hb1
          go_wp2_with fail
          refine (num_any 0 w1).mono ?_
          rintro e w2 ⟨rfl, rfl⟩
          go_wp2_with fail
          go_ret
          exact ⟨by rw [HT1.out]; rfl, HB1.out⟩
        · have HQ := Lib.hid (chose_quote HC.out hk 34 (by decide) true 34 (by simp [h]) wr (HT.out.below HB.out h2))
          clear h
          go_wp2_with fail
          refine HQ.out.mono ?_
          rintro e w1 ⟨T, rfl, hT0, hT1, hb1⟩
          have HB1 := Lib.hid (HB.out.trans (hb1.mono HB.out.size))
          have HT1 := Lib.hid hT1
          clear hT1 hb1
          go_wp2_with fail
          refine (num_any 0 w1).mono ?_
          rintro e w2 ⟨rfl, rfl⟩
          go_wp2_with fail
          go_ret
          exact ⟨by rw [HT1.out]; rfl, HB1.out⟩
        · have HQ := Lib.hid (chose_quote HC.out hk 39 (by decide) false 34 (by simp [show ¬ o < t by omega]) wr (HT.out.below HB.out h2))
          clear h
          go_wp2_with fail
          refine HQ.out.mono ?_
          rintro e w1 ⟨T, rfl, hT0, hT1, hb1⟩
          have HB1 := Lib.hid (HB.out.trans (hb1.mono HB.out.size))
          have HT1 := Lib.hid hT1
          clear hT1 hb1
          go_wp2_with fail
          refine (num_any 0 w1).mono ?_
          rintro e w2 ⟨rfl, rfl⟩
          go_wp2_with fail
          go_ret
          exact ⟨by rw [HT1.out]; rfl, HB1.out⟩
        · have HQ := Lib.hid (chose_quote HC.out hk 39 (by decide) true 34 (by simp [h]) wr (HT.out.below HB.out h2))
          clear h
          go_wp2_with fail
          refine HQ.out.mono ?_
          rintro e w1 ⟨T, rfl, hT0, hT1, hb1⟩
          have HB1 := Lib.hid (HB.out.trans (hb1.mono HB.out.size))
          have HT1 := Lib.hid hT1
          clear hT1 hb1
          go_wp2_with fail
          refine (num_any 0 w1).mono ?_
          rintro e w2 ⟨rfl, rfl⟩
          go_wp2_with fail
          go_ret
          exact ⟨by rw [HT1.out]; rfl, HB1.out⟩

theorem picks_of {w : World} {a : Option Addr} {len cap : Nat} {zs : List Int} (h : (a = none ∧ len = 0 ∧ cap = 0 ∧ zs = []) ∨
    ∃ x, a = some x ∧ len ≤ cap ∧ cap ≤ maxLen ∧ zs.length = cap ∧ (∀ i, i < zs.length → w.cell? (x.add i) = some (.int .i64 (zs.getD i 0))) ∧ ∀ n ∈ zs, (Lit.int .i64 n).wf = true) :
    ∀ k, k < len → ∃ x z, a = some x ∧ w.cell? (x.add k) = some (.int .i64 z) ∧ x.block < w.heap.size := by
  intro k hk
  rcases h with ⟨_, h, _⟩ | ⟨x, ha, hl, _, hz, hc, _⟩
  · omega
  · have h1 := hc k (by omega)
    have h2 := World.block_lt_of_cell? w _ h1
    refine ⟨x, _, ha, h1, ?_⟩
    unfold Addr.add at h2
    split at h2 <;> exact h2

end Str
end Go.Proofs.YtddldddehgnobaaDoor
