/-
  The laws on pieces of templates and on where a regular expression ends.
-/
import Derived.Test.YtfnilkhccomemaaDoorLexLawA
namespace Go.Proofs.YtfnilkhccomemaaDoor
namespace Lex
open Go.RowKit
open Str (lenL runeL)

theorem picks_of {w : World} {a : Option Addr} {len cap : Nat} {zs : List Int} (h : (a = none ∧ len = 0 ∧ cap = 0 ∧ zs = []) ∨
    ∃ x, a = some x ∧ len ≤ cap ∧ cap ≤ maxLen ∧ zs.length = cap ∧ (∀ i, i < zs.length → w.cell? (x.add i) = some (.int .i64 (zs.getD i 0))) ∧ ∀ n ∈ zs, (Lit.int .i64 n).wf = true) :
    ∀ k, k < len → ∃ x z, a = some x ∧ w.cell? (x.add k) = some (.int .i64 z) ∧ x.block < w.heap.size := by
  intro k hk
  rcases h with ⟨_, h, _⟩ | ⟨x, ha, hl, _, hz, hc, _⟩
  · omega
  · have h1 := hc k (by omega)
    have h2 := World.block_lt_of_cell? w _ h1
    refine ⟨x, _, ha, h1, ?_⟩
    unfold Addr.add at h2
    split at h2 <;> exact h2

/-! Templates. -/
def temL : List (List UInt8) := [[97], [92, 96], [92, 36, 123], [36, 97], [123], [125], [10], [92, 92], [230, 151, 165], [47, 47]]
theorem tem_back (a b : Int) (y : UInt8) (T : List UInt8) (hy : y.toNat < 128) : tem a b (92 :: y :: T) = tem a b T := by
  obtain ⟨a1, a2, _⟩ := ch_asc 92 (y :: T) (by decide)
  refine loop_go (falls_tem a b) _ ?_
  unfold temS
  rw [a1, a2, (ch_asc y T hy).2.1, if_neg (by decide), if_neg (by decide), if_pos (by decide)]
theorem tem_char (a b : Int) (p T : List UInt8) (h1 : chL p ≠ -1) (h2 : chL p ≠ -2) (h3 : tl p = []) (h4 : chL p ≠ 92) (h5 : chL p ≠ 96) (h6 : pre [36, 123] (p ++ T) = false) : tem a b (p ++ T) = tem a b T := by
  obtain ⟨e1, e2⟩ := ch_app p T h1 h2
  refine loop_go (falls_tem a b) _ ?_
  unfold temS
  rw [e1, e2, h3, if_neg h2, if_neg h1, if_neg h4, if_neg h5, h6, if_neg (by decide)]
  rfl
theorem pre_head {x a b : UInt8} {T : List UInt8} (h : x ≠ a) : pre [a, b] (x :: T) = false := by
  unfold pre
  rw [decide_eq_false_iff_not]
  intro e
  rw [List.length_cons, List.take_succ_cons] at e
  exact h (List.cons.inj e).1
theorem pre_second {x y a b : UInt8} {T : List UInt8} (h : y ≠ b) : pre [a, b] (x :: y :: T) = false := by
  unfold pre
  rw [decide_eq_false_iff_not]
  intro e
  simp only [List.length_cons, List.length_nil, List.take_succ_cons, List.take_zero] at e
  exact h (List.cons.inj (List.cons.inj e).2).1
theorem tem_one (a b : Int) (x : UInt8) (T : List UInt8) (hx : x.toNat < 128) (h4 : x ≠ 92) (h5 : x ≠ 96) (h6 : x ≠ 36) : tem a b (x :: T) = tem a b T := by
  obtain ⟨e1, e2, _⟩ := ch_asc x [] hx
  have hn : ∀ n : Nat, n < 256 → x ≠ UInt8.ofNat n → chL [x] ≠ n := fun n hn hne e => hne (UInt8.toNat_inj.1 (by rw [UInt8.toNat_ofNat_of_lt' (by show n < 256; omega)]; omega))
  exact tem_char a b [x] T (by omega) (by omega) e2 (hn 92 (by decide) h4) (hn 96 (by decide) h5) (pre_head h6)
theorem tem_piece (a b : Int) (p : List UInt8) (hp : p ∈ temL) (T : List UInt8) : tem a b (p ++ T) = tem a b T := by
  simp only [temL, List.mem_cons, List.not_mem_nil, or_false] at hp
  rcases hp with rfl | rfl | rfl | rfl | rfl | rfl | rfl | rfl | rfl | rfl
  · exact tem_one a b 97 T (by decide) (by decide) (by decide) (by decide)
  · exact tem_back a b 96 T (by decide)
  · exact (tem_back a b 36 (123 :: T) (by decide)).trans (tem_one a b 123 T (by decide) (by decide) (by decide) (by decide))
  · exact (tem_char a b [36] (97 :: T) (by decide +kernel) (by decide +kernel) (by decide +kernel) (by decide +kernel) (by decide +kernel) (pre_second (by decide))).trans (tem_one a b 97 T (by decide) (by decide) (by decide) (by decide))
  · exact tem_one a b 123 T (by decide) (by decide) (by decide) (by decide)
  · exact tem_one a b 125 T (by decide) (by decide) (by decide) (by decide)
  · exact tem_one a b 10 T (by decide) (by decide) (by decide) (by decide)
  · exact tem_back a b 92 T (by decide)
  · exact tem_char a b [230, 151, 165] T (by decide +kernel) (by decide +kernel) (by decide +kernel) (by decide +kernel) (by decide +kernel) (pre_head (by decide))
  · exact (tem_one a b 47 (47 :: T) (by decide) (by decide) (by decide) (by decide)).trans (tem_one a b 47 T (by decide) (by decide) (by decide) (by decide))
theorem tem_pieces (a b : Int) (T : List UInt8) : ∀ ps : List (List UInt8), (∀ p ∈ ps, p ∈ temL) → tem a b (ps.flatten ++ T) = tem a b T
  | [], _ => rfl
  | p :: ps, h => by
    rw [List.flatten_cons, List.append_assoc, tem_piece a b p (h p List.mem_cons_self)]
    exact tem_pieces a b T ps (fun q hq => h q (List.mem_cons_of_mem _ hq))

/-! Regular expressions. -/
def regL : List (List UInt8) := [[97], [92, 47], [91, 47, 93], [91, 94, 92, 93, 47, 93], [42], [92, 91], [40], [93], [230, 151, 165]]
/-- From a state to a state over so many characters. -/
def RegTo (e d : Bool) (p : List UInt8) (e' d' : Bool) : Prop := ∀ T, loop regS (999, []) (e, d) (p ++ T) = loop regS (999, []) (e', d') T
theorem RegTo.trans {e d e' d' e'' d'' : Bool} {p q : List UInt8} (h : RegTo e d p e' d') (k : RegTo e' d' q e'' d'') : RegTo e d (p ++ q) e'' d'' := fun T => by rw [List.append_assoc, h, k]
theorem reg_char (e d e' d' : Bool) (p : List UInt8) (h1 : chL p ≠ -1) (h2 : chL p ≠ -2) (h3 : tl p = []) (hS : regS (e, d) p = .inr ((e', d'), [])) : RegTo e d p e' d' := by
  intro T
  obtain ⟨e1, e2⟩ := ch_app p T h1 h2
  refine loop_go falls_reg _ ?_
  unfold regS at hS ⊢
  rw [h3] at hS
  rw [e1, e2, h3, List.nil_append]
  by_cases c1 : chL p = -2
  · exact absurd c1 h2
  rw [if_neg c1] at hS ⊢
  by_cases c2 : chL p = -1 ∨ Uni.endsB (chL p) = true
  · rw [if_pos c2] at hS; cases hS
  rw [if_neg c2] at hS ⊢
  by_cases c3 : (e, d).1 = true
  · rw [if_pos c3] at hS ⊢; rw [(Prod.mk.inj (Sum.inr.inj hS)).1]
  rw [if_neg c3] at hS ⊢
  by_cases c4 : chL p = 92
  · rw [if_pos c4] at hS ⊢; rw [(Prod.mk.inj (Sum.inr.inj hS)).1]
  rw [if_neg c4] at hS ⊢
  by_cases c5 : chL p = 91
  · rw [if_pos c5] at hS ⊢; rw [(Prod.mk.inj (Sum.inr.inj hS)).1]
  rw [if_neg c5] at hS ⊢
  by_cases c6 : chL p = 93
  · rw [if_pos c6] at hS ⊢; rw [(Prod.mk.inj (Sum.inr.inj hS)).1]
  rw [if_neg c6] at hS ⊢
  by_cases c7 : chL p = 47 ∧ (e, d).2 = false
  · rw [if_pos c7] at hS; cases hS
  · rw [if_neg c7] at hS ⊢; rw [(Prod.mk.inj (Sum.inr.inj hS)).1]
theorem reg_one (e d e' d' : Bool) (x : UInt8) (hx : chL [x] ≠ -1 ∧ chL [x] ≠ -2 ∧ tl [x] = []) (hS : regS (e, d) [x] = .inr ((e', d'), [])) : RegTo e d [x] e' d' := reg_char e d e' d' [x] hx.1 hx.2.1 hx.2.2 hS
theorem reg_piece (p : List UInt8) (hp : p ∈ regL) : RegTo false false p false false := by
  simp only [regL, List.mem_cons, List.not_mem_nil, or_false] at hp
  rcases hp with rfl | rfl | rfl | rfl | rfl | rfl | rfl | rfl | rfl
  · exact (reg_one false false false false 97 (by decide +kernel) (by decide +kernel))
  · have h : RegTo false false ([92] ++ [47]) false false := (RegTo.trans (reg_one false false true false 92 (by decide +kernel) (by decide +kernel)) (reg_one true false false false 47 (by decide +kernel) (by decide +kernel)))
    exact h
  · have h : RegTo false false (([91] ++ [47]) ++ [93]) false false := (RegTo.trans (RegTo.trans (reg_one false false false true 91 (by decide +kernel) (by decide +kernel)) (reg_one false true false true 47 (by decide +kernel) (by decide +kernel))) (reg_one false true false false 93 (by decide +kernel) (by decide +kernel)))
    exact h
  · have h : RegTo false false ((((([91] ++ [94]) ++ [92]) ++ [93]) ++ [47]) ++ [93]) false false := (RegTo.trans (RegTo.trans (RegTo.trans (RegTo.trans (RegTo.trans (reg_one false false false true 91 (by decide +kernel) (by decide +kernel)) (reg_one false true false true 94 (by decide +kernel) (by decide +kernel))) (reg_one false true true true 92 (by decide +kernel) (by decide +kernel))) (reg_one true true false true 93 (by decide +kernel) (by decide +kernel))) (reg_one false true false true 47 (by decide +kernel) (by decide +kernel))) (reg_one false true false false 93 (by decide +kernel) (by decide +kernel)))
    exact h
  · exact (reg_one false false false false 42 (by decide +kernel) (by decide +kernel))
  · have h : RegTo false false ([92] ++ [91]) false false := (RegTo.trans (reg_one false false true false 92 (by decide +kernel) (by decide +kernel)) (reg_one true false false false 91 (by decide +kernel) (by decide +kernel)))
    exact h
  · exact (reg_one false false false false 40 (by decide +kernel) (by decide +kernel))
  · exact (reg_one false false false false 93 (by decide +kernel) (by decide +kernel))
  · exact reg_char false false false false [230, 151, 165] (by decide +kernel) (by decide +kernel) (by decide +kernel) (by decide +kernel)
theorem reg_pieces : ∀ ps : List (List UInt8), (∀ p ∈ ps, p ∈ regL) → RegTo false false ps.flatten false false
  | [], _ => fun _ => rfl
  | p :: ps, h => by
    rw [List.flatten_cons]
    exact (reg_piece p (h p List.mem_cons_self)).trans (reg_pieces ps (fun q hq => h q (List.mem_cons_of_mem _ hq)))

/-- What is written so far: k pieces behind a beginning. -/
def Wrote (P : List (List UInt8)) (b : List UInt8) (k : Nat) (S : ByteArray) : Prop := ∃ ps : List (List UInt8), ps.length = k ∧ (∀ p ∈ ps, p ∈ P) ∧ S.data.toList = b ++ ps.flatten
theorem Wrote.start (P : List (List UInt8)) (b : List UInt8) : Wrote P b 0 ⟨b.toArray⟩ := ⟨[], rfl, (fun _ hp => nomatch hp), by simp⟩
theorem Wrote.add {P : List (List UInt8)} {b : List UInt8} {k : Nat} {S : ByteArray} (h : Wrote P b k S) (p : List UInt8) (hp : p ∈ P) : Wrote P b (k + 1) (S ++ ⟨p.toArray⟩) := by
  obtain ⟨ps, h1, h2, h3⟩ := h
  refine ⟨ps ++ [p], by simp [h1], fun q hq => ?_, ?_⟩
  · rcases List.mem_append.1 hq with h' | h'
    · exact h2 q h'
    · rw [List.mem_singleton.1 h']; exact hp
  · rw [List.flatten_append, List.flatten_singleton, ← List.append_assoc, ← h3]; simp
theorem flat_len : ∀ ps : List (List UInt8), (∀ p ∈ ps, p.length ≤ 6) → ps.flatten.length ≤ 6 * ps.length
  | [], _ => Nat.le_refl _
  | p :: ps, h => by
    have h1 := h p List.mem_cons_self
    have h2 := flat_len ps (fun q hq => h q (List.mem_cons_of_mem _ hq))
    rw [List.flatten_cons, List.length_append, List.length_cons]
    omega
theorem Wrote.le {P : List (List UInt8)} {b : List UInt8} {k : Nat} {S : ByteArray} (h : Wrote P b k S) (hP : ∀ p ∈ P, p.length ≤ 6) (hb : b.length ≤ 2) : S.size ≤ 6 * k + 2 := by
  obtain ⟨ps, h1, h2, h3⟩ := h
  have h4 := flat_len ps (fun p hp => hP p (h2 p hp))
  have h5 := congrArg List.length h3
  rw [List.length_append] at h5
  have h6 : S.data.toList.length = S.size := by simp
  omega

/-- What the answers are. -/
theorem tem_all (S : ByteArray) (k : Nat) (h : Wrote temL [] k S) :
    answer (⟨#[125]⟩ ++ S ++ ⟨#[36, 123]⟩) 0 3 = ⟨0, [], 10, (⟨#[125]⟩ ++ S ++ ⟨#[36, 123]⟩ : ByteArray).data.toList, [], false, []⟩ ∧
    answer (⟨#[125]⟩ ++ S ++ ⟨#[96]⟩) 0 3 = ⟨0, [], 9, (⟨#[125]⟩ ++ S ++ ⟨#[96]⟩ : ByteArray).data.toList, [], false, []⟩ ∧
    answer (⟨#[120, 32, 96]⟩ ++ S) 1 1 = failA 505 (96 :: S.data.toList) ∧
    answer (⟨#[96]⟩ ++ S ++ ⟨#[96]⟩) 0 1 = ⟨0, [], 7, (⟨#[96]⟩ ++ S ++ ⟨#[96]⟩ : ByteArray).data.toList, [], false, []⟩ ∧
    answer (⟨#[96]⟩ ++ S ++ ⟨#[36, 123]⟩) 0 2 = ⟨0, [], 8, (⟨#[96]⟩ ++ S ++ ⟨#[36, 123]⟩ : ByteArray).data.toList, [], false, []⟩ := by
  obtain ⟨ps, _, h2, h3⟩ := h
  rw [List.nil_append] at h3
  have hT : ∀ a b T, tem a b (S.data.toList ++ T) = tem a b T := fun a b T => by rw [h3]; exact tem_pieces a b T ps h2
  have t1 : ∀ a b : Int, tem a b [36, 123] = (b, 0, []) := fun a b => rfl
  have t2 : ∀ a b : Int, tem a b [96] = (a, 0, []) := fun a b => rfl
  have t3 : ∀ a b : Int, tem a b [] = (0, 505, []) := fun a b => rfl
  have l1 : ∀ (x : UInt8) (e : ByteArray), (⟨#[x]⟩ ++ S ++ e : ByteArray).data.toList = x :: (S.data.toList ++ e.data.toList) := fun x e => by simp
  have sk : ∀ T : List UInt8, skip (true, false, []) (96 :: T) = ⟨0, false, [], 96 :: T⟩ := fun T => by
    obtain ⟨a1, _, _⟩ := ch_asc 96 T (by decide)
    exact skip_stay _ _ _ _ (by rw [a1]; decide) (by rw [a1]; decide) (by rw [a1]; decide) (opens_no (by rw [a1]; decide) (by rw [a1]; decide))
  have cm : ∀ (x : Bool) (T : List UInt8), commonP x (96 :: T) = templateP 7 8 (96 :: T) := fun x T => by
    obtain ⟨a1, _, _⟩ := ch_asc 96 T (by decide)
    unfold commonP
    rw [a1, if_neg (by decide), if_neg (by decide), if_pos (by decide)]
  refine ⟨?_, ?_, ?_, ?_, ?_⟩
  · rw [answer_zero _ _ (by rw [l1]; simp [goalB, pre]), l1, nextP, gapP, if_pos (Or.inl rfl)]
    show ansP _ (backTo 505 _ (tem 9 10 (S.data.toList ++ [36, 123]))) = _
    rw [hT, t1]; rfl
  · rw [answer_zero _ _ (by rw [l1]; simp [goalB, pre]), l1, nextP, gapP, if_pos (Or.inl rfl)]
    show ansP _ (backTo 505 _ (tem 9 10 (S.data.toList ++ [96]))) = _
    rw [hT, t2]; rfl
  · have l2 : Str.sufL (⟨#[120, 32, 96]⟩ ++ S) 1 = 32 :: 96 :: S.data.toList := by unfold Str.sufL; simp
    have hz : (⟨#[120, 32, 96]⟩ ++ S : ByteArray).size = 3 + S.size := by
      have h := congrArg List.length (show (⟨#[120, 32, 96]⟩ ++ S : ByteArray).data.toList = 120 :: 32 :: 96 :: S.data.toList by simp)
      simp only [List.length_cons, Array.length_toList] at h
      have e : ∀ x : ByteArray, x.data.size = x.size := fun _ => rfl
      rw [e, e] at h
      omega
    rw [answer, if_neg (by rw [hz]; omega), show (1 : Int).toNat = 1 from rfl, l2, if_neg (by rw [show goalB 1 (32 :: 96 :: S.data.toList) = true from rfl]; decide), nextP, gapP, if_neg (by decide)]
    have hs : skip (decide ((1 : Int) = 0), false, []) (32 :: 96 :: S.data.toList) = ⟨0, false, [], 96 :: S.data.toList⟩ := by
      have h1 : skip (decide ((1 : Int) = 0), false, []) (32 :: 96 :: S.data.toList) = skip (false, false, []) (96 :: S.data.toList) := by
        refine loop_go falls_skip _ ?_
        unfold skipS
        rw [(ch_asc 32 _ (by decide)).1, (ch_asc 32 _ (by decide)).2.1, if_neg (by decide), if_neg (by decide), if_pos (by decide)]
      rw [h1]
      obtain ⟨a1, _, _⟩ := ch_asc 96 S.data.toList (by decide)
      exact skip_stay _ _ _ _ (by rw [a1]; decide) (by rw [a1]; decide) (by rw [a1]; decide) (opens_no (by rw [a1]; decide) (by rw [a1]; decide))
    rw [hs]
    show ansP _ (commonP false (96 :: S.data.toList)) = _
    rw [cm]
    show ansP _ (backTo 505 _ (tem 7 8 S.data.toList)) = _
    have h4 := hT 7 8 []
    rw [List.append_nil, t3] at h4
    rw [h4]; rfl
  · rw [answer_zero _ _ rfl, l1, nextP, gapP, if_neg (by decide), sk]
    show ansP _ (commonP false (96 :: (S.data.toList ++ [96]))) = _
    rw [cm]
    show ansP _ (backTo 505 _ (tem 7 8 (S.data.toList ++ [96]))) = _
    rw [hT, t2]; rfl
  · rw [answer_zero _ _ rfl, l1, nextP, gapP, if_neg (by decide), sk]
    show ansP _ (commonP true (96 :: (S.data.toList ++ [36, 123]))) = _
    rw [cm]
    show ansP _ (backTo 505 _ (tem 7 8 (S.data.toList ++ [36, 123]))) = _
    rw [hT, t1]; rfl
theorem reg_all (S : ByteArray) (k : Nat) (h : Wrote regL [47, 120] k S) :
    answer (S ++ ⟨#[10, 47]⟩) 0 2 = failA 506 (S ++ ⟨#[10, 47]⟩ : ByteArray).data.toList ∧
    answer (S ++ ⟨#[47, 103, 49]⟩) 0 2 = ⟨0, [], 6, (S ++ ⟨#[47, 103, 49]⟩ : ByteArray).data.toList, [], false, []⟩ := by
  obtain ⟨ps, _, h2, h3⟩ := h
  have hR : ∀ T, reg (120 :: (ps.flatten ++ T)) = reg T := fun T => by
    have h1 : RegTo false false [120] false false := reg_one false false false false 120 (by decide +kernel) (by decide +kernel)
    exact (h1 (ps.flatten ++ T)).trans (reg_pieces ps h2 T)
  have l1 : ∀ e : ByteArray, (S ++ e : ByteArray).data.toList = 47 :: 120 :: (ps.flatten ++ e.data.toList) := fun e => by
    rw [show (S ++ e : ByteArray).data.toList = S.data.toList ++ e.data.toList by simp, h3]; simp
  have sk : ∀ T : List UInt8, skip (true, false, []) (47 :: 120 :: T) = ⟨0, false, [], 47 :: 120 :: T⟩ := fun T => by
    obtain ⟨a1, _, _⟩ := ch_asc 47 (120 :: T) (by decide)
    refine skip_stay _ _ _ _ (by rw [a1]; decide) (by rw [a1]; decide) (by rw [a1]; decide) ?_
    unfold opensP
    rw [pre_second (by decide), pre_second (by decide), pre_head (by decide)]
    simp
  have cm : ∀ T : List UInt8, commonP true (47 :: T) = regexQ (47 :: T) (reg T) := fun T => by
    obtain ⟨a1, _, _⟩ := ch_asc 47 T (by decide)
    unfold commonP
    rw [a1, if_neg (by decide), if_neg (by decide), if_neg (by decide), if_neg (by decide), if_neg (by decide), if_neg (by decide), if_pos (by decide), if_pos rfl]
    rfl
  refine ⟨?_, ?_⟩
  · rw [answer_zero _ _ rfl, l1, nextP, gapP, if_neg (by decide), sk]
    show ansP _ (commonP true (47 :: 120 :: (ps.flatten ++ [10, 47]))) = _
    rw [cm, hR, show reg [10, 47] = (506, [10, 47]) from rfl]
    rfl
  · rw [answer_zero _ _ rfl, l1, nextP, gapP, if_neg (by decide), sk]
    show ansP _ (commonP true (47 :: 120 :: (ps.flatten ++ [47, 103, 49]))) = _
    rw [cm, hR, show reg [47, 103, 49] = (0, [103, 49]) by decide +kernel, regexQ, if_neg (by decide), if_pos rfl, show parts false [103, 49] = (0, []) by decide +kernel]
    rfl
end Lex
end Go.Proofs.YtfnilkhccomemaaDoor
