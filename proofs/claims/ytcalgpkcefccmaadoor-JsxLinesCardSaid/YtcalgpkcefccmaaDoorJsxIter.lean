/-
  The iterator over lines: its contract.
-/
import Derived.Test.YtcalgpkcefccmaaDoorJsxLine
import Derived.RangeFuncNested
import Derived.RangeFuncBound
import Derived.RangeFuncCalls
import Derived.RangeFuncLeaves
import Derived.Shelf.Abstract
import Derived.Shelf.RegionOpen
import Derived.WalkKit
import Derived.OwnWalkIn
import Derived.TacticsInMore
import Derived.LoopNIn
import Derived.LoopIn
namespace Go.Proofs.YtcalgpkcefccmaaDoor
namespace Jsx
open Go.RowKit Go.Shelf

attribute [local go_sem] Oper.semAt_some

/-- A line as it is handed out. -/
abbrev LineT := ByteArray × Bool × Bool
def encL (x : LineT) : Array Value := #[.agg #[.string x.1, .bool x.2.1, .bool x.2.2]]
def flagsF (first : Bool) : List (List UInt8) → List LineT
  | [] => []
  | [l] => [(ofL l, first, true)]
  | l :: m :: r => (ofL l, first, false) :: flagsF false (m :: r)

theorem lines_ne (cr : Bool) (cur l : List UInt8) : linesF cr cur l ≠ [] := by
  cases l with
  | nil => simp [linesF]
  | cons c t =>
    rw [linesF]
    split
    · split
      · exact lines_ne false cur t
      · simp
    · split
      · simp
      · exact lines_ne false _ t
termination_by l.length
theorem lines_free : ∀ (a cur t : List UInt8) (cr : Bool), (∀ c ∈ a, endB c = false) → a ≠ [] → linesF cr cur (a ++ t) = linesF false (cur ++ a) t
  | [], _, _, _, _, h => absurd rfl h
  | c :: a, cur, t, cr, hf, _ => by
    have hc := hf c (by simp)
    have h10 : c ≠ 10 := fun e => by rw [e] at hc; cases hc
    have h13 : c ≠ 13 := fun e => by rw [e] at hc; cases hc
    rw [List.cons_append, linesF, if_neg h10, if_neg h13]
    by_cases ha : a = []
    · subst ha; rfl
    · rw [lines_free a _ t false (fun x hx => hf x (by simp [hx])) ha]; simp
theorem lines_all (a : List UInt8) (hf : ∀ c ∈ a, endB c = false) : linesF false [] a = [a] := by
  by_cases ha : a = []
  · subst ha; rfl
  · have := lines_free a [] [] false hf ha
    rw [List.append_nil] at this
    rw [this]; rfl
theorem lines_cr (t : List UInt8) : linesF true [] t = if t.head? = some 10 then linesF false [] t.tail else linesF false [] t := by
  cases t with
  | nil => rfl
  | cons c r =>
    by_cases h : c = 10
    · subst h; rfl
    · rw [if_neg (by simpa using h), linesF, linesF, if_neg h, if_neg h]
/-- What is left behind a line's end. -/
def restF (c : UInt8) (t : List UInt8) : List UInt8 := if c = 13 ∧ t.head? = some 10 then t.tail else t
theorem lines_next (a t : List UInt8) (c : UInt8) (hf : ∀ c ∈ a, endB c = false) (hc : endB c = true) : linesF false [] (a ++ c :: t) = a :: linesF false [] (restF c t) := by
  have hgo : linesF false a (c :: t) = a :: linesF false [] (restF c t) := by
    have hcc : c = 10 ∨ c = 13 := by
      unfold endB at hc
      simpa using hc
    rcases hcc with e | e
    · subst e; rfl
    · subst e
      rw [linesF, if_neg (by decide), if_pos rfl, lines_cr, restF]
      by_cases h : t.head? = some 10
      · rw [if_pos h, if_pos ⟨rfl, h⟩]
      · rw [if_neg h, if_neg (fun x => h x.2)]
  by_cases ha : a = []
  · subst ha; exact hgo
  · rw [lines_free a [] _ false hf ha, List.nil_append]; exact hgo
theorem flags_cons (f : Bool) (a : List UInt8) (m : List (List UInt8)) (h : m ≠ []) : flagsF f (a :: m) = (ofL a, f, false) :: flagsF false m := by
  cases m with
  | nil => exact absurd rfl h
  | cons b r => rfl
theorem flags_len : ∀ (m : List (List UInt8)) (f : Bool), (flagsF f m).length = m.length
  | [], _ => rfl
  | [a], _ => rfl
  | a :: b :: r, f => by rw [flagsF, List.length_cons, flags_len (b :: r) false]; rfl

theorem any_none (l : List UInt8) (h : Lib.indexAny l [10, 13] < 0) : ∀ c ∈ l, endB c = false := by
  induction l with
  | nil => intro c hc; cases hc
  | cons b l ih =>
    rw [Lib.indexAny] at h
    split at h
    · omega
    · rename_i hb
      intro c hc
      rcases List.mem_cons.1 hc with e | e
      · subst e; simpa [endB] using hb
      · refine ih ?_ c e
        split at h
        · rename_i h1; rw [beq_iff_eq.1 h1]; decide
        · have := Lib.indexAny_ge [10, 13] l; omega
theorem any_some (l : List UInt8) (k : Nat) (h : Lib.indexAny l [10, 13] = k) : ∃ (a t : List UInt8) (c : UInt8), l = a ++ c :: t ∧ a.length = k ∧ (∀ x ∈ a, endB x = false) ∧ endB c = true := by
  induction l generalizing k with
  | nil => rw [Lib.indexAny] at h; omega
  | cons b l ih =>
    rw [Lib.indexAny] at h
    split at h
    · rename_i hb
      exact ⟨[], l, b, rfl, by simp; omega, fun x hx => (by cases hx), hb⟩
    · rename_i hb
      split at h
      · omega
      · rename_i h1
        have hge := Lib.indexAny_ge [10, 13] l
        have h1' : Lib.indexAny l [10, 13] ≠ -1 := fun e => h1 (by rw [e]; rfl)
        obtain ⟨m, hm⟩ := Int.eq_ofNat_of_zero_le (show 0 ≤ Lib.indexAny l [10, 13] by omega)
        obtain ⟨a, t, c, e1, e2, e3, e4⟩ := ih m hm
        refine ⟨b :: a, t, c, by rw [e1]; rfl, ?_, fun x hx => ?_, e4⟩
        · rw [hm] at h; simp only [List.length_cons]; omega
        · rcases List.mem_cons.1 hx with e | e
          · subst e; simpa [endB] using hb
          · exact e3 x e

def strLen : Value → Nat
  | .string s => s.size
  | _ => 0
theorem grown_none {w w' : World} (h : Below w.heap.size w w') : w.grownBy w' none := ⟨h.os, h.tape, h.output, h.size, fun k hk _ => h.block k hk⟩

set_option maxHeartbeats 1000000 in
theorem lines_any (s : ByteArray) (w : World) :
    Calls Tryd.prog 33 #[.string s] w fun e w' => e = .returned (.func (.func 47) #[] #[.pointer (some ⟨w.heap.size, 0, none⟩)]) ∧ w' = w.alloc (.cells #[.string s] 9) := by
  go_enter Tryd.func33, Tryd.ntmps33
  go_wp2_with fail
  go_ret
  exact ⟨rfl, rfl⟩

set_option maxRecDepth 100000 in
set_option maxHeartbeats 4000000 in
/-- The iterator. -/
theorem lines1_in (n : Nat) (hn : 1 ≤ n) (l Bn n₀ : Nat) (s : ByteArray) (hs : s.size ≤ 4294967000) (J Jx : List LineT → World → Prop) (W : World) (hJ : AbidesFrom W.heap.size J)
    (hY : ∀ pre x W1, x.1.size ≤ s.size → J pre W1 → pre.length < s.size + 1 → YieldAt Fence.wide (n - 1) Tryd.prog l (encL x) W1 fun e W' =>
      (e = .returned (.bool true) ∧ J (pre ++ [x]) W' ∧ Below n₀ W1 W') ∨ (e = .returned (.bool false) ∧ Jx (pre ++ [x]) W'))
    (hBn : W.cell? ⟨Bn, 0, none⟩ = some (.string s)) (h0 : J [] W) :
    CallsIn Fence.wide n Tryd.prog 47 #[.func (.yield l) #[] #[], .pointer (some ⟨Bn, 0, none⟩)] W fun e W' => (∃ v, e = .returned v) ∧
      ((∃ ys, ys = flagsF true (linesF false [] s.data.toList) ∧ J ys W') ∨ (∃ pre, True ∧ Jx pre W')) := by
  refine callsIn_of_wp Tryd.func47 rfl trivial ?_ rfl
  simp only [Tryd.ntmps47, List.size_toArray, List.length_cons, List.length_nil, Nat.reduceAdd, Nat.reduceSub, Array.replicate_succ, Array.replicate_zero, List.push_toArray, List.append_toArray, List.nil_append, List.cons_append]
  gi_wp2
  gi_loopw [3, 4] (fun r f wr => ∃ (pre : List LineT) (rest : List UInt8) (fst : Bool), r = .string (ofL rest) ∧ f = .bool fst ∧ rest.length + pre.length ≤ s.size ∧ J pre wr ∧ Hid (flagsF true (linesF false [] s.data.toList) = pre ++ flagsF fst (linesF false [] rest)))
    (fun r _ _ => strLen r)
  case atStart =>
    exact ⟨[], s.data.toList, true, by rw [ofL_eq], rfl, by rw [list_size]; simp, h0, Lib.hid rfl⟩
  case round =>
    obtain ⟨pre, rest, fst, rfl, rfl, hlen, hJs, Hs⟩ := hrel
    have HJ := Lib.hid hJs; clear hJs
    gi_wp2
    refine ⟨trivial, ?_⟩
    refine (callsIn_wide.2 (iany_any (ofL rest) _ (by rw [ofL_size]; omega))).mono ?_
    rintro e w2 ⟨rfl, hb2⟩
    rw [ofL_list]
    have HJ2 := Lib.hid (hJ pre wr w2 none HJ.out (grown_none hb2) (fun r e => by cases e))
    clear hb2 HJ
    by_cases hneg : Lib.indexAny rest [10, 13] < 0
    · have hall := lines_all rest (any_none rest hneg)
      have Hf : Hid (flagsF true (linesF false [] s.data.toList) = pre ++ [(ofL rest, fst, true)]) := Lib.hid (by rw [Hs.out, hall]; rfl)
      generalize Lib.indexAny rest [10, 13] = i at *
      obtain ⟨fn, tmps, assign, body, hy, hR⟩ := hY pre (ofL rest, fst, true) w2 (by rw [ofL_size]; omega) HJ2.out (by omega)
      dsimp only [encL] at hy
      clear hall Hs hY hJ
      gi_wp2
      refine hR.mono ?_
      rintro e W3 (⟨rfl, hJ3, hk3⟩ | ⟨rfl, hJx3⟩)
      · gi_wp2
        refine bodyPost_ret (results_none rfl _ _ _) rfl ?_
        exact ⟨⟨_, rfl⟩, .inl ⟨_, Hf.out.symm, hJ3⟩⟩
      · gi_wp2
        refine bodyPost_ret (results_none rfl _ _ _) rfl ?_
        exact ⟨⟨_, rfl⟩, .inr ⟨_, trivial, hJx3⟩⟩
    · obtain ⟨k, hk⟩ := Int.eq_ofNat_of_zero_le (Int.not_lt.1 hneg)
      clear hneg
      rw [hk]
      obtain ⟨a, t, c, e1, e2, e3, e4⟩ := any_some rest k hk
      have hnx := lines_next a t c e3 e4
      have Hf : Hid (flagsF true (linesF false [] s.data.toList) = (pre ++ [(ofL a, fst, false)]) ++ flagsF false (linesF false [] (restF c t))) := Lib.hid (by
        rw [Hs.out, e1, hnx, flags_cons _ _ _ (lines_ne _ _ _)]; simp)
      have hkl : k < rest.length := by rw [e1, List.length_append, List.length_cons]; omega
      have hsz : (ofL rest).size = rest.length := ofL_size rest
      have hcut : (ofL rest).extract 0 k = ofL a := by rw [take_str, ofL_list, e1, ← e2, List.take_left]
      have hcut2 : ((ofL rest).extract k rest.length).data.toList = c :: t := by rw [← hsz, drop_str, ofL_list, ofL_list, e1, ← e2, List.drop_left]
      have hpre : Lib.hasPrefix (c :: t) [13, 10] = decide (c = 13 ∧ t.head? = some 10) := by
        unfold Lib.hasPrefix
        cases t with
        | nil => by_cases hc : c = 13 <;> simp [List.isPrefixOf, hc]
        | cons b q =>
          by_cases hc : c = 13
          · subst hc
            by_cases hb : b = 10
            · subst hb; simp [List.isPrefixOf]
            · have h1 : ((10 : UInt8) == b) = false := beq_eq_false_iff_ne.2 (fun e => hb e.symm)
              simp [List.isPrefixOf, h1, hb]
          · have h1 : ((13 : UInt8) == c) = false := beq_eq_false_iff_ne.2 (fun e => hc e.symm)
            simp [List.isPrefixOf, h1, hc]
      have hrest : ∀ j, j = (if c = 13 ∧ t.head? = some 10 then k + 2 else k + 1) → j ≤ rest.length ∧ (ofL rest).extract j rest.length = ofL (restF c t) ∧ (restF c t).length + j = rest.length := by
        intro j hj
        have hd1 : rest.drop (k + 1) = t := by rw [e1, ← e2, ← List.drop_drop, List.drop_left]; rfl
        have hl1 : rest.length = k + 1 + t.length := by rw [e1, List.length_append, List.length_cons]; omega
        unfold restF
        by_cases hcr : c = 13 ∧ t.head? = some 10
        · rw [if_pos hcr] at hj ⊢
          have ht : t.length = t.tail.length + 1 := by cases t with | nil => cases hcr.2 | cons => simp
          have hd2 : rest.drop (k + 2) = t.tail := by rw [show k + 2 = (k + 1) + 1 from rfl, ← List.drop_drop, hd1, List.drop_one]
          exact ⟨by omega, by rw [← hsz, drop_str, ofL_list, hj, hd2], by omega⟩
        · rw [if_neg hcr] at hj ⊢
          exact ⟨by omega, by rw [← hsz, drop_str, ofL_list, hj, hd1], by omega⟩
      have hrl : (restF c t).length < rest.length := by
        obtain ⟨_, _, h⟩ := hrest _ rfl
        split at h <;> omega
      have Hrest := Lib.hid hrest
      have Hpre := Lib.hid hpre
      have Hcut := Lib.hid hcut
      have Hcut2 := Lib.hid hcut2
      obtain ⟨fn, tmps, assign, body, hy, hR⟩ := hY pre (ofL a, fst, false) w2 (by rw [ofL_size, e2]; omega) HJ2.out (by omega)
      dsimp only [encL] at hy
      clear hk e1 e2 e3 e4 hnx hcut2 hpre hrest Hs hY hJ
      rw [← hcut] at hy
      clear hcut
      gi_wp2
      refine hR.mono ?_
      rintro e W3 (⟨rfl, hJ3, hk3⟩ | ⟨rfl, hJx3⟩)
      · have HJ3 := Lib.hid hJ3
        clear hy hJ3 hk3
        gi_wp2
        refine ⟨trivial, ?_⟩
        refine (callsIn_wide.2 (pref_any _ [13, 10] _)).mono ?_
        rintro e W4 ⟨rfl, rfl⟩
        rw [Hcut2.out, Hpre.out]
        by_cases hcr : c = 13 ∧ t.head? = some 10
        · rw [decide_eq_true hcr]
          obtain ⟨g1, g2, g3⟩ := Hrest.out (k + 1 + 1) (by rw [if_pos hcr])
          have G2 := Lib.hid g2
          clear hcr g2
          gi_wp2
          go_roundw
          case rel => exact ⟨pre ++ [(ofL a, fst, false)], restF c t, false, by rw [G2.out], rfl, by rw [List.length_append]; simp; omega, HJ3.out, Hf⟩
          case measure => rw [G2.out]; simp only [strLen, ofL_size]; exact hrl
        · rw [decide_eq_false hcr]
          obtain ⟨g1, g2, g3⟩ := Hrest.out (k + 1) (by rw [if_neg hcr])
          have G2 := Lib.hid g2
          clear hcr g2
          gi_wp2
          go_roundw
          case rel => exact ⟨pre ++ [(ofL a, fst, false)], restF c t, false, by rw [G2.out], rfl, by rw [List.length_append]; simp; omega, HJ3.out, Hf⟩
          case measure => rw [G2.out]; simp only [strLen, ofL_size]; exact hrl
      · gi_wp2
        refine bodyPost_ret (results_none rfl _ _ _) rfl ?_
        exact ⟨⟨_, rfl⟩, .inr ⟨_, trivial, hJx3⟩⟩

/-! Lines that are not too long: what a loop's body may know. -/
abbrev LineS := { x : LineT // x.1.size ≤ 2097152 }
def encS (x : LineS) : Array Value := encL x.1
def clip (x : LineT) : LineS := if h : x.1.size ≤ 2097152 then ⟨x, h⟩ else ⟨(ByteArray.empty, false, false), by decide⟩
theorem clip_val (x : LineT) (h : x.1.size ≤ 2097152) : (clip x).1 = x := by unfold clip; rw [dif_pos h]
theorem lines_size : ∀ (l : List UInt8) (cr : Bool) (cur : List UInt8), ∀ x ∈ linesF cr cur l, x.length ≤ cur.length + l.length
  | [], _, cur, x, h => by rw [linesF] at h; rw [List.mem_singleton.1 h]; omega
  | c :: t, cr, cur, x, h => by
    rw [linesF] at h
    simp only [List.length_cons]
    split at h
    · split at h
      · have := lines_size t _ _ x h; omega
      · rcases List.mem_cons.1 h with e | e
        · rw [e]; omega
        · have := lines_size t _ _ x e; simp only [List.length_nil] at this; omega
    · split at h
      · rcases List.mem_cons.1 h with e | e
        · rw [e]; omega
        · have := lines_size t _ _ x e; simp only [List.length_nil] at this; omega
      · have := lines_size t _ _ x h; rw [List.length_append, List.length_singleton] at this; omega
theorem flags_mem : ∀ (m : List (List UInt8)) (f : Bool), ∀ x ∈ flagsF f m, ∃ l ∈ m, x.1 = ofL l
  | [], _, x, h => by cases h
  | [a], _, x, h => by rw [flagsF] at h; rw [List.mem_singleton.1 h]; exact ⟨a, by simp, rfl⟩
  | a :: b :: r, _, x, h => by
    rw [flagsF] at h
    rcases List.mem_cons.1 h with e | e
    · rw [e]; exact ⟨a, by simp, rfl⟩
    · obtain ⟨l, hl, hx⟩ := flags_mem (b :: r) false x e
      exact ⟨l, by simp [List.mem_cons.1 hl], hx⟩
/-- The lines of a text. -/
def allS (L : List UInt8) : List LineS := (flagsF true (linesF false [] L)).map clip
theorem allS_val (L : List UInt8) (h : L.length ≤ 2097152) : (allS L).map (·.1) = flagsF true (linesF false [] L) := by
  unfold allS
  rw [List.map_map]
  have : ∀ x ∈ flagsF true (linesF false [] L), ((fun y : LineS => y.1) ∘ clip) x = x := by
    intro x hx
    obtain ⟨l, hl, e⟩ := flags_mem _ _ x hx
    have := lines_size _ _ _ l hl
    exact clip_val x (by rw [e, ofL_size]; simp only [List.length_nil] at this; omega)
  exact (List.map_congr_left this).trans (List.map_id _)

theorem lines_stops (n : Nat) (hn : 1 ≤ n) (Bn n₀ : Nat) (s : ByteArray) (hs : s.size ≤ 2097152) (w : World) (hBn : Bn < w.heap.size) (hc : w.cell? ⟨Bn, 0, none⟩ = some (.string s)) :
    SeqStopsK Fence.wide n Tryd.prog 47 #[.pointer (some ⟨Bn, 0, none⟩)] encS (Below n₀) (fun ys => ys = allS s.data.toList) (fun _ => True) (s.size + 1) w := fun l J Jx W hW hJ hJx hY h0 => by
  refine (lines1_in n hn l Bn n₀ s (by omega) (fun pre W => J (pre.map clip) W) (fun pre W => Jx (pre.map clip) W) W (fun s A B row hs hg hr => hJ _ A B row hs hg hr) ?_ ((hW.cell (p := ⟨Bn, 0, none⟩) hBn).trans hc) h0).mono ?_
  · intro pre x W1 hx hj hl
    obtain ⟨fn, tmps, assign, body, hy, hR⟩ := hY (pre.map clip) (clip x) W1 hj (by simpa using hl)
    unfold encS at hy
    rw [clip_val x (by omega)] at hy
    refine ⟨fn, tmps, assign, body, hy, hR.mono (fun e W' h => ?_)⟩
    rw [List.map_append]; exact h
  · rintro e W' ⟨hv, ⟨ys, e1, hj⟩ | ⟨pre, _, hj⟩⟩
    · exact ⟨hv, .inl ⟨ys.map clip, by rw [e1]; rfl, hj⟩⟩
    · exact ⟨hv, .inr ⟨_, trivial, hj⟩⟩

end Jsx
end Go.Proofs.YtcalgpkcefccmaaDoor
