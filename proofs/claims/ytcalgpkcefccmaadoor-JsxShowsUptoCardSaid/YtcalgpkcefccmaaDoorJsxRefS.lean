/-
  The document's own side: Shown.
-/
import Derived.Test.YtcalgpkcefccmaaDoorJsxSame
import Derived.Test.YtcalgpkcefccmaaDoorJsxShown
import Derived.Test.YtcalgpkcefccmaaDoorJsxRefM
import Derived.Deep.CutRange
import Derived.Deep.DeepCutAuto
import Derived.Deep.CutBlock
namespace Go.Proofs.YtcalgpkcefccmaaDoor
namespace Jsx
open Go.RowKit Go.Maps

/-- Where the lines' loop stands. -/
def LAt (L : List UInt8) (i a : Nat) (ls : List (List UInt8)) : Prop := linesF false [] L = ls ++ linesF false ((L.drop a).take (i - a)) (L.drop i) ∧ a ≤ i ∧ ls.length ≤ i
theorem LAt.step {L : List UInt8} {i a : Nat} {ls : List (List UInt8)} {c : UInt8} {t : List UInt8} (h : LAt L i a ls) (hd : L.drop i = c :: t) (h1 : c ≠ 10) (h2 : c ≠ 13) : LAt L (i + 1) a ls := by
  obtain ⟨e, ha, hl⟩ := h
  have e1 : L.drop (i + 1) = t := by rw [← List.drop_drop, hd]; rfl
  rw [hd, linesF, if_neg h1, if_neg h2] at e
  refine ⟨?_, by omega, by omega⟩
  have hg : (L.drop a).take (i + 1 - a) = (L.drop a).take (i - a) ++ [c] := by
    rw [show i + 1 - a = (i - a) + 1 by omega, List.take_add, List.drop_drop, show a + (i - a) = i by omega, hd]; rfl
  rw [e, hg, e1]
theorem LAt.ten {L : List UInt8} {i a : Nat} {ls : List (List UInt8)} {t : List UInt8} (h : LAt L i a ls) (hd : L.drop i = 10 :: t) : LAt L (i + 1) (i + 1) (ls ++ [(L.drop a).take (i - a)]) := by
  obtain ⟨e, ha, hl⟩ := h
  have e1 : L.drop (i + 1) = t := by rw [← List.drop_drop, hd]; rfl
  rw [hd, linesF, if_pos rfl] at e
  exact ⟨by rw [e, e1]; simp, by omega, by rw [List.length_append]; simp; omega⟩
theorem LAt.cr {L : List UInt8} {i a : Nat} {ls : List (List UInt8)} {t : List UInt8} (h : LAt L i a ls) (hd : L.drop i = 13 :: t) (hn : t.head? ≠ some 10) : LAt L (i + 1) (i + 1) (ls ++ [(L.drop a).take (i - a)]) := by
  obtain ⟨e, ha, hl⟩ := h
  have e1 : L.drop (i + 1) = t := by rw [← List.drop_drop, hd]; rfl
  rw [hd, linesF, if_neg (by decide), if_pos rfl, lines_cr, if_neg hn] at e
  exact ⟨by rw [e, e1]; simp, by omega, by rw [List.length_append]; simp; omega⟩
theorem LAt.crlf {L : List UInt8} {i a : Nat} {ls : List (List UInt8)} {t : List UInt8} (h : LAt L i a ls) (hd : L.drop i = 13 :: 10 :: t) : LAt L (i + 2) (i + 2) (ls ++ [(L.drop a).take (i - a)]) := by
  obtain ⟨e, ha, hl⟩ := h
  have e1 : L.drop (i + 2) = t := by rw [← List.drop_drop, hd]; rfl
  rw [hd, linesF, if_neg (by decide), if_pos rfl, lines_cr, if_pos (show (10 :: t).head? = some 10 from rfl)] at e
  exact ⟨by rw [e, e1]; simp, by omega, by rw [List.length_append]; simp; omega⟩
theorem LAt.done {L : List UInt8} {i a : Nat} {ls : List (List UInt8)} (h : LAt L i a ls) (hi : L.length ≤ i) : linesF false [] L = ls ++ [L.drop a] := by
  obtain ⟨e, ha, hl⟩ := h
  rw [List.drop_eq_nil_of_le hi, linesF, List.take_of_length_le (by rw [List.length_drop]; omega)] at e
  exact e

/-- Where the second loop stands: what k lines have shown. -/
def SAt (m : List (List UInt8)) (k : Nat) (kept : List (List UInt8)) : Prop := lineL true m = kept ++ lineL (decide (k = 0)) (m.drop k) ∧ (∀ l ∈ kept, l ≠ [])
def lineOf (m : List (List UInt8)) (k : Nat) : List UInt8 := oneL (decide (k = 0)) (decide (k + 1 = m.length)) (m.getD k [])
theorem drop_cons' (l : List (List UInt8)) (i : Nat) (h : i < l.length) : l.drop i = l.getD i [] :: l.drop (i + 1) := by
  rw [List.drop_eq_getElem_cons h]
  simp [List.getD, List.getElem?_eq_getElem h]
theorem line_step (m : List (List UInt8)) (k : Nat) (h : k < m.length) : lineL (decide (k = 0)) (m.drop k) = (if lineOf m k = [] then [] else [lineOf m k]) ++ lineL (decide (k + 1 = 0)) (m.drop (k + 1)) := by
  have hd : m.drop k = m.getD k [] :: m.drop (k + 1) := drop_cons' m k h
  have e0 : decide (k + 1 = 0) = false := by simp
  rw [hd, e0]
  unfold lineOf
  by_cases hl : k + 1 = m.length
  · rw [decide_eq_true hl, List.drop_eq_nil_of_le (by omega), lineL, lineL, List.append_nil]
  · rw [decide_eq_false hl]
    have hd2 : m.drop (k + 1) = m.getD (k + 1) [] :: m.drop (k + 1 + 1) := drop_cons' m (k + 1) (by omega)
    rw [hd2, lineL]
    by_cases he : oneL (decide (k = 0)) false (m.getD k []) = []
    · rw [if_pos he, if_pos he]; rfl
    · rw [if_neg he, if_neg he]; rfl
theorem SAt.skip {m : List (List UInt8)} {k : Nat} {kept : List (List UInt8)} (h : SAt m k kept) (hk : k < m.length) (he : lineOf m k = []) : SAt m (k + 1) kept := by
  obtain ⟨e, hn⟩ := h
  rw [line_step m k hk, if_pos he, List.nil_append] at e
  exact ⟨e, hn⟩
theorem SAt.keep {m : List (List UInt8)} {k : Nat} {kept : List (List UInt8)} (h : SAt m k kept) (hk : k < m.length) (he : lineOf m k ≠ []) : SAt m (k + 1) (kept ++ [lineOf m k]) := by
  obtain ⟨e, hn⟩ := h
  rw [line_step m k hk, if_neg he, ← List.append_assoc] at e
  refine ⟨e, fun l hl => ?_⟩
  rcases List.mem_append.1 hl with h1 | h1
  · exact hn l h1
  · rw [List.mem_singleton.1 h1]; exact he
theorem SAt.done {m : List (List UInt8)} {k : Nat} {kept : List (List UInt8)} (h : SAt m k kept) (hk : m.length ≤ k) : lineL true m = kept := by
  obtain ⟨e, _⟩ := h
  rw [List.drop_eq_nil_of_le hk, lineL, List.append_nil] at e
  exact e
theorem lead_cons (c : UInt8) (t : List UInt8) : leadL (c :: t) = if trimB c = true then leadL t else c :: t := by
  unfold leadL
  by_cases h : trimB c = true
  · rw [if_pos h, List.dropWhile_cons_of_pos h]
  · rw [if_neg h, List.dropWhile_cons_of_neg h]
theorem trail_snoc (c : UInt8) (t : List UInt8) : trailL (t ++ [c]) = if trimB c = true then trailL t else t ++ [c] := by
  unfold trailL
  rw [List.reverse_append, List.reverse_singleton, List.singleton_append]
  by_cases h : trimB c = true
  · rw [if_pos h, List.dropWhile_cons_of_pos h]
  · rw [if_neg h, List.dropWhile_cons_of_neg h]; simp
theorem last_byte (t : List UInt8) (c : UInt8) (h : (ofL (t ++ [c])).size - 1 < (ofL (t ++ [c])).size) : (ofL (t ++ [c]))[(ofL (t ++ [c])).size - 1]'h = c := by
  refine get_list _ _ (ofL_list _) _ h c ?_
  rw [ofL_size, List.length_append, List.length_singleton, Nat.add_sub_cancel, List.getElem?_append_right (Nat.le_refl _)]; simp
theorem ofL_append (a b : List UInt8) : ofL (a ++ b) = ofL a ++ ofL b := by
  apply ByteArray.ext
  apply Array.ext'
  simp [ofL]
theorem nil_or_snoc (x : List UInt8) : x = [] ∨ ∃ t c, x = t ++ [c] := by
  rcases List.eq_nil_or_concat x with h | ⟨t, c, h⟩
  · exact .inl h
  · exact .inr ⟨t, c, by rw [h, List.concat_eq_append]⟩

set_option maxRecDepth 100000 in
set_option maxHeartbeats 16000000 in
theorem rshown_any (s : ByteArray) (w : World) (hs : s.size ≤ 2097152) :
    Calls Tryd.prog 17 #[.string s] w fun e w' => e = .returned (.string (ofL (shownF s.data.toList))) ∧ Below w.heap.size w w' := by
  obtain ⟨i0, hi, hz0, hz1, hz2⟩ := info_parts infoS
  generalize hL : s.data.toList = L
  have HL := Lib.hid hL; clear hL
  have hz : L.length = s.size := by rw [← HL.out]; exact list_size s
  have HZ := Lib.hid hz; clear hz
  have Hsh : Hid (shownF L = joinL (lineL true (linesF false [] L))) := Lib.hid rfl
  have Hls : Hid (∀ l ∈ linesF false [] L, l.length ≤ 2097152) := Lib.hid (fun l hl => by have := lines_size L false [] l hl; rw [HZ.out] at this; simp only [List.length_nil] at this; omega)
  go_enter Tryd.func17, Tryd.ntmps17
  go_wp2_with fail
  go_loopw [3, 4, 5] (fun o f i wr => ∃ (k a : Nat) (ls : List (List UInt8)), f = .int .i64 a ∧ i = .int .i64 k ∧ k ≤ s.size ∧ Texts w.heap.size o ls wr ∧ Below w.heap.size w wr ∧ Hid (LAt L k a ls)) (fun _ _ i _ => s.size - (intOf i).toNat)
  case atStart => exact ⟨0, 0, [], rfl, rfl, by omega, World.ownsRow_nil _ _ _ _, Below.refl _ _, Lib.hid ⟨by simp, by omega, by simp⟩⟩
  case round =>
    obtain ⟨k, a, ls, rfl, rfl, hk, ho, hbw, Hs⟩ := hrel
    have HO := Lib.hid ho; clear ho
    have HB := Lib.hid hbw; clear hbw
    have hll : ls.length ≤ k := Hs.out.2.2
    have hak : a ≤ k := Hs.out.2.1
    have Hx : Hid ((s.extract a k).data.toList = (L.drop a).take (k - a)) := Lib.hid (by rw [mid_str, ofL_list, HL.out])
    by_cases hlt : k < s.size
    · have Hd : Hid (L.drop k = s[k] :: L.drop (k + 1)) := Lib.hid (by rw [← HL.out]; exact drop_at s k hlt)
      by_cases h10 : s[k] = 10
      · have Hn := Lib.hid (Hs.out.ten (by rw [Hd.out, h10]))
        have f10 : ((((s[k]'hlt).toNat : Nat) : Int) == 10) = true := by rw [h10]; rfl
        have f13 : ((((s[k]'hlt).toNat : Nat) : Int) == 13) = false := by rw [h10]; rfl
        clear h10
        go_wp2_with (at_builtin; refine wpList_append_own _ rfl _ _ 30 rfl w.heap.size 9 i0 (.string ⟨#[]⟩) 1 16 Tryd.underlying30 hi hz0 hz1 hz2 rfl (by decide) _ ls.length (ls.map textV) rfl (HO.out.alloc _) ⟨wr.heap.size, 0, none⟩ 1 1 [.string _] rfl rfl (cell_one_new _ _ _) (fun x hx => by simp at hx; subst hx; rfl) (by unfold maxLen; omega) (by omega) (by have := HB.out.size; simp; omega) ?_; intro v' w' hown' hgrow' hnil'; have HO' := Lib.hid (text_snoc hown'); have HB' := Lib.hid ((HB.out.alloc HB.out.size _).grown hgrow' (by have := HB.out.size; simp; omega) (fun g hg => (HO.out.lt g hg).1)); clear hown' hgrow' hnil')
        rw [Hx.out] at HO'
        go_roundw
        case rel => exact ⟨k + 1, k + 1, _, by go_num, by go_num, by omega, HO'.out, HB'.out, Hn⟩
        case measure => simp [intOf]; omega
      by_cases h13 : s[k] = 13
      · have f10 : ((((s[k]'hlt).toNat : Nat) : Int) == 10) = false := by rw [h13]; rfl
        have f13 : ((((s[k]'hlt).toNat : Nat) : Int) == 13) = true := by rw [h13]; rfl
        by_cases hlt2 : k + 1 < s.size
        · have Hd2 : Hid (L.drop (k + 1) = s[k + 1] :: L.drop (k + 1 + 1)) := Lib.hid (by rw [← HL.out]; exact drop_at s (k + 1) hlt2)
          by_cases hn10 : s[k + 1] = 10
          · have Hn := Lib.hid (Hs.out.crlf (by rw [Hd.out, h13, Hd2.out, hn10]))
            have f10' : ((((s[k + 1]'hlt2).toNat : Nat) : Int) == 10) = true := by rw [hn10]; rfl
            clear h10 h13 hn10
            go_wp2_with (at_builtin; refine wpList_append_own _ rfl _ _ 30 rfl w.heap.size 9 i0 (.string ⟨#[]⟩) 1 16 Tryd.underlying30 hi hz0 hz1 hz2 rfl (by decide) _ ls.length (ls.map textV) rfl (HO.out.alloc _) ⟨wr.heap.size, 0, none⟩ 1 1 [.string _] rfl rfl (cell_one_new _ _ _) (fun x hx => by simp at hx; subst hx; rfl) (by unfold maxLen; omega) (by omega) (by have := HB.out.size; simp; omega) ?_; intro v' w' hown' hgrow' hnil'; have HO' := Lib.hid (text_snoc hown'); have HB' := Lib.hid ((HB.out.alloc HB.out.size _).grown hgrow' (by have := HB.out.size; simp; omega) (fun g hg => (HO.out.lt g hg).1)); clear hown' hgrow' hnil')
            rw [Hx.out] at HO'
            go_roundw
            case rel => exact ⟨k + 2, k + 2, _, by go_num, by go_num, by omega, HO'.out, HB'.out, Hn⟩
            case measure => simp [intOf]; omega
          · have Hn := Lib.hid (Hs.out.cr (by rw [Hd.out, h13]) (by rw [Hd2.out]; simpa using hn10))
            have f10' : ((((s[k + 1]'hlt2).toNat : Nat) : Int) == 10) = false := beq_eq_false_iff_ne.2 (fun h => hn10 (UInt8.toNat_inj.1 (by show _ = 10; omega)))
            clear h10 h13 hn10
            go_wp2_with (at_builtin; refine wpList_append_own _ rfl _ _ 30 rfl w.heap.size 9 i0 (.string ⟨#[]⟩) 1 16 Tryd.underlying30 hi hz0 hz1 hz2 rfl (by decide) _ ls.length (ls.map textV) rfl (HO.out.alloc _) ⟨wr.heap.size, 0, none⟩ 1 1 [.string _] rfl rfl (cell_one_new _ _ _) (fun x hx => by simp at hx; subst hx; rfl) (by unfold maxLen; omega) (by omega) (by have := HB.out.size; simp; omega) ?_; intro v' w' hown' hgrow' hnil'; have HO' := Lib.hid (text_snoc hown'); have HB' := Lib.hid ((HB.out.alloc HB.out.size _).grown hgrow' (by have := HB.out.size; simp; omega) (fun g hg => (HO.out.lt g hg).1)); clear hown' hgrow' hnil')
            rw [Hx.out] at HO'
            go_roundw
            case rel => exact ⟨k + 1, k + 1, _, by go_num, by go_num, by omega, HO'.out, HB'.out, Hn⟩
            case measure => simp [intOf]; omega
        · have Hn := Lib.hid (Hs.out.cr (by rw [Hd.out, h13]) (by rw [List.drop_eq_nil_of_le (by rw [HZ.out]; omega)]; simp))
          have hno : ¬ ((k : Int) + 1 < (s.size : Int)) := by omega
          clear h10 h13 hlt2
          go_wp2_with (at_builtin; refine wpList_append_own _ rfl _ _ 30 rfl w.heap.size 9 i0 (.string ⟨#[]⟩) 1 16 Tryd.underlying30 hi hz0 hz1 hz2 rfl (by decide) _ ls.length (ls.map textV) rfl (HO.out.alloc _) ⟨wr.heap.size, 0, none⟩ 1 1 [.string _] rfl rfl (cell_one_new _ _ _) (fun x hx => by simp at hx; subst hx; rfl) (by unfold maxLen; omega) (by omega) (by have := HB.out.size; simp; omega) ?_; intro v' w' hown' hgrow' hnil'; have HO' := Lib.hid (text_snoc hown'); have HB' := Lib.hid ((HB.out.alloc HB.out.size _).grown hgrow' (by have := HB.out.size; simp; omega) (fun g hg => (HO.out.lt g hg).1)); clear hown' hgrow' hnil')
          rw [Hx.out] at HO'
          go_roundw
          case rel => exact ⟨k + 1, k + 1, _, by go_num, by go_num, by omega, HO'.out, HB'.out, Hn⟩
          case measure => simp [intOf]; omega
      have Hn := Lib.hid (Hs.out.step Hd.out h10 h13)
      have f10 : ((((s[k]'hlt).toNat : Nat) : Int) == 10) = false := beq_eq_false_iff_ne.2 (fun h => h10 (UInt8.toNat_inj.1 (by show _ = 10; omega)))
      have f13 : ((((s[k]'hlt).toNat : Nat) : Int) == 13) = false := beq_eq_false_iff_ne.2 (fun h => h13 (UInt8.toNat_inj.1 (by show _ = 13; omega)))
      clear h10 h13
      go_wp2_with fail
      go_roundw
      case rel => exact ⟨k + 1, a, ls, rfl, by go_num, by omega, HO.out, HB.out, Hn⟩
      case measure => simp [intOf]; omega
    · have hm0 := Hs.out.done (by rw [HZ.out]; omega)
      have Hm := Lib.hid hm0
      clear hm0
      have Hx2 : Hid ((s.extract a s.size).data.toList = L.drop a) := Lib.hid (by rw [drop_str, ofL_list, HL.out])
      go_wp2_with (at_builtin; refine wpList_append_own _ rfl _ _ 30 rfl w.heap.size 9 i0 (.string ⟨#[]⟩) 1 16 Tryd.underlying30 hi hz0 hz1 hz2 rfl (by decide) _ ls.length (ls.map textV) rfl (HO.out.alloc _) ⟨wr.heap.size, 0, none⟩ 1 1 [.string _] rfl rfl (cell_one_new _ _ _) (fun x hx => by simp at hx; subst hx; rfl) (by unfold maxLen; omega) (by omega) (by have := HB.out.size; simp; omega) ?_; intro v' w' hown' hgrow' hnil'; have HO' := Lib.hid (text_snoc hown'); have HB' := Lib.hid ((HB.out.alloc HB.out.size _).grown hgrow' (by have := HB.out.size; simp; omega) (fun g hg => (HO.out.lt g hg).1)); clear hown' hgrow' hnil')
      rw [Hx2.out] at HO'
      rw [← Hm.out] at HO'
      have Hmne := Lib.hid (lines_ne false [] L)
      generalize linesF false [] L = m at *
      have hmne : m ≠ [] := Hmne.out
      obtain ⟨o2, c2, hv2, hk2⟩ := texts_form HO'.out
      obtain ⟨g, rfl, hc⟩ := hk2 hmne
      subst hv2
      have HC := Lib.hid hc
      have hml : m.length ≤ s.size + 1 := by have := congrArg List.length Hm.out; rw [List.length_append] at this; simp at this; omega
      have hmp : 0 < m.length := List.length_pos_iff.2 hmne
      clear hc hk2 hmne HO HB HO' Hx Hx2 Hmne Hm Hs
      go_loop [6, 7, 8] (fun o f i => ∃ (k : Nat) (kept : List (List UInt8)), o = .string (ofL (joinL kept)) ∧ f = .bool (decide (kept = [])) ∧ i = .int .i64 k ∧ k ≤ m.length ∧ (joinL kept).length ≤ k * 2097153 ∧ Hid (SAt m k kept)) (fun _ _ i => m.length - (intOf i).toNat)
      case atStart => exact ⟨0, [], rfl, rfl, rfl, by omega, by simp [joinL], Lib.hid ⟨rfl, fun l h => (by cases h)⟩⟩
      case round =>
        obtain ⟨k, kept, rfl, rfl, rfl, hk, hjl, Hs⟩ := hrel
        by_cases hlt : k < m.length
        · have e1 := HC.out k hlt
          have hx0 : (m.getD k []).length ≤ 2097152 := by
            refine Hls.out _ ?_
            rw [show m.getD k [] = m[k] by simp [List.getD, hlt]]; exact List.getElem_mem hlt
          have Hlo : Hid (lineOf m k = oneL (decide (k = 0)) (decide (k + 1 = m.length)) (m.getD k [])) := Lib.hid rfl
          unfold textV at e1
          generalize m.getD k [] = x0 at *
          obtain ⟨x1, hx1⟩ : ∃ x1, (if k = 0 then x0 else leadL x0) = x1 := ⟨_, rfl⟩
          obtain ⟨x2, hx2⟩ : ∃ x2, (if k + 1 = m.length then x1 else trailL x1) = x2 := ⟨_, rfl⟩
          have hlo2 : lineOf m k = x2 := by
            rw [Hlo.out, ← hx2, ← hx1]
            unfold oneL
            simp only [decide_eq_true_eq]
          have hl1 : x1.length ≤ 2097152 := by
            rw [← hx1]; split
            · exact hx0
            · exact Nat.le_trans (lead_len x0) hx0
          have hl2 : x2.length ≤ 2097152 := by
            rw [← hx2]; split
            · exact hl1
            · exact Nat.le_trans (trail_len x1) hl1
          have Hx1 := Lib.hid hx1
          have Hx2 := Lib.hid hx2
          have Hlo2 := Lib.hid hlo2
          clear hx1 hx2 hlo2 Hlo
          go_upto_block 4 with fail
          go_cut [9] from 61 to 129 (fun c wx => c = .string (ofL x1) ∧ wx = w')
          case first =>
            go_wp2_with fail
            go_loop [9] (fun c => ∃ x : List UInt8, c = .string (ofL x) ∧ x.length ≤ 2097152 ∧ Hid ((k = 0 → x = x0) ∧ (0 < k → leadL x = leadL x0))) (fun c => strLen c)
            case atStart => exact ⟨x0, rfl, hx0, Lib.hid ⟨fun _ => rfl, fun _ => rfl⟩⟩
            case round =>
              obtain ⟨x, rfl, hxl, Hr⟩ := hrel
              by_cases hk0 : k = 0
              · have Hf : Hid (x = x1) := Lib.hid (by rw [← Hx1.out, if_pos hk0]; exact Hr.out.1 hk0)
                have hkn : ¬ ((k : Int) > 0) := by omega
                clear hk0
                go_wp2_with fail
                go_meet
                exact ⟨by rw [Hf.out], rfl⟩
              · have hkp : 0 < k := by omega
                have Hlx : Hid (leadL x = x1) := Lib.hid (by rw [← Hx1.out, if_neg hk0]; exact Hr.out.2 hkp)
                clear hk0
                cases x with
                | nil =>
                  have Hf : Hid ([] = x1) := Hlx
                  have hz0 : ¬ 0 < (ofL []).size := by simp [ofL_size]
                  have hz1 : (ofL []).size = 0 := rfl
                  go_wp2_with fail
                  go_meet
                  exact ⟨by rw [← Hf.out], rfl⟩
                | cons c t =>
                  have hpos : 0 < (ofL (c :: t)).size := by rw [ofL_size]; simp
                  have hget : ((ofL (c :: t))[0]'hpos) = c := get_list _ _ (ofL_list _) 0 hpos c rfl
                  have hsz : (ofL (c :: t)).size = t.length + 1 := by rw [ofL_size]; rfl
                  have Hcut : Hid ((ofL (c :: t)).extract 1 (ofL (c :: t)).size = ofL t) := Lib.hid (by rw [drop_str, ofL_list]; rfl)
                  have hsm : (ofL (c :: t)).size ≤ 2097153 := by rw [hsz]; simp only [List.length_cons] at hxl; omega
                  have Hsz := Lib.hid hsz
                  clear hsz
                  have hlead := lead_cons c t
                  have hxl' : t.length ≤ 2097152 := by simp only [List.length_cons] at hxl; omega
                  by_cases h32 : c = 32
                  · have f1 : (((((ofL (c :: t))[0]'hpos).toNat : Nat) : Int) == 32) = true := by rw [hget, h32]; rfl
                    have Hn : Hid ((k = 0 → t = x0) ∧ (0 < k → leadL t = leadL x0)) := Lib.hid ⟨fun e => by omega, fun e => by
                      have := Hr.out.2 e
                      rw [hlead, if_pos (by rw [h32]; rfl)] at this; exact this⟩
                    clear hget h32 hlead hxl
                    generalize ofL (c :: t) = u at *
                    go_wp2_with fail
                    go_round
                    case rel => exact ⟨t, by rw [Hcut.out], hxl', Hn⟩
                    case measure => rw [Hcut.out]; simp only [strLen, ofL_size]; have := Hsz.out; omega
                  by_cases h9 : c = 9
                  · have f1 : (((((ofL (c :: t))[0]'hpos).toNat : Nat) : Int) == 32) = false := by rw [hget, h9]; rfl
                    have f2 : (((((ofL (c :: t))[0]'hpos).toNat : Nat) : Int) == 9) = true := by rw [hget, h9]; rfl
                    have Hn : Hid ((k = 0 → t = x0) ∧ (0 < k → leadL t = leadL x0)) := Lib.hid ⟨fun e => by omega, fun e => by
                      have := Hr.out.2 e
                      rw [hlead, if_pos (by rw [h9]; rfl)] at this; exact this⟩
                    clear hget h32 h9 hlead hxl
                    generalize ofL (c :: t) = u at *
                    go_wp2_with fail
                    go_round
                    case rel => exact ⟨t, by rw [Hcut.out], hxl', Hn⟩
                    case measure => rw [Hcut.out]; simp only [strLen, ofL_size]; have := Hsz.out; omega
                  have f1 : (((((ofL (c :: t))[0]'hpos).toNat : Nat) : Int) == 32) = false := by rw [hget]; exact beq_eq_false_iff_ne.2 (fun h => h32 (UInt8.toNat_inj.1 (by show _ = 32; omega)))
                  have f2 : (((((ofL (c :: t))[0]'hpos).toNat : Nat) : Int) == 9) = false := by rw [hget]; exact beq_eq_false_iff_ne.2 (fun h => h9 (UInt8.toNat_inj.1 (by show _ = 9; omega)))
                  have Hf : Hid (ofL (c :: t) = ofL x1) := Lib.hid (by
                    have e := Hlx.out
                    rw [hlead, if_neg (by unfold trimB; simp [h32, h9])] at e
                    rw [e])
                  clear hget h32 h9 hlead hxl Hlx
                  generalize ofL (c :: t) = u at *
                  go_wp2_with fail
                  go_meet
                  exact ⟨by rw [Hf.out], rfl⟩
          case rest =>
            obtain ⟨rfl, rfl⟩ := hcut
            go_upto_block 6 with fail
            go_cut [9] from 61 to 129 (fun c wx => c = .string (ofL x2) ∧ wx = wc)
            case first =>
              go_wp2_with fail
              go_loop [9] (fun c => ∃ x : List UInt8, c = .string (ofL x) ∧ x.length ≤ 2097152 ∧ Hid ((k + 1 = m.length → x = x1) ∧ (k + 1 < m.length → trailL x = trailL x1))) (fun c => strLen c)
              case atStart => exact ⟨x1, rfl, hl1, Lib.hid ⟨fun _ => rfl, fun _ => rfl⟩⟩
              case round =>
                obtain ⟨x, rfl, hxl, Hr⟩ := hrel
                by_cases hk0 : k + 1 = m.length
                · have Hf : Hid (x = x2) := Lib.hid (by rw [← Hx2.out, if_pos hk0]; exact Hr.out.1 hk0)
                  have hkn : ¬ ((k : Int) < (m.length : Int) - 1) := by omega
                  clear hk0
                  go_wp2_with fail
                  go_meet
                  exact ⟨by rw [Hf.out], rfl⟩
                · have hkp : k + 1 < m.length := by omega
                  have Hlx : Hid (trailL x = x2) := Lib.hid (by rw [← Hx2.out, if_neg hk0]; exact Hr.out.2 hkp)
                  have hkq : (k : Int) < (m.length : Int) - 1 := by omega
                  clear hk0
                  rcases nil_or_snoc x with rfl | ⟨t, c, rfl⟩
                  · have Hf : Hid ([] = x2) := Hlx
                    have hz0 : ¬ 0 < (ofL []).size := by simp [ofL_size]
                    have hz1 : (ofL []).size = 0 := rfl
                    go_wp2_with fail
                    go_meet
                    exact ⟨by rw [← Hf.out], rfl⟩
                  · have hsz : (ofL (t ++ [c])).size = t.length + 1 := by rw [ofL_size]; simp
                    have hpos : 0 < (ofL (t ++ [c])).size := by omega
                    have hlast' : (ofL (t ++ [c])).size - 1 < (ofL (t ++ [c])).size := by omega
                    have hget' : ((ofL (t ++ [c]))[(ofL (t ++ [c])).size - 1]'hlast') = c := last_byte t c hlast'
                    have Hcut : Hid ((ofL (t ++ [c])).extract 0 ((ofL (t ++ [c])).size - 1) = ofL t) := Lib.hid (by rw [take_str, ofL_list, hsz, Nat.add_sub_cancel, List.take_left])
                    have hsm : (ofL (t ++ [c])).size ≤ 2097153 := by rw [hsz]; rw [List.length_append] at hxl; simp at hxl; omega
                    have Hsz := Lib.hid hsz
                    have htrail := trail_snoc c t
                    have hxl' : t.length ≤ 2097152 := by rw [List.length_append] at hxl; simp at hxl; omega
                    clear hsz
                    by_cases h32 : c = 32
                    · have f1 : (((((ofL (t ++ [c]))[(ofL (t ++ [c])).size - 1]'hlast').toNat : Nat) : Int) == 32) = true := by rw [hget', h32]; rfl
                      have Hn : Hid ((k + 1 = m.length → t = x1) ∧ (k + 1 < m.length → trailL t = trailL x1)) := Lib.hid ⟨fun e => by omega, fun e => by
                        have := Hr.out.2 e
                        rw [htrail, if_pos (by rw [h32]; rfl)] at this; exact this⟩
                      clear hget' h32 htrail hxl Hlx Hr
                      generalize ofL (t ++ [c]) = u at *
                      go_wp2_with fail
                      go_round
                      case rel => exact ⟨t, by rw [Hcut.out], hxl', Hn⟩
                      case measure => rw [Hcut.out]; simp only [strLen, ofL_size]; have := Hsz.out; omega
                    by_cases h9 : c = 9
                    · have f1 : (((((ofL (t ++ [c]))[(ofL (t ++ [c])).size - 1]'hlast').toNat : Nat) : Int) == 32) = false := by rw [hget', h9]; rfl
                      have f2 : (((((ofL (t ++ [c]))[(ofL (t ++ [c])).size - 1]'hlast').toNat : Nat) : Int) == 9) = true := by rw [hget', h9]; rfl
                      have Hn : Hid ((k + 1 = m.length → t = x1) ∧ (k + 1 < m.length → trailL t = trailL x1)) := Lib.hid ⟨fun e => by omega, fun e => by
                        have := Hr.out.2 e
                        rw [htrail, if_pos (by rw [h9]; rfl)] at this; exact this⟩
                      clear hget' h32 h9 htrail hxl Hlx Hr
                      generalize ofL (t ++ [c]) = u at *
                      go_wp2_with fail
                      go_round
                      case rel => exact ⟨t, by rw [Hcut.out], hxl', Hn⟩
                      case measure => rw [Hcut.out]; simp only [strLen, ofL_size]; have := Hsz.out; omega
                    have f1 : (((((ofL (t ++ [c]))[(ofL (t ++ [c])).size - 1]'hlast').toNat : Nat) : Int) == 32) = false := by rw [hget']; exact beq_eq_false_iff_ne.2 (fun h => h32 (UInt8.toNat_inj.1 (by show _ = 32; omega)))
                    have f2 : (((((ofL (t ++ [c]))[(ofL (t ++ [c])).size - 1]'hlast').toNat : Nat) : Int) == 9) = false := by rw [hget']; exact beq_eq_false_iff_ne.2 (fun h => h9 (UInt8.toNat_inj.1 (by show _ = 9; omega)))
                    have Hf : Hid (ofL (t ++ [c]) = ofL x2) := Lib.hid (by
                      have e := Hlx.out
                      rw [htrail, if_neg (by unfold trimB; simp [h32, h9])] at e
                      rw [e])
                    clear hget' h32 h9 htrail hxl Hlx Hr
                    generalize ofL (t ++ [c]) = u at *
                    go_wp2_with fail
                    go_meet
                    exact ⟨by rw [Hf.out], rfl⟩
            case rest =>
              obtain ⟨rfl, rfl⟩ := hcut
              have hemp := emp_iff (ofL x2) _ (ofL_list _)
              have hxs := ofL_size x2
              have Hxl := Lib.hid (ofL_list x2)
              have hkm : k * 2097153 ≤ 2097153 * 2097153 := Nat.mul_le_mul_right _ (by omega)
              have Hjs := Lib.hid hjl
              have hos : (ofL (joinL kept)).size ≤ 4398048608256 := by rw [ofL_size]; omega
              have hxs2 : (ofL x2).size ≤ 2097152 := by rw [ofL_size]; exact hl2
              clear hkm hjl hxs
              by_cases he : x2 = []
              · have Hn := Lib.hid (Hs.out.skip hlt (by rw [Hlo2.out]; exact he))
                have hemp' : (ofL x2).toList.isEmpty = true := by rw [hemp, he]; rfl
                have Hl0 : Hid ((joinL kept).length ≤ (k + 1) * 2097153) := Lib.hid (Nat.le_trans Hjs.out (Nat.mul_le_mul_right _ (Nat.le_succ k)))
                clear hemp he
                generalize ofL x2 = u2 at *
                go_wp2_with fail
                go_round
                case rel => exact ⟨k + 1, kept, rfl, rfl, by go_num, by omega, Hl0.out, Hn⟩
                case measure => simp [intOf]; omega
              · have Hn : Hid (SAt m (k + 1) (kept ++ [x2])) := Lib.hid (by rw [← Hlo2.out]; exact Hs.out.keep hlt (by rw [Hlo2.out]; exact he))
                have hemp' : (ofL x2).toList.isEmpty = false := by rw [hemp]; cases hq : x2 with | nil => exact absurd hq he | cons => rfl
                clear hemp he
                have Hln : Hid ((joinL (kept ++ [x2])).length ≤ (k + 1) * 2097153) := Lib.hid (by
                  have h1 := Hjs.out
                  rw [join_snoc, Nat.succ_mul]
                  split
                  · omega
                  · rw [List.length_append, List.length_cons]; omega)
                have hdf : decide (kept ++ [x2] = []) = false := by simp
                have Hdf := Lib.hid hdf
                clear hdf
                by_cases hkn : kept = []
                · have Hout : Hid (ofL (joinL kept) ++ ofL x2 = ofL (joinL (kept ++ [x2]))) := Lib.hid (by rw [← ofL_append, join_snoc, if_pos hkn, hkn]; rfl)
                  have hdk : decide (kept = []) = true := decide_eq_true hkn
                  rw [hdk]
                  clear hdk hkn
                  generalize ofL x2 = u2 at *
                  generalize ofL (joinL kept) = oj at *
                  go_wp2_with fail
                  go_round
                  case rel => exact ⟨k + 1, kept ++ [x2], by rw [Hout.out], by rw [Hdf.out], by go_num, by omega, Hln.out, Hn⟩
                  case measure => simp [intOf]; omega
                · have Hout : Hid ((ofL (joinL kept) ++ ⟨#[32]⟩) ++ ofL x2 = ofL (joinL (kept ++ [x2]))) := Lib.hid (by
                    have e32 : ofL [32] = ⟨#[32]⟩ := rfl
                    rw [← e32, ← ofL_append, ← ofL_append, join_snoc, if_neg hkn, List.append_assoc, List.singleton_append])
                  have hdk : decide (kept = []) = false := decide_eq_false hkn
                  rw [hdk]
                  clear hdk hkn
                  generalize ofL x2 = u2 at *
                  generalize ofL (joinL kept) = oj at *
                  go_wp2_with fail
                  go_round
                  case rel => exact ⟨k + 1, kept ++ [x2], by rw [Hout.out], by rw [Hdf.out], by go_num, by omega, Hln.out, Hn⟩
                  case measure => simp [intOf]; omega
        · have Hd := Lib.hid (Hs.out.done (by omega))
          go_wp2_with fail
          go_ret
          exact ⟨ret_str (by rw [Hsh.out, Hd.out]), HB'.out⟩

end Jsx
end Go.Proofs.YtcalgpkcefccmaaDoor
