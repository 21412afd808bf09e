/-
  The words of a text: the document's side.
-/
import Derived.Test.YtcalgpkcefccmaaDoorJsxWords
import Derived.Maps.AppendAt
namespace Go.Proofs.YtcalgpkcefccmaaDoor
namespace Jsx
open Go.RowKit Go.Maps

theorem infoS : (Tryd.prog.info? 9).map (fun i => (i.zero, i.size, i.bytes)) = some (some (.string ⟨#[]⟩), 1, 16) := by kernel_rfl
theorem text_snoc {w : World} {B : Nat} {v : Value} {ws : List (List UInt8)} {s : ByteArray} (h : w.ownsRow B 9 1 v (ws.length + 1) (ws.map textV ++ [.string s])) : Texts B v (ws ++ [s.data.toList]) w := by
  unfold Texts
  rw [List.length_append, List.length_singleton, List.map_append, List.map_cons, List.map_nil, show textV s.data.toList = .string s by unfold textV; rw [ofL_eq]]
  exact h
/-- Where the words' loop stands. -/
def WAt (L : List UInt8) (i : Nat) (st : Option Nat) (ws : List (List UInt8)) : Prop := wordsF [] L = ws ++ wordsF (openL L i st) (L.drop i) ∧ (∀ a, st = some a → a < i) ∧ ws.length ≤ i
def WEnd (L : List UInt8) (st : Option Nat) (ws : List (List UInt8)) : Prop := wordsF [] L = ws ∧ st = none
def fromV : Option Nat → Int
  | some a => a
  | none => -1
theorem open_ne (L : List UInt8) (i a : Nat) (h : a < i) (hi : i ≤ L.length) : openL L i (some a) ≠ [] := by
  intro e
  have := congrArg List.length e
  simp only [openL, List.length_take, List.length_drop, List.length_nil] at this
  omega
theorem WAt.gap {L : List UInt8} {i : Nat} {ws : List (List UInt8)} {c : UInt8} {t : List UInt8} (h : WAt L i none ws) (hd : L.drop i = c :: t) (hg : gapB c = true) : WAt L (i + 1) none ws := by
  obtain ⟨h1, h2, h3⟩ := h
  have e : L.drop (i + 1) = t := by rw [← List.drop_drop, hd]; rfl
  rw [hd, wordsF, if_pos hg, show openL L i none = [] from rfl, if_pos rfl] at h1
  exact ⟨by rw [h1, e]; rfl, fun a h => (by cases h), by omega⟩
theorem WAt.word {L : List UInt8} {i a : Nat} {ws : List (List UInt8)} {c : UInt8} {t : List UInt8} (h : WAt L i (some a) ws) (hi : i ≤ L.length) (hd : L.drop i = c :: t) (hg : gapB c = true) : WAt L (i + 1) none (ws ++ [openL L i (some a)]) := by
  obtain ⟨h1, h2, h3⟩ := h
  have ha := h2 a rfl
  have e : L.drop (i + 1) = t := by rw [← List.drop_drop, hd]; rfl
  rw [hd, wordsF, if_pos hg, if_neg (open_ne L i a ha hi)] at h1
  exact ⟨by rw [h1, e, List.append_assoc]; rfl, fun a h => (by cases h), by rw [List.length_append]; simp; omega⟩
theorem WAt.go {L : List UInt8} {i : Nat} {st : Option Nat} {ws : List (List UInt8)} {c : UInt8} {t : List UInt8} (h : WAt L i st ws) (hd : L.drop i = c :: t) (hg : gapB c = false) : WAt L (i + 1) (some (st.getD i)) ws := by
  obtain ⟨h1, h2, h3⟩ := h
  have e : L.drop (i + 1) = t := by rw [← List.drop_drop, hd]; rfl
  rw [hd, wordsF, if_neg (by rw [hg]; simp)] at h1
  have hgrow := openL_grow L i 1 st h2
  rw [hd, List.take_succ_cons, List.take_zero] at hgrow
  refine ⟨by rw [h1, e, ← hgrow], fun a h => ?_, by omega⟩
  cases st with
  | none => simp at h; omega
  | some b => simp at h; have := h2 b rfl; omega
theorem WAt.last {L : List UInt8} {i : Nat} {ws : List (List UInt8)} (h : WAt L i none ws) (hi : L.length ≤ i) : WEnd L none ws := by
  obtain ⟨h1, _, _⟩ := h
  rw [List.drop_eq_nil_of_le hi, wordsF, show openL L i none = [] from rfl, if_pos rfl, List.append_nil] at h1
  exact ⟨h1, rfl⟩
theorem WAt.lastWord {L : List UInt8} {i a : Nat} {ws : List (List UInt8)} (h : WAt L i (some a) ws) (hi : i = L.length) : WEnd L none (ws ++ [openL L i (some a)]) := by
  obtain ⟨h1, h2, _⟩ := h
  rw [List.drop_eq_nil_of_le (by omega), wordsF, if_neg (open_ne L i a (h2 a rfl) (by omega))] at h1
  exact ⟨h1, rfl⟩
theorem ret_val {a b : Value} (h : a = b) : Ending.returned a = .returned b := by rw [h]

set_option maxRecDepth 20000 in
set_option maxHeartbeats 8000000 in
theorem rwords_any (s : ByteArray) (w : World) (hs : s.size ≤ 4294967296) :
    Calls Tryd.prog 14 #[.string s] w fun e w' => ∃ v, e = .returned v ∧ Texts w.heap.size v (wordsF [] s.data.toList) w' ∧ Below w.heap.size w w' := by
  obtain ⟨i0, hi, hz0, hz1, hz2⟩ := info_parts infoS
  generalize hL : s.data.toList = L
  have HL := Lib.hid hL; clear hL
  have hz : L.length = s.size := by rw [← HL.out]; exact list_size s
  have HZ := Lib.hid hz; clear hz
  go_enter Tryd.func14, Tryd.ntmps14
  go_wp2_with fail
  go_loopw [3, 4, 5] (fun o f i wr => ∃ (k : Nat) (st : Option Nat) (ws : List (List UInt8)), f = .int .i64 (fromV st) ∧ i = .int .i64 k ∧ Texts w.heap.size o ws wr ∧ Below w.heap.size w wr ∧ ((k ≤ s.size ∧ Hid (WAt L k st ws)) ∨ (k = s.size + 1 ∧ Hid (WEnd L st ws)))) (fun _ _ i _ => s.size + 1 - (intOf i).toNat)
  case atStart => exact ⟨0, none, [], rfl, rfl, World.ownsRow_nil _ _ _ _, Below.refl _ _, .inl ⟨by omega, Lib.hid ⟨rfl, fun a h => (by cases h), by simp⟩⟩⟩
  case round =>
    obtain ⟨k, st, ws, rfl, rfl, ho, hbw, hcase⟩ := hrel
    have HO := Lib.hid ho; clear ho
    have HB := Lib.hid hbw; clear hbw
    rcases hcase with ⟨hk, Hs⟩ | ⟨hk, Hs⟩
    · have hwl : ws.length ≤ k := Hs.out.2.2
      by_cases hlt : k < s.size
      · have hne : ((k : Int) == (s.size : Int)) = false := beq_eq_false_iff_ne.2 (by omega)
        have Hd : Hid (L.drop k = s[k] :: L.drop (k + 1)) := Lib.hid (by rw [← HL.out]; exact drop_at s k hlt)
        have hkL : k ≤ L.length := by rw [HZ.out]; omega
        by_cases h32 : s[k] = 32
        · have hc := h32
          have hg : gapB (s[k]'hlt) = true := by rw [hc]; rfl
          have f32 : ((((s[k]'hlt).toNat : Nat) : Int) == 32) = true := by rw [hc]; rfl
          clear hc h32
          cases st with
          | none =>
            have hfv : fromV none = -1 := rfl
            rw [hfv]
            have Hn := Lib.hid (Hs.out.gap Hd.out hg)
            clear hg hfv
            go_wp2_with fail
            go_roundw
            case rel => exact ⟨k + 1, none, ws, rfl, by go_num, HO.out, HB.out, .inl ⟨by omega, Hn⟩⟩
            case measure => simp [intOf]; omega
          | some a =>
            have hfv : fromV (some a) = (a : Int) := rfl
            rw [hfv]
            have Hn := Lib.hid (Hs.out.word hkL Hd.out hg)
            have hak : a < k := Hs.out.2.1 a rfl
            have Hx : Hid ((s.extract a k).data.toList = openL L k (some a)) := Lib.hid (by rw [mid_str, ofL_list, HL.out]; rfl)
            clear hg hfv
            go_wp2_with (at_builtin; refine wpList_append_own _ rfl _ _ 30 rfl w.heap.size 9 i0 (.string ⟨#[]⟩) 1 16 Tryd.underlying30 hi hz0 hz1 hz2 rfl (by decide) _ ws.length (ws.map textV) rfl (HO.out.alloc _) ⟨wr.heap.size, 0, none⟩ 1 1 [.string _] rfl rfl (cell_one_new _ _ _) (fun x hx => by simp at hx; subst hx; rfl) (by unfold maxLen; omega) (by omega) (by have := HB.out.size; simp; omega) ?_; intro v' w' hown' hgrow' hnil'; have HO' := Lib.hid (text_snoc hown'); have HB' := Lib.hid ((HB.out.alloc HB.out.size _).grown hgrow' (by have := HB.out.size; simp; omega) (fun g hg => (HO.out.lt g hg).1)); clear hown' hgrow' hnil')
            rw [Hx.out] at HO'
            go_roundw
            case rel => exact ⟨k + 1, none, ws ++ [openL L k (some a)], rfl, by go_num, HO'.out, HB'.out, .inl ⟨by omega, Hn⟩⟩
            case measure => simp [intOf]; omega
        by_cases h9 : s[k] = 9
        · have hc := h9
          have hg : gapB (s[k]'hlt) = true := by rw [hc]; rfl
          have f32 : ((((s[k]'hlt).toNat : Nat) : Int) == 32) = false := by rw [hc]; rfl
          have f9 : ((((s[k]'hlt).toNat : Nat) : Int) == 9) = true := by rw [hc]; rfl
          clear hc h9
          cases st with
          | none =>
            have hfv : fromV none = -1 := rfl
            rw [hfv]
            have Hn := Lib.hid (Hs.out.gap Hd.out hg)
            clear hg hfv
            go_wp2_with fail
            go_roundw
            case rel => exact ⟨k + 1, none, ws, rfl, by go_num, HO.out, HB.out, .inl ⟨by omega, Hn⟩⟩
            case measure => simp [intOf]; omega
          | some a =>
            have hfv : fromV (some a) = (a : Int) := rfl
            rw [hfv]
            have Hn := Lib.hid (Hs.out.word hkL Hd.out hg)
            have hak : a < k := Hs.out.2.1 a rfl
            have Hx : Hid ((s.extract a k).data.toList = openL L k (some a)) := Lib.hid (by rw [mid_str, ofL_list, HL.out]; rfl)
            clear hg hfv
            go_wp2_with (at_builtin; refine wpList_append_own _ rfl _ _ 30 rfl w.heap.size 9 i0 (.string ⟨#[]⟩) 1 16 Tryd.underlying30 hi hz0 hz1 hz2 rfl (by decide) _ ws.length (ws.map textV) rfl (HO.out.alloc _) ⟨wr.heap.size, 0, none⟩ 1 1 [.string _] rfl rfl (cell_one_new _ _ _) (fun x hx => by simp at hx; subst hx; rfl) (by unfold maxLen; omega) (by omega) (by have := HB.out.size; simp; omega) ?_; intro v' w' hown' hgrow' hnil'; have HO' := Lib.hid (text_snoc hown'); have HB' := Lib.hid ((HB.out.alloc HB.out.size _).grown hgrow' (by have := HB.out.size; simp; omega) (fun g hg => (HO.out.lt g hg).1)); clear hown' hgrow' hnil')
            rw [Hx.out] at HO'
            go_roundw
            case rel => exact ⟨k + 1, none, ws ++ [openL L k (some a)], rfl, by go_num, HO'.out, HB'.out, .inl ⟨by omega, Hn⟩⟩
            case measure => simp [intOf]; omega
        by_cases h10 : s[k] = 10
        · have hc := h10
          have hg : gapB (s[k]'hlt) = true := by rw [hc]; rfl
          have f32 : ((((s[k]'hlt).toNat : Nat) : Int) == 32) = false := by rw [hc]; rfl
          have f9 : ((((s[k]'hlt).toNat : Nat) : Int) == 9) = false := by rw [hc]; rfl
          have f10 : ((((s[k]'hlt).toNat : Nat) : Int) == 10) = true := by rw [hc]; rfl
          clear hc h10
          cases st with
          | none =>
            have hfv : fromV none = -1 := rfl
            rw [hfv]
            have Hn := Lib.hid (Hs.out.gap Hd.out hg)
            clear hg hfv
            go_wp2_with fail
            go_roundw
            case rel => exact ⟨k + 1, none, ws, rfl, by go_num, HO.out, HB.out, .inl ⟨by omega, Hn⟩⟩
            case measure => simp [intOf]; omega
          | some a =>
            have hfv : fromV (some a) = (a : Int) := rfl
            rw [hfv]
            have Hn := Lib.hid (Hs.out.word hkL Hd.out hg)
            have hak : a < k := Hs.out.2.1 a rfl
            have Hx : Hid ((s.extract a k).data.toList = openL L k (some a)) := Lib.hid (by rw [mid_str, ofL_list, HL.out]; rfl)
            clear hg hfv
            go_wp2_with (at_builtin; refine wpList_append_own _ rfl _ _ 30 rfl w.heap.size 9 i0 (.string ⟨#[]⟩) 1 16 Tryd.underlying30 hi hz0 hz1 hz2 rfl (by decide) _ ws.length (ws.map textV) rfl (HO.out.alloc _) ⟨wr.heap.size, 0, none⟩ 1 1 [.string _] rfl rfl (cell_one_new _ _ _) (fun x hx => by simp at hx; subst hx; rfl) (by unfold maxLen; omega) (by omega) (by have := HB.out.size; simp; omega) ?_; intro v' w' hown' hgrow' hnil'; have HO' := Lib.hid (text_snoc hown'); have HB' := Lib.hid ((HB.out.alloc HB.out.size _).grown hgrow' (by have := HB.out.size; simp; omega) (fun g hg => (HO.out.lt g hg).1)); clear hown' hgrow' hnil')
            rw [Hx.out] at HO'
            go_roundw
            case rel => exact ⟨k + 1, none, ws ++ [openL L k (some a)], rfl, by go_num, HO'.out, HB'.out, .inl ⟨by omega, Hn⟩⟩
            case measure => simp [intOf]; omega
        by_cases h13 : s[k] = 13
        · have hc := h13
          have hg : gapB (s[k]'hlt) = true := by rw [hc]; rfl
          have f32 : ((((s[k]'hlt).toNat : Nat) : Int) == 32) = false := by rw [hc]; rfl
          have f9 : ((((s[k]'hlt).toNat : Nat) : Int) == 9) = false := by rw [hc]; rfl
          have f10 : ((((s[k]'hlt).toNat : Nat) : Int) == 10) = false := by rw [hc]; rfl
          have f13 : ((((s[k]'hlt).toNat : Nat) : Int) == 13) = true := by rw [hc]; rfl
          clear hc h13
          cases st with
          | none =>
            have hfv : fromV none = -1 := rfl
            rw [hfv]
            have Hn := Lib.hid (Hs.out.gap Hd.out hg)
            clear hg hfv
            go_wp2_with fail
            go_roundw
            case rel => exact ⟨k + 1, none, ws, rfl, by go_num, HO.out, HB.out, .inl ⟨by omega, Hn⟩⟩
            case measure => simp [intOf]; omega
          | some a =>
            have hfv : fromV (some a) = (a : Int) := rfl
            rw [hfv]
            have Hn := Lib.hid (Hs.out.word hkL Hd.out hg)
            have hak : a < k := Hs.out.2.1 a rfl
            have Hx : Hid ((s.extract a k).data.toList = openL L k (some a)) := Lib.hid (by rw [mid_str, ofL_list, HL.out]; rfl)
            clear hg hfv
            go_wp2_with (at_builtin; refine wpList_append_own _ rfl _ _ 30 rfl w.heap.size 9 i0 (.string ⟨#[]⟩) 1 16 Tryd.underlying30 hi hz0 hz1 hz2 rfl (by decide) _ ws.length (ws.map textV) rfl (HO.out.alloc _) ⟨wr.heap.size, 0, none⟩ 1 1 [.string _] rfl rfl (cell_one_new _ _ _) (fun x hx => by simp at hx; subst hx; rfl) (by unfold maxLen; omega) (by omega) (by have := HB.out.size; simp; omega) ?_; intro v' w' hown' hgrow' hnil'; have HO' := Lib.hid (text_snoc hown'); have HB' := Lib.hid ((HB.out.alloc HB.out.size _).grown hgrow' (by have := HB.out.size; simp; omega) (fun g hg => (HO.out.lt g hg).1)); clear hown' hgrow' hnil')
            rw [Hx.out] at HO'
            go_roundw
            case rel => exact ⟨k + 1, none, ws ++ [openL L k (some a)], rfl, by go_num, HO'.out, HB'.out, .inl ⟨by omega, Hn⟩⟩
            case measure => simp [intOf]; omega
        have hg : gapB (s[k]'hlt) = false := by
          unfold gapB
          rw [beq_eq_false_iff_ne.2 h32, beq_eq_false_iff_ne.2 h9, beq_eq_false_iff_ne.2 h10, beq_eq_false_iff_ne.2 h13]; rfl
        have f32 : ((((s[k]'hlt).toNat : Nat) : Int) == 32) = false := beq_eq_false_iff_ne.2 (fun h => h32 (UInt8.toNat_inj.1 (by show _ = 32; omega)))
        have f9 : ((((s[k]'hlt).toNat : Nat) : Int) == 9) = false := beq_eq_false_iff_ne.2 (fun h => h9 (UInt8.toNat_inj.1 (by show _ = 9; omega)))
        have f10 : ((((s[k]'hlt).toNat : Nat) : Int) == 10) = false := beq_eq_false_iff_ne.2 (fun h => h10 (UInt8.toNat_inj.1 (by show _ = 10; omega)))
        have f13 : ((((s[k]'hlt).toNat : Nat) : Int) == 13) = false := beq_eq_false_iff_ne.2 (fun h => h13 (UInt8.toNat_inj.1 (by show _ = 13; omega)))
        have Hn := Lib.hid (Hs.out.go Hd.out hg)
        clear hg h32 h9 h10 h13
        cases st with
        | none =>
          have hfv : fromV none = -1 := rfl
          rw [hfv]
          clear hfv
          go_wp2_with fail
          go_roundw
          case rel => exact ⟨k + 1, some k, ws, rfl, by go_num, HO.out, HB.out, .inl ⟨by omega, Hn⟩⟩
          case measure => simp [intOf]; omega
        | some a =>
          have hfv : fromV (some a) = (a : Int) := rfl
          rw [hfv]
          clear hfv
          go_wp2_with fail
          go_roundw
          case rel => exact ⟨k + 1, some a, ws, rfl, by go_num, HO.out, HB.out, .inl ⟨by omega, Hn⟩⟩
          case measure => simp [intOf]; omega
      · obtain rfl : k = s.size := by omega
        cases st with
        | none =>
          have hfv : fromV none = -1 := rfl
          rw [hfv]
          have Hn := Lib.hid (Hs.out.last (by rw [HZ.out]; omega))
          clear hfv
          go_wp2_with fail
          go_roundw
          case rel => exact ⟨s.size + 1, none, ws, rfl, by go_num, HO.out, HB.out, .inr ⟨rfl, Hn⟩⟩
          case measure => simp [intOf]
        | some a =>
          have hfv : fromV (some a) = (a : Int) := rfl
          rw [hfv]
          have Hn := Lib.hid (Hs.out.lastWord HZ.out.symm)
          have hak : a < s.size := Hs.out.2.1 a rfl
          have Hx : Hid ((s.extract a s.size).data.toList = openL L s.size (some a)) := Lib.hid (by rw [mid_str, ofL_list, HL.out]; rfl)
          clear hfv
          go_wp2_with (at_builtin; refine wpList_append_own _ rfl _ _ 30 rfl w.heap.size 9 i0 (.string ⟨#[]⟩) 1 16 Tryd.underlying30 hi hz0 hz1 hz2 rfl (by decide) _ ws.length (ws.map textV) rfl (HO.out.alloc _) ⟨wr.heap.size, 0, none⟩ 1 1 [.string _] rfl rfl (cell_one_new _ _ _) (fun x hx => by simp at hx; subst hx; rfl) (by unfold maxLen; omega) (by omega) (by have := HB.out.size; simp; omega) ?_; intro v' w' hown' hgrow' hnil'; have HO' := Lib.hid (text_snoc hown'); have HB' := Lib.hid ((HB.out.alloc HB.out.size _).grown hgrow' (by have := HB.out.size; simp; omega) (fun g hg => (HO.out.lt g hg).1)); clear hown' hgrow' hnil')
          rw [Hx.out] at HO'
          go_roundw
          case rel => exact ⟨s.size + 1, none, ws ++ [openL L s.size (some a)], rfl, by go_num, HO'.out, HB'.out, .inr ⟨rfl, Hn⟩⟩
          case measure => simp [intOf]
    · subst hk
      have Hf : Hid (wordsF [] L = ws) := Lib.hid Hs.out.1
      go_wp2_with fail
      go_ret
      exact ⟨_, rfl, by rw [Hf.out]; exact HO.out, HB.out⟩

end Jsx
end Go.Proofs.YtcalgpkcefccmaaDoor
