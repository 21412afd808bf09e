/-
  The document's own taking apart: a decimal.
-/
import Derived.Test.YtinjaopgnlpncaaGreatDoorNumOfPlain
import Derived.Deep.CutRange
namespace Go.Proofs.YtinjaopgnlpncaaGreatDoor
namespace Num
open Go.RowKit

theorem get_at (s : ByteArray) (i : Nat) (h : i < s.size) : s.data.toList[i]? = some s[i] := Lib.data_getElem? s i h
theorem get_end (s : ByteArray) (i : Nat) (h : ¬ i < s.size) : s.data.toList[i]? = none := by
  rw [List.getElem?_eq_none]; rw [← Lib.size_eq]; omega
theorem empty_whole (s : ByteArray) (i : Nat) (hi : i ≤ s.size) : ((s.extract 0 i).toList = []) ↔ i = 0 := by
  rw [Lib.toList_data, take_str]
  show s.data.toList.take i = [] ↔ i = 0
  constructor
  · intro h
    have := congrArg List.length h
    rw [List.length_take, ← Lib.size_eq] at this
    simp only [List.length_nil] at this
    omega
  · rintro rfl; simp
theorem ofVal_some {p : Parts} {e : Ending} (h : e = .returned (.tuple #[partV p, .bool true])) : OfVal (some p) e := h
theorem take_nil (s : ByteArray) (i : Nat) (hi : i ≤ s.size) : s.data.toList.take i = [] ↔ i = 0 := by
  constructor
  · intro h
    have := congrArg List.length h
    rw [List.length_take, ← Lib.size_eq] at this
    simp only [List.length_nil] at this
    omega
  · rintro rfl; simp

def JoinP (s : ByteArray) (i j : Nat) (dot : Bool) (F : ByteArray) : Prop := decOf s.data.toList = if i = 0 ∧ dot = false then none else expOf (s.data.toList.take i) dot F.data.toList (s.data.toList.drop j)
def SignP (s : ByteArray) (i j : Nat) (dot : Bool) (F : ByteArray) (m : Bool) : Prop := ∃ sg, m = decide (sg = [45]) ∧ decOf s.data.toList = expAt (s.data.toList.take i) dot F.data.toList sg (s.data.toList.drop j)

set_option maxHeartbeats 8000000 in
set_option maxRecDepth 100000 in
theorem of_dec_any (s : ByteArray) (w : World) (hs : s.size ≤ 140737488354000) (hnp : ¬ (∃ h : 1 < s.size, s[0] = 48 ∧ radN (lowN s[1]) ≠ 0)) :
    Calls Tryz.prog 24 #[.string s] w fun e w' => OfVal (decOf s.data.toList) e ∧ Below w.heap.size w w' := by
  have Hrun := Lib.hid (fun i z W hz hi => run_eq s i z W hz hs hi)
  have Hnp := Lib.hid hnp
  clear hnp
  go_enter Tryz.func24, Tryz.ntmps24
  go_upto_region 1 with fail
  go_cut [15] from 8 to 15 (fun c wx => c = .bool (decide (1 < s.size ∧ s.data.toList.head? = some 48)) ∧ wx = w.alloc (.cells #[.int .i64 0, .string ⟨#[]⟩, .bool false, .string ⟨#[]⟩, .bool false, .bool false, .string ⟨#[]⟩, .bool false] 46))
  case first =>
    by_cases h1 : 1 < s.size
    · have hh := head_byte s (by omega)
      by_cases h0 : s[0] = 48
      · have t0 : (((s[0]'(by omega)).toNat : Int) == 48) = true := by rw [t48, h0]; rfl
        have Hf : Hid (decide (1 < s.size ∧ s.data.toList.head? = some 48) = true) := Lib.hid (decide_eq_true ⟨h1, by rw [hh, h0]⟩)
        clear h0 hh
        go_wp2_with fail
        go_meet
        exact ⟨by rw [Hf.out], rfl⟩
      · have t0 : (((s[0]'(by omega)).toNat : Int) == 48) = false := by rw [t48]; simp [h0]
        have Hf : Hid (decide (1 < s.size ∧ s.data.toList.head? = some 48) = false) := Lib.hid (decide_eq_false (fun h => h0 (by rw [hh] at h; simpa using h.2)))
        clear h0 hh
        go_wp2_with fail
        go_meet
        exact ⟨by rw [Hf.out], rfl⟩
    · have Hf : Hid (decide (1 < s.size ∧ s.data.toList.head? = some 48) = false) := Lib.hid (decide_eq_false (fun h => h1 h.1))
      go_wp2_with fail
      go_meet
      exact ⟨by rw [Hf.out], rfl⟩
  case rest =>
    obtain ⟨rfl, rfl⟩ := hcut
    obtain ⟨A, hA⟩ : ∃ A : Bool, decide (1 < s.size ∧ s.data.toList.head? = some 48) = A := ⟨_, rfl⟩
    rw [hA]
    have HA := Lib.hid hA
    clear hA
    go_upto_if 15 with fail
    go_cut [] from 16 to 38 (fun wx => wx = w.alloc (.cells #[.int .i64 0, .string ⟨#[]⟩, .bool false, .string ⟨#[]⟩, .bool false, .bool false, .string ⟨#[]⟩, .bool false] 46))
    case first =>
      cases A with
      | true =>
        obtain ⟨h1, hh⟩ := of_decide_eq_true HA.out
        have h0 : s[0] = 48 := by rw [head_byte s (by omega)] at hh; simpa using hh
        have hr : radN (lowN s[1]) = 0 := by
          cases hz : radN (lowN s[1]) with
          | zero => rfl
          | succ n => exact absurd ⟨h1, h0, by rw [hz]; simp⟩ Hnp.out
        have hm : ∀ c : UInt8, radN (lowN c) ≠ 0 → s[1] ≠ c := fun c hc e => hc (by rw [← e]; exact hr)
        have e1 : (((s[1]'h1).toNat : Int) == 120) = false := by rw [t120]; exact decide_eq_false (hm 120 (by decide))
        have e2 : (((s[1]'h1).toNat : Int) == 88) = false := (bt s[1] 88 88 rfl).trans (decide_eq_false (hm 88 (by decide)))
        have e3 : (((s[1]'h1).toNat : Int) == 111) = false := by rw [t111]; exact decide_eq_false (hm 111 (by decide))
        have e4 : (((s[1]'h1).toNat : Int) == 79) = false := (bt s[1] 79 79 rfl).trans (decide_eq_false (hm 79 (by decide)))
        have e5 : (((s[1]'h1).toNat : Int) == 98) = false := (bt s[1] 98 98 rfl).trans (decide_eq_false (hm 98 (by decide)))
        have e6 : (((s[1]'h1).toNat : Int) == 66) = false := (bt s[1] 66 66 rfl).trans (decide_eq_false (hm 66 (by decide)))
        clear hh h0 hr hm
        go_wp2_with fail
        go_meet
        rfl
      | false =>
        go_wp2_with fail
        go_meet
        rfl
    case rest =>
      obtain rfl := hcut
      clear Hnp HA
      go_wp2_with fail
      refine (Hrun.out 0 0 _ rfl (Nat.zero_le _)).mono ?_
      rintro e w1 ⟨rfl, rfl⟩
      rw [List.drop_zero]
      by_cases hi0 : runI 10 s.data.toList < 0
      · have Hf := Lib.hid (dec_bad _ hi0)
        generalize runI 10 s.data.toList = i0 at *
        go_wp2_with fail
        rw [Hf.out]
        refine bodyPost_ret (v := .tuple #[rawV 10 ⟨#[]⟩ false ⟨#[]⟩ false false ⟨#[]⟩ false, .bool false]) ?_ rfl ⟨of_no _ _ _ _ _ _ _ _ rfl, ?_⟩
        · simp [results, Tryz.results24, go_sem, rawV]
        · exact ((Below.refl _ _).alloc (Nat.le_refl _) _).alloc (by simp) _
      · obtain ⟨i, hi⟩ : ∃ i : Nat, runI 10 s.data.toList = i := ⟨(runI 10 s.data.toList).toNat, by omega⟩
        have hri := base_some 10 _ i hi
        have hle : i ≤ s.size := by rw [Lib.size_eq]; exact runL_le _ _ _ _ hri
        have Hd := Lib.hid hri
        rw [hi]
        clear hi hi0 hri
        go_upto_region 17 with fail
        go_cut [55] from 49 to 55 (fun c wx => c = .bool (decide (1 < i ∧ s.data.toList.head? = some 48)) ∧ wx = (w.alloc (.cells #[.int .i64 0, .string ⟨#[]⟩, .bool false, .string ⟨#[]⟩, .bool false, .bool false, .string ⟨#[]⟩, .bool false] 46)).alloc (.cells #[.int .i64 10, .string (s.extract 0 i), .bool false, .string ⟨#[]⟩, .bool false, .bool false, .string ⟨#[]⟩, .bool false] 46))
        case first =>
          by_cases hi1 : 1 < i
          · have hh := head_byte s (by omega)
            by_cases h0 : s[0] = 48
            · have t0 : (((s[0]'(by omega)).toNat : Int) == 48) = true := by rw [t48, h0]; rfl
              have Hf : Hid (decide (1 < i ∧ s.data.toList.head? = some 48) = true) := Lib.hid (decide_eq_true ⟨hi1, by rw [hh, h0]⟩)
              clear h0 hh
              go_wp2_with fail
              go_meet
              exact ⟨by rw [Hf.out], rfl⟩
            · have t0 : (((s[0]'(by omega)).toNat : Int) == 48) = false := by rw [t48]; simp [h0]
              have Hf : Hid (decide (1 < i ∧ s.data.toList.head? = some 48) = false) := Lib.hid (decide_eq_false (fun h => h0 (by rw [hh] at h; simpa using h.2)))
              clear h0 hh
              go_wp2_with fail
              go_meet
              exact ⟨by rw [Hf.out], rfl⟩
          · have Hf : Hid (decide (1 < i ∧ s.data.toList.head? = some 48) = false) := Lib.hid (decide_eq_false (fun h => hi1 h.1))
            go_wp2_with fail
            go_meet
            exact ⟨by rw [Hf.out], rfl⟩
        case rest =>
          obtain ⟨rfl, rfl⟩ := hcut
          by_cases hL : 1 < i ∧ s.data.toList.head? = some 48
          · have Hf := Lib.hid (dec_lead _ i Hd.out hL.1 hL.2)
            rw [decide_eq_true hL]
            clear hL
            go_wp2_with fail
            rw [Hf.out]
            refine bodyPost_ret (v := .tuple #[rawV 10 (s.extract 0 i) false ⟨#[]⟩ false false ⟨#[]⟩ false, .bool false]) ?_ rfl ⟨of_no _ _ _ _ _ _ _ _ rfl, ?_⟩
            · simp [results, Tryz.results24, go_sem, rawV]
            · exact ((Below.refl _ _).alloc (Nat.le_refl _) _).alloc (by simp) _
          · have HD := Lib.hid (dec_tail _ i Hd.out hL)
            rw [decide_eq_false hL]
            clear hL
            go_upto_region 19 with fail
            go_cut [70] from 57 to 70 (fun c wx => c = .bool (decide (s.data.toList[i]? = some 110 ∧ 0 < i)) ∧ wx = (w.alloc (.cells #[.int .i64 0, .string ⟨#[]⟩, .bool false, .string ⟨#[]⟩, .bool false, .bool false, .string ⟨#[]⟩, .bool false] 46)).alloc (.cells #[.int .i64 10, .string (s.extract 0 i), .bool false, .string ⟨#[]⟩, .bool false, .bool false, .string ⟨#[]⟩, .bool false] 46))
            case first =>
              by_cases hlt : i < s.size
              · have hg := get_at s i hlt
                by_cases hc : s[i] = 110
                · have t1 : (((s[i]'hlt).toNat : Int) == 110) = true := by rw [t110, hc]; rfl
                  by_cases hz : 0 < i
                  · have Hf : Hid (decide (s.data.toList[i]? = some 110 ∧ 0 < i) = true) := Lib.hid (decide_eq_true ⟨by rw [hg, hc], hz⟩)
                    clear hg hc
                    go_wp2_with fail
                    go_meet
                    exact ⟨by rw [Hf.out], rfl⟩
                  · have Hf : Hid (decide (s.data.toList[i]? = some 110 ∧ 0 < i) = false) := Lib.hid (decide_eq_false (fun h => hz h.2))
                    clear hg hc
                    go_wp2_with fail
                    go_meet
                    exact ⟨by rw [Hf.out], rfl⟩
                · have t1 : (((s[i]'hlt).toNat : Int) == 110) = false := by rw [t110]; simp [hc]
                  have Hf : Hid (decide (s.data.toList[i]? = some 110 ∧ 0 < i) = false) := Lib.hid (decide_eq_false (fun h => hc (by rw [hg] at h; simpa using h.1)))
                  clear hg hc
                  go_wp2_with fail
                  go_meet
                  exact ⟨by rw [Hf.out], rfl⟩
              · have Hf : Hid (decide (s.data.toList[i]? = some 110 ∧ 0 < i) = false) := Lib.hid (decide_eq_false (fun h => by rw [get_end s i hlt] at h; cases h.1))
                go_wp2_with fail
                go_meet
                exact ⟨by rw [Hf.out], rfl⟩
            case rest =>
              obtain ⟨rfl, rfl⟩ := hcut
              by_cases hN : s.data.toList[i]? = some 110 ∧ 0 < i
              · have hlt : i < s.size := by
                  by_cases h : i < s.size
                  · exact h
                  · rw [get_end s i h] at hN; cases hN.1
                have hc : s[i] = 110 := by rw [get_at s i hlt] at hN; simpa using hN.1
                have hW : s.data.toList.take i ≠ [] := fun e => by have := (take_nil s i hle).1 e; omega
                have Ht : Hid (decOf s.data.toList = if s.data.toList.drop (i + 1) = [] then some ⟨10, s.data.toList.take i, false, [], false, [], [], true⟩ else none) := Lib.hid (by
                  rw [HD.out, drop_byte s i hlt, hc, tailOf, if_pos ⟨rfl, hW⟩])
                rw [decide_eq_true hN]
                clear hN hc hW
                by_cases he : i + 1 = s.size
                · have t2 : ((i : Int) + 1 == (s.size : Int)) = true := beq_iff_eq.2 (by omega)
                  have Hf : Hid (decOf s.data.toList = some ⟨10, s.data.toList.take i, false, [], false, [], [], true⟩) := Lib.hid (by
                    rw [Ht.out, if_pos (List.drop_of_length_le (by rw [← Lib.size_eq]; omega))])
                  have Hx := Lib.hid (take_str s i)
                  clear Ht he
                  go_wp2_with fail
                  rw [Hf.out]
                  refine bodyPost_ret (v := .tuple #[rawV 10 (s.extract 0 i) false ⟨#[]⟩ false false ⟨#[]⟩ true, .bool true]) ?_ rfl ⟨ofVal_some (by rw [Hx.out]; rfl), ?_⟩
                  · simp [results, Tryz.results24, go_sem, rawV]
                  · exact ((Below.refl _ _).alloc (Nat.le_refl _) _).alloc (by simp) _
                · have t2 : ((i : Int) + 1 == (s.size : Int)) = false := beq_eq_false_iff_ne.2 (by omega)
                  have Hf : Hid (decOf s.data.toList = none) := Lib.hid (by
                    rw [Ht.out, if_neg (by rw [drop_byte s (i + 1) (by omega)]; simp)])
                  clear Ht he
                  go_wp2_with fail
                  rw [Hf.out]
                  refine bodyPost_ret (v := .tuple #[rawV 10 (s.extract 0 i) false ⟨#[]⟩ false false ⟨#[]⟩ true, .bool false]) ?_ rfl ⟨of_no _ _ _ _ _ _ _ _ rfl, ?_⟩
                  · simp [results, Tryz.results24, go_sem, rawV]
                  · exact ((Below.refl _ _).alloc (Nat.le_refl _) _).alloc (by simp) _
              · rw [decide_eq_false hN]
                have HT := Lib.hid hN
                clear hN
                go_upto_region 22 with fail
                go_cut [87] from 78 to 87 (fun c wx => c = .bool (decide (s.data.toList[i]? = some 46)) ∧ wx = (w.alloc (.cells #[.int .i64 0, .string ⟨#[]⟩, .bool false, .string ⟨#[]⟩, .bool false, .bool false, .string ⟨#[]⟩, .bool false] 46)).alloc (.cells #[.int .i64 10, .string (s.extract 0 i), .bool false, .string ⟨#[]⟩, .bool false, .bool false, .string ⟨#[]⟩, .bool false] 46))
                case first =>
                  by_cases hlt : i < s.size
                  · have hg := get_at s i hlt
                    by_cases hc : s[i] = 46
                    · have t1 : (((s[i]'hlt).toNat : Int) == 46) = true := by rw [t46, hc]; rfl
                      have Hf : Hid (decide (s.data.toList[i]? = some 46) = true) := Lib.hid (decide_eq_true (by rw [hg, hc]))
                      clear hg hc
                      go_wp2_with fail
                      go_meet
                      exact ⟨by rw [Hf.out], rfl⟩
                    · have t1 : (((s[i]'hlt).toNat : Int) == 46) = false := by rw [t46]; simp [hc]
                      have Hf : Hid (decide (s.data.toList[i]? = some 46) = false) := Lib.hid (decide_eq_false (fun h => hc (by rw [hg] at h; simpa using h)))
                      clear hg hc
                      go_wp2_with fail
                      go_meet
                      exact ⟨by rw [Hf.out], rfl⟩
                  · have Hf : Hid (decide (s.data.toList[i]? = some 46) = false) := Lib.hid (decide_eq_false (fun h => by rw [get_end s i hlt] at h; cases h))
                    go_wp2_with fail
                    go_meet
                    exact ⟨by rw [Hf.out], rfl⟩
                case rest =>
                  obtain ⟨rfl, rfl⟩ := hcut
                  obtain ⟨A2, hA⟩ : ∃ A2 : Bool, decide (s.data.toList[i]? = some 46) = A2 := ⟨_, rfl⟩
                  rw [hA]
                  have HA2 := Lib.hid hA
                  clear hA
                  go_upto_if 87 with fail
                  go_cut [5, 6] from 88 to 116 (fun i5 _ wx => ∃ (j : Nat) (dot : Bool) (F : ByteArray), i5 = .int .i64 j ∧ j ≤ s.size ∧ wx = (w.alloc (.cells #[.int .i64 0, .string ⟨#[]⟩, .bool false, .string ⟨#[]⟩, .bool false, .bool false, .string ⟨#[]⟩, .bool false] 46)).alloc (.cells #[.int .i64 10, .string (s.extract 0 i), .bool dot, .string F, .bool false, .bool false, .string ⟨#[]⟩, .bool false] 46) ∧ JoinP s i j dot F)
                  case first =>
                    cases A2 with
                    | false =>
                      have Hf : Hid (JoinP s i i false ⟨#[]⟩) := Lib.hid (by
                        unfold JoinP
                        rw [HD.out]
                        have h46 := of_decide_eq_false HA2.out
                        by_cases hlt : i < s.size
                        · have hg := get_at s i hlt
                          rw [drop_byte s i hlt, tailOf]
                          have n46 : s[i] ≠ 46 := fun e => h46 (by rw [hg, e])
                          by_cases hz : i = 0
                          · have hw := (take_nil s i hle).2 hz
                            rw [if_neg (fun x => x.2 hw), if_neg n46, if_pos hw, if_pos ⟨hz, rfl⟩]
                          · have hw : s.data.toList.take i ≠ [] := fun e => hz ((take_nil s i hle).1 e)
                            rw [if_neg (fun x => HT.out ⟨by rw [hg, x.1], by omega⟩), if_neg n46, if_neg hw, if_neg (fun x => hz x.1)]
                        · rw [drop_all s i hlt, tailOf]
                          by_cases hz : i = 0
                          · rw [if_pos ((take_nil s i hle).2 hz), if_pos ⟨hz, rfl⟩]
                          · rw [if_neg (fun e => hz ((take_nil s i hle).1 e)), if_neg (fun x => hz x.1)]; rfl)
                      go_wp2_with fail
                      go_meet
                      exact ⟨i, false, ⟨#[]⟩, rfl, hle, rfl, Hf.out⟩
                    | true =>
                      have h46 := of_decide_eq_true HA2.out
                      have hlt : i < s.size := by
                        by_cases h : i < s.size
                        · exact h
                        · rw [get_end s i h] at h46; cases h46
                      have hc : s[i] = 46 := by rw [get_at s i hlt] at h46; simpa using h46
                      have Ht : Hid (tailOf (s.data.toList.take i) (s.data.toList.drop i) = match runL 10 false (s.data.toList.drop (i + 1)) with | none => none | some k => if i = 0 ∧ k = 0 then none else expOf (s.data.toList.take i) true ((s.data.toList.drop (i + 1)).take k) ((s.data.toList.drop (i + 1)).drop k)) := Lib.hid (by
                        rw [drop_byte s i hlt, hc, tailOf, if_neg (by simp), if_pos rfl]
                        cases runL 10 false (s.data.toList.drop (i + 1)) with
                        | none => rfl
                        | some k => simp only [take_nil s i hle])
                      clear h46 hc
                      go_wp2_with fail
                      refine (Hrun.out (i + 1) ((i : Int) + 1) _ (by omega) (by omega)).mono ?_
                      rintro e w1 ⟨rfl, rfl⟩
                      by_cases hk0 : runI 10 (s.data.toList.drop (i + 1)) < 0
                      · have Hf : Hid (decOf s.data.toList = none) := Lib.hid (by
                          rw [HD.out, Ht.out]
                          unfold runI at hk0
                          cases hk : runL 10 false (s.data.toList.drop (i + 1)) with
                          | none => rfl
                          | some k => rw [hk] at hk0; simp only [] at hk0; omega)
                        clear Ht
                        generalize runI 10 (s.data.toList.drop (i + 1)) = i1 at *
                        go_wp2_with fail
                        rw [Hf.out]
                        refine bodyPost_ret (v := .tuple #[rawV 10 (s.extract 0 i) true ⟨#[]⟩ false false ⟨#[]⟩ false, .bool false]) ?_ rfl ⟨of_no _ _ _ _ _ _ _ _ rfl, ?_⟩
                        · simp [results, Tryz.results24, go_sem, rawV]
                        · exact ((Below.refl _ _).alloc (Nat.le_refl _) _).alloc (by simp) _
                      · obtain ⟨k, hk⟩ : ∃ k : Nat, runI 10 (s.data.toList.drop (i + 1)) = k := ⟨(runI 10 (s.data.toList.drop (i + 1))).toNat, by omega⟩
                        have hrk := base_some 10 _ k hk
                        have hkle := runL_le _ _ _ _ hrk
                        rw [List.length_drop, ← Lib.size_eq] at hkle
                        have hle3 : i + 1 + k ≤ s.size := by omega
                        rw [hk]
                        clear hk hk0 hkle
                        by_cases hz : i = 0 ∧ k = 0
                        · have Hf : Hid (decOf s.data.toList = none) := Lib.hid (by
                            rw [HD.out, Ht.out, hrk]; simp only []; rw [if_pos hz])
                          have z1 : ((i : Int) == 0) = true := beq_iff_eq.2 (by omega)
                          have z2 : ((k : Int) == 0) = true := beq_iff_eq.2 (by omega)
                          clear Ht hz hrk
                          go_wp2_with fail
                          rw [Hf.out]
                          refine bodyPost_ret (v := .tuple #[rawV 10 (s.extract 0 i) true ⟨#[]⟩ false false ⟨#[]⟩ false, .bool false]) ?_ rfl ⟨of_no _ _ _ _ _ _ _ _ rfl, ?_⟩
                          · simp [results, Tryz.results24, go_sem, rawV]
                          · exact ((Below.refl _ _).alloc (Nat.le_refl _) _).alloc (by simp) _
                        · have Hf : Hid (JoinP s i (i + 1 + k) true (s.extract (i + 1) (i + 1 + k))) := Lib.hid (by
                            unfold JoinP
                            rw [HD.out, Ht.out, hrk]; simp only []
                            rw [if_neg hz, if_neg (fun x => by cases x.2), List.drop_drop]
                            congr 1
                            rw [← Lib.toList_data (s.extract (i + 1) (i + 1 + k)), Lib.extract_toList, Nat.add_sub_cancel_left])
                          by_cases hzi : i = 0
                          · have z1 : ((i : Int) == 0) = true := beq_iff_eq.2 (by omega)
                            have z2 : ((k : Int) == 0) = false := beq_eq_false_iff_ne.2 (by omega)
                            clear Ht hz hrk hzi
                            go_wp2_with fail
                            go_meet
                            exact ⟨i + 1 + k, true, _, by go_num, hle3, rfl, Hf.out⟩
                          · have z1 : ((i : Int) == 0) = false := beq_eq_false_iff_ne.2 (by omega)
                            clear Ht hz hrk hzi
                            go_wp2_with fail
                            go_meet
                            exact ⟨i + 1 + k, true, _, by go_num, hle3, rfl, Hf.out⟩
                  case rest =>
                    obtain ⟨j, dot, F, rfl, hj, rfl, hE⟩ := hcut
                    have HE := Lib.hid hE
                    clear HT HD Hd HA2 hE
                    go_upto_region 29 with fail
                    go_cut [124] from 117 to 124 (fun c wx => c = .bool (decide (i = 0 ∧ dot = false)) ∧ wx = (w.alloc (.cells #[.int .i64 0, .string ⟨#[]⟩, .bool false, .string ⟨#[]⟩, .bool false, .bool false, .string ⟨#[]⟩, .bool false] 46)).alloc (.cells #[.int .i64 10, .string (s.extract 0 i), .bool dot, .string F, .bool false, .bool false, .string ⟨#[]⟩, .bool false] 46))
                    case first =>
                      by_cases hz : i = 0
                      · have hw := (empty_whole s i hle).2 hz
                        have hw2 : (s.extract 0 i).toList.isEmpty = true := by rw [hw]; rfl
                        have hw3 : ((s.extract 0 i).toList == []) = true := by rw [hw]; rfl
                        cases dot with
                        | true =>
                          have Hf : Hid (decide (i = 0 ∧ true = false) = false) := Lib.hid (decide_eq_false (fun h => by cases h.2))
                          clear hz
                          go_wp2_with fail
                          go_meet
                          exact ⟨by rw [Hf.out], rfl⟩
                        | false =>
                          have Hf : Hid (decide (i = 0 ∧ false = false) = true) := Lib.hid (decide_eq_true ⟨hz, rfl⟩)
                          clear hz
                          go_wp2_with fail
                          go_meet
                          exact ⟨by rw [Hf.out], rfl⟩
                      · have hw : ¬ (s.extract 0 i).toList = [] := fun e => hz ((empty_whole s i hle).1 e)
                        have Hf : Hid (decide (i = 0 ∧ dot = false) = false) := Lib.hid (decide_eq_false (fun h => hz h.1))
                        clear hz
                        go_wp2_with fail
                        go_meet
                        exact ⟨by rw [Hf.out], rfl⟩
                    case rest =>
                      obtain ⟨rfl, rfl⟩ := hcut
                      by_cases hZ : i = 0 ∧ dot = false
                      · have Hf : Hid (decOf s.data.toList = none) := Lib.hid (by
                          have := HE.out
                          unfold JoinP at this
                          rw [this, if_pos hZ])
                        rw [decide_eq_true hZ]
                        clear hZ
                        go_wp2_with fail
                        rw [Hf.out]
                        refine bodyPost_ret (v := .tuple #[rawV 10 (s.extract 0 i) dot F false false ⟨#[]⟩ false, .bool false]) ?_ rfl ⟨of_no _ _ _ _ _ _ _ _ rfl, ?_⟩
                        · simp [results, Tryz.results24, go_sem, rawV]
                        · exact ((Below.refl _ _).alloc (Nat.le_refl _) _).alloc (by simp) _
                      · have HX : Hid (decOf s.data.toList = expOf (s.data.toList.take i) dot F.data.toList (s.data.toList.drop j)) := Lib.hid (by
                          have := HE.out
                          unfold JoinP at this
                          rw [this, if_neg hZ])
                        rw [decide_eq_false hZ]
                        clear hZ HE
                        go_upto_region 31 with fail
                        go_cut [141] from 126 to 141 (fun c wx => c = .bool (decide (s.data.toList[j]? = some 101 ∨ s.data.toList[j]? = some 69)) ∧ wx = (w.alloc (.cells #[.int .i64 0, .string ⟨#[]⟩, .bool false, .string ⟨#[]⟩, .bool false, .bool false, .string ⟨#[]⟩, .bool false] 46)).alloc (.cells #[.int .i64 10, .string (s.extract 0 i), .bool dot, .string F, .bool false, .bool false, .string ⟨#[]⟩, .bool false] 46))
                        case first =>
                          by_cases hlt : j < s.size
                          · have hg := get_at s j hlt
                            by_cases hc : s[j] = 101
                            · have t1 : (((s[j]'hlt).toNat : Int) == 101) = true := by rw [t101, hc]; rfl
                              have Hf : Hid (decide (s.data.toList[j]? = some 101 ∨ s.data.toList[j]? = some 69) = true) := Lib.hid (decide_eq_true (Or.inl (by rw [hg, hc])))
                              clear hg hc
                              go_wp2_with fail
                              go_meet
                              exact ⟨by rw [Hf.out], rfl⟩
                            · have t1 : (((s[j]'hlt).toNat : Int) == 101) = false := by rw [t101]; simp [hc]
                              by_cases hd : s[j] = 69
                              · have t2 : (((s[j]'hlt).toNat : Int) == 69) = true := (bt s[j] 69 69 rfl).trans (decide_eq_true hd)
                                have Hf : Hid (decide (s.data.toList[j]? = some 101 ∨ s.data.toList[j]? = some 69) = true) := Lib.hid (decide_eq_true (Or.inr (by rw [hg, hd])))
                                clear hg hc hd
                                go_wp2_with fail
                                go_meet
                                exact ⟨by rw [Hf.out], rfl⟩
                              · have t2 : (((s[j]'hlt).toNat : Int) == 69) = false := (bt s[j] 69 69 rfl).trans (decide_eq_false hd)
                                have Hf : Hid (decide (s.data.toList[j]? = some 101 ∨ s.data.toList[j]? = some 69) = false) := Lib.hid (decide_eq_false (fun h => by
                                  rw [hg] at h
                                  rcases h with h | h
                                  · exact hc (by simpa using h)
                                  · exact hd (by simpa using h)))
                                clear hg hc hd
                                go_wp2_with fail
                                go_meet
                                exact ⟨by rw [Hf.out], rfl⟩
                          · have Hf : Hid (decide (s.data.toList[j]? = some 101 ∨ s.data.toList[j]? = some 69) = false) := Lib.hid (decide_eq_false (fun h => by rw [get_end s j hlt] at h; rcases h with h | h <;> cases h))
                            go_wp2_with fail
                            go_meet
                            exact ⟨by rw [Hf.out], rfl⟩
                        case rest =>
                          obtain ⟨rfl, rfl⟩ := hcut
                          by_cases hE : s.data.toList[j]? = some 101 ∨ s.data.toList[j]? = some 69
                          · rw [decide_eq_true hE]
                            have hlt : j < s.size := by
                              by_cases h : j < s.size
                              · exact h
                              · rw [get_end s j h] at hE; rcases hE with h | h <;> cases h
                            have HY : Hid (decOf s.data.toList = expAt (s.data.toList.take i) dot F.data.toList (signL (s.data.toList.drop (j + 1))).1 (signL (s.data.toList.drop (j + 1))).2) := Lib.hid (by
                              rw [HX.out, drop_byte s j hlt, exp_at]
                              rw [get_at s j hlt] at hE
                              simpa using hE)
                            clear hE HX
                            go_upto_region 34 with fail
                            go_cut [160] from 145 to 160 (fun c wx => c = .bool (decide (s.data.toList[j + 1]? = some 43 ∨ s.data.toList[j + 1]? = some 45)) ∧ wx = (w.alloc (.cells #[.int .i64 0, .string ⟨#[]⟩, .bool false, .string ⟨#[]⟩, .bool false, .bool false, .string ⟨#[]⟩, .bool false] 46)).alloc (.cells #[.int .i64 10, .string (s.extract 0 i), .bool dot, .string F, .bool true, .bool false, .string ⟨#[]⟩, .bool false] 46))
                            case first =>
                              by_cases hlt2 : j + 1 < s.size
                              · have hg := get_at s (j + 1) hlt2
                                by_cases hc : s[j + 1] = 43
                                · have t1 : (((s[j + 1]'hlt2).toNat : Int) == 43) = true := (bt s[j + 1] 43 43 rfl).trans (decide_eq_true hc)
                                  have Hf : Hid (decide (s.data.toList[j + 1]? = some 43 ∨ s.data.toList[j + 1]? = some 45) = true) := Lib.hid (decide_eq_true (Or.inl (by rw [hg, hc])))
                                  clear hg hc
                                  go_wp2_with fail
                                  go_meet
                                  exact ⟨by rw [Hf.out], rfl⟩
                                · have t1 : (((s[j + 1]'hlt2).toNat : Int) == 43) = false := (bt s[j + 1] 43 43 rfl).trans (decide_eq_false hc)
                                  by_cases hd : s[j + 1] = 45
                                  · have t2 : (((s[j + 1]'hlt2).toNat : Int) == 45) = true := (bt s[j + 1] 45 45 rfl).trans (decide_eq_true hd)
                                    have Hf : Hid (decide (s.data.toList[j + 1]? = some 43 ∨ s.data.toList[j + 1]? = some 45) = true) := Lib.hid (decide_eq_true (Or.inr (by rw [hg, hd])))
                                    clear hg hc hd
                                    go_wp2_with fail
                                    go_meet
                                    exact ⟨by rw [Hf.out], rfl⟩
                                  · have t2 : (((s[j + 1]'hlt2).toNat : Int) == 45) = false := (bt s[j + 1] 45 45 rfl).trans (decide_eq_false hd)
                                    have Hf : Hid (decide (s.data.toList[j + 1]? = some 43 ∨ s.data.toList[j + 1]? = some 45) = false) := Lib.hid (decide_eq_false (fun h => by
                                      rw [hg] at h
                                      rcases h with h | h
                                      · exact hc (by simpa using h)
                                      · exact hd (by simpa using h)))
                                    clear hg hc hd
                                    go_wp2_with fail
                                    go_meet
                                    exact ⟨by rw [Hf.out], rfl⟩
                              · have Hf : Hid (decide (s.data.toList[j + 1]? = some 43 ∨ s.data.toList[j + 1]? = some 45) = false) := Lib.hid (decide_eq_false (fun h => by rw [get_end s (j + 1) hlt2] at h; rcases h with h | h <;> cases h))
                                go_wp2_with fail
                                go_meet
                                exact ⟨by rw [Hf.out], rfl⟩
                            case rest =>
                              obtain ⟨rfl, rfl⟩ := hcut
                              obtain ⟨A4, hA⟩ : ∃ A4 : Bool, decide (s.data.toList[j + 1]? = some 43 ∨ s.data.toList[j + 1]? = some 45) = A4 := ⟨_, rfl⟩
                              rw [hA]
                              have HA4 := Lib.hid hA
                              clear hA
                              go_upto_if 160 with fail
                              go_cut [5] from 161 to 167 (fun i5 wx => ∃ (q : Nat) (m : Bool), i5 = .int .i64 q ∧ q ≤ s.size ∧ wx = (w.alloc (.cells #[.int .i64 0, .string ⟨#[]⟩, .bool false, .string ⟨#[]⟩, .bool false, .bool false, .string ⟨#[]⟩, .bool false] 46)).alloc (.cells #[.int .i64 10, .string (s.extract 0 i), .bool dot, .string F, .bool true, .bool m, .string ⟨#[]⟩, .bool false] 46) ∧ SignP s i q dot F m)
                              case first =>
                                cases A4 with
                                | false =>
                                  have Hf : Hid (SignP s i (j + 1) dot F false) := Lib.hid (by
                                    have hno := of_decide_eq_false HA4.out
                                    refine ⟨[], rfl, ?_⟩
                                    rw [HY.out]
                                    by_cases hlt2 : j + 1 < s.size
                                    · have hg := get_at s (j + 1) hlt2
                                      rw [drop_byte s (j + 1) hlt2, sign_no]
                                      · intro e; exact hno (Or.inl (by rw [hg, e]))
                                      · intro e; exact hno (Or.inr (by rw [hg, e]))
                                    · rw [drop_all s (j + 1) hlt2]; rfl)
                                  go_wp2_with fail
                                  go_meet
                                  exact ⟨j + 1, false, by go_num, by omega, rfl, Hf.out⟩
                                | true =>
                                  have hyes := of_decide_eq_true HA4.out
                                  have hlt2 : j + 1 < s.size := by
                                    by_cases h : j + 1 < s.size
                                    · exact h
                                    · rw [get_end s (j + 1) h] at hyes; rcases hyes with h | h <;> cases h
                                  rw [get_at s (j + 1) hlt2] at hyes
                                  by_cases hd : s[j + 1] = 45
                                  · have t2 : (((s[j + 1]'hlt2).toNat : Int) == 45) = true := (bt s[j + 1] 45 45 rfl).trans (decide_eq_true hd)
                                    have Hf : Hid (SignP s i (j + 2) dot F true) := Lib.hid ⟨[45], rfl, by
                                      rw [HY.out, drop_byte s (j + 1) hlt2, hd, sign_yes 45 _ (Or.inr rfl)]⟩
                                    clear hyes hd
                                    go_wp2_with fail
                                    go_meet
                                    exact ⟨j + 2, true, by go_num, by omega, rfl, Hf.out⟩
                                  · have hc : s[j + 1] = 43 := by
                                      rcases hyes with h | h
                                      · simpa using h
                                      · exact absurd (by simpa using h) hd
                                    have t2 : (((s[j + 1]'hlt2).toNat : Int) == 45) = false := (bt s[j + 1] 45 45 rfl).trans (decide_eq_false hd)
                                    have Hf : Hid (SignP s i (j + 2) dot F false) := Lib.hid ⟨[43], rfl, by
                                      rw [HY.out, drop_byte s (j + 1) hlt2, hc, sign_yes 43 _ (Or.inl rfl)]⟩
                                    clear hyes hd hc
                                    go_wp2_with fail
                                    go_meet
                                    exact ⟨j + 2, false, by go_num, by omega, rfl, Hf.out⟩
                              case rest =>
                                obtain ⟨q, m, rfl, hq, rfl, sg, hm, hat⟩ := hcut
                                have HM := Lib.hid hm
                                have HT := Lib.hid hat
                                clear hm hat HY HA4
                                go_wp2_with fail
                                refine (Hrun.out q (q : Int) _ rfl hq).mono ?_
                                rintro e w1 ⟨rfl, rfl⟩
                                by_cases hk0 : runI 10 (s.data.toList.drop q) < 1
                                · have Hf : Hid (decOf s.data.toList = none) := Lib.hid (by rw [HT.out]; exact at_none _ _ _ _ _ hk0)
                                  generalize runI 10 (s.data.toList.drop q) = i2 at *
                                  go_wp2_with fail
                                  rw [Hf.out]
                                  refine bodyPost_ret (v := .tuple #[rawV 10 (s.extract 0 i) dot F true m ⟨#[]⟩ false, .bool false]) ?_ rfl ⟨of_no _ _ _ _ _ _ _ _ rfl, ?_⟩
                                  · simp [results, Tryz.results24, go_sem, rawV]
                                  · exact ((Below.refl _ _).alloc (Nat.le_refl _) _).alloc (by simp) _
                                · obtain ⟨k, hk⟩ : ∃ k : Nat, runI 10 (s.data.toList.drop q) = k := ⟨(runI 10 (s.data.toList.drop q)).toNat, by omega⟩
                                  have hrk := base_some 10 _ k hk
                                  have hkle := runL_le _ _ _ _ hrk
                                  rw [List.length_drop, ← Lib.size_eq] at hkle
                                  have hle3 : q + k ≤ s.size := by omega
                                  have hk1 : 1 ≤ k := by omega
                                  rw [hk]
                                  clear hk hk0 hkle
                                  have hPx : (s.extract q (q + k)).data.toList = (s.data.toList.drop q).take k := by
                                    rw [← Lib.toList_data (s.extract q (q + k)), Lib.extract_toList, Nat.add_sub_cancel_left]
                                  have hPs : (s.extract q (q + k)).size ≤ 140737488354000 := by simp; omega
                                  obtain ⟨t, ht⟩ : ∃ t : ByteArray, (⟨(plainL ((s.data.toList.drop q).take k)).toArray⟩ : ByteArray) = t := ⟨_, rfl⟩
                                  obtain ⟨u, hu⟩ : ∃ u : ByteArray, (⟨(aheadL (plainL ((s.data.toList.drop q).take k))).toArray⟩ : ByteArray) = u := ⟨_, rfl⟩
                                  have htl : t.data.toList = plainL ((s.data.toList.drop q).take k) := by rw [← ht]
                                  have hts : t.size ≤ maxLen := by
                                    have h1 := plain_le ((s.data.toList.drop q).take k)
                                    rw [← htl, ← Lib.size_eq, ← hPx, ← Lib.size_eq] at h1
                                    unfold maxLen; omega
                                  have hus : u.size = (aheadL (plainL ((s.data.toList.drop q).take k))).length := by rw [← hu, size_of]
                                  have hus2 : u.size ≤ 140737488354000 := by
                                    have h1 := plain_le ((s.data.toList.drop q).take k)
                                    have h2 : (aheadL (plainL ((s.data.toList.drop q).take k))).length ≤ (plainL ((s.data.toList.drop q).take k)).length := (List.dropWhile_sublist _).length_le
                                    have h3 : ((s.data.toList.drop q).take k).length ≤ k := List.length_take_le _ _
                                    rw [← hus] at h2
                                    omega
                                  have H1 := Lib.hid (fun W => plain_any (s.extract q (q + k)) W (by omega))
                                  have H2 := Lib.hid (fun W => ahead_any t W hts)
                                  rw [hPx, ht] at H1
                                  rw [htl, hu] at H2
                                  have Hus := Lib.hid hus
                                  clear ht hu htl hts hus hPs hPx
                                  go_wp2_with fail
                                  refine (H1.out _).mono ?_
                                  rintro e w2 ⟨rfl, hb2⟩
                                  have hz : w.heap.size + 1 < w2.heap.size := by have := hb2.size; simp at this; omega
                                  have hz0 : w.heap.size < w2.heap.size := by omega
                                  have Hb : Hid (Below w.heap.size w w2) := Lib.hid ((((Below.refl _ _).alloc (Nat.le_refl _) _).alloc (by simp) _).trans (hb2.mono (by simp; omega)))
                                  obtain ⟨hc2, hf2⟩ := bcell hb2
                                  have gp : ∀ o, w2.cell? ⟨w.heap.size + 1, o, none⟩ = ((w.alloc (.cells #[.int .i64 0, .string ⟨#[]⟩, .bool false, .string ⟨#[]⟩, .bool false, .bool false, .string ⟨#[]⟩, .bool false] 46)).alloc (.cells #[.int .i64 10, .string (s.extract 0 i), .bool dot, .string F, .bool true, .bool m, .string (s.extract q (q + k)), .bool false] 46)).cell? ⟨w.heap.size + 1, o, none⟩ := fun o => hc2 _ _ (by simp)
                                  have gr : ∀ o, w2.cell? ⟨w.heap.size, o, none⟩ = (w.alloc (.cells #[.int .i64 0, .string ⟨#[]⟩, .bool false, .string ⟨#[]⟩, .bool false, .bool false, .string ⟨#[]⟩, .bool false] 46)).cell? ⟨w.heap.size, o, none⟩ := fun o => (hc2 _ _ (by simp; omega)).trans (World.cell?_alloc_past _ _ _ (by simp))
                                  have g0 := gp 0
                                  have g1 := gp 1
                                  have g2 := gp 2
                                  have g3 := gp 3
                                  have g4 := gp 4
                                  have g5 := gp 5
                                  have g6 := gp 6
                                  have g7 := gp 7
                                  have r0 := gr 0
                                  have r1 := gr 1
                                  have r2 := gr 2
                                  have r3 := gr 3
                                  have r4 := gr 4
                                  have r5 := gr 5
                                  have r6 := gr 6
                                  have r7 := gr 7
                                  rw [World.cell?_alloc_at _ _ _ _ (by simp)] at g0 g1 g2 g3 g4 g5 g6 g7
                                  rw [World.cell?_alloc_at _ _ _ _ rfl] at r0 r1 r2 r3 r4 r5 r6 r7
                                  have fr : ∀ o, w2.frozen? ⟨w.heap.size, o, none⟩ = false := fun o => by
                                    rw [hf2 _ _ (by simp; omega), World.frozen?_alloc_past _ _ _ (by simp), World.frozen?_alloc_at _ _ _ _ rfl]
                                  clear gp gr hc2 hf2 hb2
                                  go_wp2_with fail
                                  refine (H2.out _).mono ?_
                                  rintro e w3 ⟨rfl, rfl⟩
                                  by_cases hlong : 9 < u.size
                                  · have Hf : Hid (decOf s.data.toList = none) := Lib.hid (by rw [HT.out]; exact at_long _ _ _ _ _ _ hrk (by rw [← Hus.out]; exact hlong))
                                    clear hrk
                                    go_wp2_with fail
                                    rw [Hf.out]
                                    refine bodyPost_ret (v := .tuple #[rawV 10 (s.extract 0 i) dot F true m (s.extract q (q + k)) false, .bool false]) ?_ rfl ⟨of_no _ _ _ _ _ _ _ _ rfl, ?_⟩
                                    · simp [results, Tryz.results24, go_sem, rawV, r0, r1, r2, r3, r4, r5, r6, r7]
                                    · exact (((((((Hb.out.setCell (by simp) _).setCell (by simp) _).setCell (by simp) _).setCell (by simp) _).setCell (by simp) _).setCell (by simp) _).setCell (by simp) _).setCell (by simp) _
                                  · by_cases hend : q + k = s.size
                                    · have Hf : Hid (decOf s.data.toList = some ⟨10, s.data.toList.take i, dot, F.data.toList, true, sg, (s.data.toList.drop q).take k, false⟩) := Lib.hid (by
                                        rw [HT.out]
                                        exact at_some _ _ _ _ _ _ hrk (by omega) (by rw [← Hus.out]; exact hlong) (by rw [List.drop_drop]; exact List.drop_of_length_le (by rw [← Lib.size_eq]; omega)))
                                      have Hx := Lib.hid (take_str s i)
                                      have Hp : Hid (s.extract q (q + k) = ⟨((s.data.toList.drop q).take k).toArray⟩) := Lib.hid (str_ext _ _ (by
                                        rw [← Lib.toList_data (s.extract q (q + k)), Lib.extract_toList, Nat.add_sub_cancel_left]))
                                      have t9 : ((q : Int) + (k : Int) == (s.size : Int)) = true := beq_iff_eq.2 (by omega)
                                      clear hrk hend
                                      go_wp2_with fail
                                      rw [Hf.out]
                                      refine bodyPost_ret (v := .tuple #[rawV 10 (s.extract 0 i) dot F true m (s.extract q (q + k)) false, .bool true]) ?_ rfl ⟨ofVal_some (by rw [Hx.out, Hp.out, HM.out]; rfl), ?_⟩
                                      · simp [results, Tryz.results24, go_sem, rawV, r0, r1, r2, r3, r4, r5, r6, r7]
                                      · exact (((((((Hb.out.setCell (by simp) _).setCell (by simp) _).setCell (by simp) _).setCell (by simp) _).setCell (by simp) _).setCell (by simp) _).setCell (by simp) _).setCell (by simp) _
                                    · have Hf : Hid (decOf s.data.toList = none) := Lib.hid (by
                                        rw [HT.out]
                                        exact at_rest _ _ _ _ _ _ hrk (by rw [List.drop_drop, drop_byte s (q + k) (by omega)]; simp))
                                      have t9 : ((q : Int) + (k : Int) == (s.size : Int)) = false := beq_eq_false_iff_ne.2 (by omega)
                                      clear hrk hend
                                      go_wp2_with fail
                                      rw [Hf.out]
                                      refine bodyPost_ret (v := .tuple #[rawV 10 (s.extract 0 i) dot F true m (s.extract q (q + k)) false, .bool false]) ?_ rfl ⟨of_no _ _ _ _ _ _ _ _ rfl, ?_⟩
                                      · simp [results, Tryz.results24, go_sem, rawV, r0, r1, r2, r3, r4, r5, r6, r7]
                                      · exact (((((((Hb.out.setCell (by simp) _).setCell (by simp) _).setCell (by simp) _).setCell (by simp) _).setCell (by simp) _).setCell (by simp) _).setCell (by simp) _).setCell (by simp) _
                          · rw [decide_eq_false hE]
                            by_cases hlt : j < s.size
                            · have Hf : Hid (decOf s.data.toList = none) := Lib.hid (by
                                rw [HX.out, drop_byte s j hlt, exp_not]
                                · intro e; exact hE (Or.inl (by rw [get_at s j hlt, e]))
                                · intro e; exact hE (Or.inr (by rw [get_at s j hlt, e])))
                              have t2 : ((j : Int) == (s.size : Int)) = false := beq_eq_false_iff_ne.2 (by omega)
                              clear hE HX
                              go_wp2_with fail
                              rw [Hf.out]
                              refine bodyPost_ret (v := .tuple #[rawV 10 (s.extract 0 i) dot F false false ⟨#[]⟩ false, .bool false]) ?_ rfl ⟨of_no _ _ _ _ _ _ _ _ rfl, ?_⟩
                              · simp [results, Tryz.results24, go_sem, rawV]
                              · exact ((Below.refl _ _).alloc (Nat.le_refl _) _).alloc (by simp) _
                            · have Hf : Hid (decOf s.data.toList = some ⟨10, s.data.toList.take i, dot, F.data.toList, false, [], [], false⟩) := Lib.hid (by
                                rw [HX.out, drop_all s j hlt]; rfl)
                              have t2 : ((j : Int) == (s.size : Int)) = true := beq_iff_eq.2 (by omega)
                              have Hx := Lib.hid (take_str s i)
                              clear hE HX hlt
                              go_wp2_with fail
                              rw [Hf.out]
                              refine bodyPost_ret (v := .tuple #[rawV 10 (s.extract 0 i) dot F false false ⟨#[]⟩ false, .bool true]) ?_ rfl ⟨ofVal_some (by rw [Hx.out]; rfl), ?_⟩
                              · simp [results, Tryz.results24, go_sem, rawV]
                              · exact ((Below.refl _ _).alloc (Nat.le_refl _) _).alloc (by simp) _

end Num
end Go.Proofs.YtinjaopgnlpncaaGreatDoor
