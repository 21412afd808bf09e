/-
  The contract of the function that writes a decimal.
-/
import Derived.Test.YtinjaopgnlpncaaGreatDoorNumForms
namespace Go.Proofs.YtinjaopgnlpncaaGreatDoor
namespace Num
open Go.RowKit

/-- A decimal's print, of its three texts. -/
def headT (a : List UInt8) : List UInt8 := (if a = [] then [48] else []) ++ a
def fracT (f : List UInt8) : List UInt8 := if fracL f = [] then [] else 46 :: fracL f
def powT (x : List UInt8) : List UInt8 := if x = [] then [] else 101 :: Lib.trimPrefix x [43]

theorem frac_le (l : List UInt8) : (fracL l).length ≤ l.length := by
  unfold fracL; rw [List.length_reverse]; exact Nat.le_trans (List.dropWhile_sublist _).length_le (by simp)
theorem trimP_le (l c : List UInt8) : (Lib.trimPrefix l c).length ≤ l.length := by
  unfold Lib.trimPrefix; split
  · rw [List.length_drop]; omega
  · exact Nat.le_refl _

theorem str_empty (A : ByteArray) (l : List UInt8) (hA : A.data.toList = l) (h : l = []) : A = ⟨#[]⟩ := by
  subst h; exact str_ext A [] hA
theorem str_full (A : ByteArray) (h : A.data.toList ≠ []) : A.toList.isEmpty = false ∧ (A.toList == []) = false := by
  rw [Lib.toList_data]
  cases hl : A.data.toList with
  | nil => exact absurd hl h
  | cons _ _ => exact ⟨rfl, rfl⟩

/-- The box's cells, while only later blocks turn. -/
theorem boxed {w w0 w1 : World} {C : Array Value} {T : TypeId} (h0 : w.alloc (.cells C T) = w0) (h : Below (w.heap.size + 1) w0 w1) (o : Nat) : w1.cell? ⟨w.heap.size, o, none⟩ = C[o]? := by
  rw [h.cell (p := ⟨w.heap.size, o, none⟩) (by simp), ← h0, World.cell?_alloc_at _ _ _ _ rfl]

/-- A piece comes of what was one, in a later world. -/
structure Held (B : Nat) (w0 w1 : World) (v : Value) (xs : List UInt8) : Prop where
  seg : Seg w1 B v xs
  below : Below B w0 w1
  size : B ≤ w1.heap.size

set_option maxHeartbeats 16000000 in
set_option maxRecDepth 100000 in
theorem print_core (bs : Int) (A F P : ByteArray) (big : Bool) (w : World) (hlim : A.size + F.size + P.size + 100 ≤ 140737488355328) :
    Calls Tryz.prog 23 #[.agg #[.int .u8 bs, .string A, .string F, .string P, .bool big]] w (SegPost w.heap.size w (headT A.data.toList ++ fracT F.data.toList ++ powT P.data.toList)) := by
  have hl2 := frac_le F.data.toList
  have hl3 := trimP_le P.data.toList [43]
  have sA := Lib.size_eq A
  have sF := Lib.size_eq F
  have sP := Lib.size_eq P
  have hFm : F.size ≤ maxLen := by unfold maxLen; omega
  obtain ⟨w0, hw0⟩ : ∃ w0, w.alloc (.cells #[.int .u8 bs, .string A, .string F, .string P, .bool big] 40) = w0 := ⟨_, rfl⟩
  have Hb0 : Hid (Below w.heap.size w w0) := Lib.hid (by rw [← hw0]; exact (Below.refl _ _).alloc (Nat.le_refl _) _)
  have hz0 : w0.heap.size = w.heap.size + 1 := by rw [← hw0]; simp
  have Hc := Lib.hid (fun (w1 : World) (h : Below (w.heap.size + 1) w0 w1) => (⟨boxed hw0 h 1, boxed hw0 h 2, boxed hw0 h 3⟩ :
    w1.cell? ⟨w.heap.size, 1, none⟩ = some (.string A) ∧ w1.cell? ⟨w.heap.size, 2, none⟩ = some (.string F) ∧ w1.cell? ⟨w.heap.size, 3, none⟩ = some (.string P)))
  have Hw0 := Lib.hid hw0
  have Hz0 := Lib.hid hz0
  have hz0s : w.heap.size < w0.heap.size := by omega
  clear hw0 hz0
  have hc0 := (Hc.out w0 (Below.refl _ _)).1
  go_enter Tryz.func23, Tryz.ntmps23
  have Hb0x : Hid (Below (w.heap.size + 1) w0 w0) := Lib.hid (Below.refl _ _)
  have hz0 : w.heap.size + 1 ≤ w0.heap.size := by rw [Hz0.out]; exact Nat.le_refl _
  by_cases hA : A.data.toList = []
  · have hA' := str_empty A _ rfl hA
    have HhT : Hid (headT A.data.toList = [48]) := Lib.hid (by rw [headT, hA]; rfl)
    subst hA'
    clear hA
    go_wp2_with (at_builtin; refine wpList_append_seg _ rfl _ _ 42 rfl rfl (Seg.nil _ (w.heap.size + 1)) _ rfl 1 ([48]) rfl (src_one (w.alloc _) (w.heap.size + 1) (by simp) 48) (by decide) (by simp) ?_)
    intro v1 w1 hs1 hb1
    rw [Hw0.out] at hb1
    have hbx1 : Below (w.heap.size + 1) w0 w1 := ((Hb0x.out.alloc hz0 _).trans hb1)
    have hz1 : w.heap.size + 1 ≤ w1.heap.size := by have := hbx1.size; rw [Hz0.out] at this; exact this
    have hzs1 : w.heap.size < w1.heap.size := by omega
    have Hb1 := Lib.hid hbx1
    have Hs1 := Lib.hid hs1
    have hc1 := (Hc.out w1 hbx1).1
    clear hbx1 hb1 hs1
    go_wp2_with (at_builtin; refine wpList_append_seg _ rfl _ _ 9 rfl rfl (Hs1.out) _ rfl 0 ([]) rfl (src_str _ ⟨#[]⟩) ?c1_2 ?c2_2 ?_)
    case c1_2 => (try simp only [List.length_append, List.length_cons, List.length_nil]); omega
    case c2_2 => first | omega | (simp; done) | (simp; omega)
    intro v2 w2 hs2 hb2
    have hbx2 : Below (w.heap.size + 1) w0 w2 := (Hb1.out.trans hb2)
    have hz2 : w.heap.size + 1 ≤ w2.heap.size := by have := hbx2.size; rw [Hz0.out] at this; exact this
    have hzs2 : w.heap.size < w2.heap.size := by omega
    have Hb2 := Lib.hid hbx2
    have Hs2 := Lib.hid hs2
    have hc2 := (Hc.out w2 hbx2).2.1
    clear hbx2 hb2 hs2
    go_wp2_with fail
    refine (trim_any F _ hFm).mono ?_
    rintro e wt ⟨rfl, hbt⟩
    have hbxt : Below (w.heap.size + 1) w0 wt := Hb2.out.trans (hbt.mono hz2)
    have hst := Hs2.out.keep hbt
    have hz3 : w.heap.size + 1 ≤ wt.heap.size := by have := hbxt.size; rw [Hz0.out] at this; exact this
    have hzs3 : w.heap.size < wt.heap.size := by omega
    have Hb3 := Lib.hid hbxt
    have Hs3 := Lib.hid hst
    have hc3 := (Hc.out wt hbxt).2.2
    clear hbxt hbt hst hc2
    generalize hG : fracL F.data.toList = G at *
    have HG := Lib.hid hG
    clear hG
    cases G with
    | nil =>
      by_cases hP : P.data.toList = []
      · have hP' := str_empty P _ rfl hP
        subst hP'
        clear hP
        go_wp2_with fail
        go_ret
        exact ⟨_, rfl, (by have := Hs3.out.mono (Nat.le_succ w.heap.size); simpa [powT, fracT, HG.out, HhT.out] using this), Hb0.out.trans (Hb3.out.mono (Nat.le_succ _))⟩
      · obtain ⟨q1, q2⟩ := str_full P hP
        have HpT : Hid (powT P.data.toList = 101 :: Lib.trimPrefix P.data.toList [43]) := Lib.hid (by rw [powT, if_neg hP])
        clear hP
        go_wp2_with (at_builtin; refine wpList_append_seg _ rfl _ _ 42 rfl rfl (Hs3.out.keep ((Below.refl _ _).alloc (Nat.le_refl _) _)) _ rfl 1 ([101]) rfl (src_one wt _ rfl 101) ?c1_3 ?c2_3 ?_)
        case c1_3 => (try simp only [List.length_append, List.length_cons, List.length_nil]); omega
        case c2_3 => first | omega | (simp; done) | (simp; omega)
        intro v4 w4 hs4 hb4
        have hbx4 : Below (w.heap.size + 1) w0 w4 := ((Hb3.out.alloc hz3 _).trans hb4)
        have hz4 : w.heap.size + 1 ≤ w4.heap.size := by have := hbx4.size; rw [Hz0.out] at this; exact this
        have hzs4 : w.heap.size < w4.heap.size := by omega
        have Hb4 := Lib.hid hbx4
        have Hs4 := Lib.hid hs4
        have hc4 := (Hc.out w4 hbx4).2.2
        clear hbx4 hb4 hs4
        go_wp2_with fail
        refine (Tryz.strings_TrimPrefix P ⟨#[43]⟩ _).mono ?_
        rintro e w' ⟨rfl, hw'⟩
        rw [hw']
        clear hw'
        rw [show (⟨#[43]⟩ : ByteArray).data.toList = [43] from rfl]
        generalize hT : Lib.trimPrefix P.data.toList [43] = T at *
        have HT := Lib.hid hT
        clear hT
        go_wp2_with (at_builtin; refine wpList_append_seg _ rfl _ _ 9 rfl rfl (Hs4.out) _ rfl _ (T) rfl (src_str _ _) ?c1_4 ?c2_4 ?_)
        case c1_4 => (try simp only [List.length_append, List.length_cons, List.length_nil]); omega
        case c2_4 => first | omega | (simp; done) | (simp; omega)
        intro v5 w5 hs5 hb5
        have hbx5 : Below (w.heap.size + 1) w0 w5 := Hb4.out.trans hb5
        have Hb5 := Lib.hid hbx5
        have Hs5 := Lib.hid hs5
        clear hbx5 hb5 hs5
        go_wp2_with fail
        go_ret
        exact ⟨_, rfl, (by
          have h6 := Hs5.out.mono (Nat.le_succ w.heap.size)
          simpa [fracT, HG.out, HhT.out, HpT.out, HT.out] using h6), Hb0.out.trans (Hb5.out.mono (Nat.le_succ _))⟩
    | cons c t =>
      rw [List.length_cons] at hl2
      go_wp2_with (at_builtin; refine wpList_append_seg _ rfl _ _ 42 rfl rfl (Hs3.out.keep ((Below.refl _ _).alloc (Nat.le_refl _) _)) _ rfl 1 ([46]) rfl (src_one wt _ rfl 46) ?c1_5 ?c2_5 ?_)
      case c1_5 => (try simp only [List.length_append, List.length_cons, List.length_nil]); omega
      case c2_5 => first | omega | (simp; done) | (simp; omega)
      intro v4 w4 hs4 hb4
      have hbx4 : Below (w.heap.size + 1) w0 w4 := ((Hb3.out.alloc hz3 _).trans hb4)
      have hz4 : w.heap.size + 1 ≤ w4.heap.size := by have := hbx4.size; rw [Hz0.out] at this; exact this
      have hzs4 : w.heap.size < w4.heap.size := by omega
      have Hb4 := Lib.hid hbx4
      have Hs4 := Lib.hid hs4
      have hc4 := (Hc.out w4 hbx4).2.2
      clear hbx4 hb4 hs4
      go_wp2_with (at_builtin; refine wpList_append_seg _ rfl _ _ 9 rfl rfl (Hs4.out) _ rfl _ (c :: t) rfl (src_str _ _) ?c1_6 ?c2_6 ?_)
      case c1_6 => (try simp only [List.length_append, List.length_cons, List.length_nil]); omega
      case c2_6 => first | omega | (simp; done) | (simp; omega)
      intro v5 w5 hs5 hb5
      have hbx5 : Below (w.heap.size + 1) w0 w5 := (Hb4.out.trans hb5)
      have hz5 : w.heap.size + 1 ≤ w5.heap.size := by have := hbx5.size; rw [Hz0.out] at this; exact this
      have hzs5 : w.heap.size < w5.heap.size := by omega
      have Hb5 := Lib.hid hbx5
      have Hs5 := Lib.hid hs5
      have hc5 := (Hc.out w5 hbx5).2.2
      clear hbx5 hb5 hs5
      by_cases hP : P.data.toList = []
      · have hP' := str_empty P _ rfl hP
        subst hP'
        clear hP
        go_wp2_with fail
        go_ret
        exact ⟨_, rfl, (by have := Hs5.out.mono (Nat.le_succ w.heap.size); simpa [powT, fracT, HG.out, HhT.out] using this), Hb0.out.trans (Hb5.out.mono (Nat.le_succ _))⟩
      · obtain ⟨q1, q2⟩ := str_full P hP
        have HpT : Hid (powT P.data.toList = 101 :: Lib.trimPrefix P.data.toList [43]) := Lib.hid (by rw [powT, if_neg hP])
        clear hP
        go_wp2_with (at_builtin; refine wpList_append_seg _ rfl _ _ 42 rfl rfl (Hs5.out.keep ((Below.refl _ _).alloc (Nat.le_refl _) _)) _ rfl 1 ([101]) rfl (src_one w5 _ rfl 101) ?c1_7 ?c2_7 ?_)
        case c1_7 => (try simp only [List.length_append, List.length_cons, List.length_nil]); omega
        case c2_7 => first | omega | (simp; done) | (simp; omega)
        intro v6 w6 hs6 hb6
        have hbx6 : Below (w.heap.size + 1) w0 w6 := ((Hb5.out.alloc hz5 _).trans hb6)
        have hz6 : w.heap.size + 1 ≤ w6.heap.size := by have := hbx6.size; rw [Hz0.out] at this; exact this
        have hzs6 : w.heap.size < w6.heap.size := by omega
        have Hb6 := Lib.hid hbx6
        have Hs6 := Lib.hid hs6
        have hc6 := (Hc.out w6 hbx6).2.2
        clear hbx6 hb6 hs6
        go_wp2_with fail
        refine (Tryz.strings_TrimPrefix P ⟨#[43]⟩ _).mono ?_
        rintro e w' ⟨rfl, hw'⟩
        rw [hw']
        clear hw'
        rw [show (⟨#[43]⟩ : ByteArray).data.toList = [43] from rfl]
        generalize hT : Lib.trimPrefix P.data.toList [43] = T at *
        have HT := Lib.hid hT
        clear hT
        go_wp2_with (at_builtin; refine wpList_append_seg _ rfl _ _ 9 rfl rfl (Hs6.out) _ rfl _ (T) rfl (src_str _ _) ?c1_8 ?c2_8 ?_)
        case c1_8 => (try simp only [List.length_append, List.length_cons, List.length_nil]); omega
        case c2_8 => first | omega | (simp; done) | (simp; omega)
        intro v7 w7 hs7 hb7
        have hbx7 : Below (w.heap.size + 1) w0 w7 := Hb6.out.trans hb7
        have Hb7 := Lib.hid hbx7
        have Hs7 := Lib.hid hs7
        clear hbx7 hb7 hs7
        go_wp2_with fail
        go_ret
        exact ⟨_, rfl, (by
          have h6 := Hs7.out.mono (Nat.le_succ w.heap.size)
          simpa [fracT, HG.out, HhT.out, HpT.out, HT.out] using h6), Hb0.out.trans (Hb7.out.mono (Nat.le_succ _))⟩
  · obtain ⟨q1, q2⟩ := str_full A hA
    have HhT : Hid (headT A.data.toList = A.data.toList) := Lib.hid (by rw [headT, if_neg hA]; rfl)
    clear hA
    go_wp2_with (at_builtin; refine wpList_append_seg _ rfl _ _ 9 rfl rfl (Seg.nil _ (w.heap.size + 1)) _ rfl _ (A.data.toList) rfl (src_str _ _) ?c1_9 ?c2_9 ?_)
    case c1_9 => (try simp only [List.length_append, List.length_cons, List.length_nil]); omega
    case c2_9 => first | omega | (simp; done) | (simp; omega)
    intro v1 w1 hs1 hb1
    rw [Hw0.out] at hb1
    have hbx1 : Below (w.heap.size + 1) w0 w1 := (Hb0x.out.trans hb1)
    have hz1 : w.heap.size + 1 ≤ w1.heap.size := by have := hbx1.size; rw [Hz0.out] at this; exact this
    have hzs1 : w.heap.size < w1.heap.size := by omega
    have Hb1 := Lib.hid hbx1
    have Hs1 := Lib.hid hs1
    have hc1 := (Hc.out w1 hbx1).2.1
    clear hbx1 hb1 hs1
    go_wp2_with fail
    refine (trim_any F _ hFm).mono ?_
    rintro e wt ⟨rfl, hbt⟩
    have hbxt : Below (w.heap.size + 1) w0 wt := Hb1.out.trans (hbt.mono hz1)
    have hst := Hs1.out.keep hbt
    have hz2 : w.heap.size + 1 ≤ wt.heap.size := by have := hbxt.size; rw [Hz0.out] at this; exact this
    have hzs2 : w.heap.size < wt.heap.size := by omega
    have Hb2 := Lib.hid hbxt
    have Hs2 := Lib.hid hst
    have hc2 := (Hc.out wt hbxt).2.2
    clear hbxt hbt hst hc1
    generalize hG : fracL F.data.toList = G at *
    have HG := Lib.hid hG
    clear hG
    cases G with
    | nil =>
      by_cases hP : P.data.toList = []
      · have hP' := str_empty P _ rfl hP
        subst hP'
        clear hP
        go_wp2_with fail
        go_ret
        exact ⟨_, rfl, (by have := Hs2.out.mono (Nat.le_succ w.heap.size); simpa [powT, fracT, HG.out, HhT.out] using this), Hb0.out.trans (Hb2.out.mono (Nat.le_succ _))⟩
      · obtain ⟨q1, q2⟩ := str_full P hP
        have HpT : Hid (powT P.data.toList = 101 :: Lib.trimPrefix P.data.toList [43]) := Lib.hid (by rw [powT, if_neg hP])
        clear hP
        go_wp2_with (at_builtin; refine wpList_append_seg _ rfl _ _ 42 rfl rfl (Hs2.out.keep ((Below.refl _ _).alloc (Nat.le_refl _) _)) _ rfl 1 ([101]) rfl (src_one wt _ rfl 101) ?c1_10 ?c2_10 ?_)
        case c1_10 => (try simp only [List.length_append, List.length_cons, List.length_nil]); omega
        case c2_10 => first | omega | (simp; done) | (simp; omega)
        intro v3 w3 hs3 hb3
        have hbx3 : Below (w.heap.size + 1) w0 w3 := ((Hb2.out.alloc hz2 _).trans hb3)
        have hz3 : w.heap.size + 1 ≤ w3.heap.size := by have := hbx3.size; rw [Hz0.out] at this; exact this
        have hzs3 : w.heap.size < w3.heap.size := by omega
        have Hb3 := Lib.hid hbx3
        have Hs3 := Lib.hid hs3
        have hc3 := (Hc.out w3 hbx3).2.2
        clear hbx3 hb3 hs3
        go_wp2_with fail
        refine (Tryz.strings_TrimPrefix P ⟨#[43]⟩ _).mono ?_
        rintro e w' ⟨rfl, hw'⟩
        rw [hw']
        clear hw'
        rw [show (⟨#[43]⟩ : ByteArray).data.toList = [43] from rfl]
        generalize hT : Lib.trimPrefix P.data.toList [43] = T at *
        have HT := Lib.hid hT
        clear hT
        go_wp2_with (at_builtin; refine wpList_append_seg _ rfl _ _ 9 rfl rfl (Hs3.out) _ rfl _ (T) rfl (src_str _ _) ?c1_11 ?c2_11 ?_)
        case c1_11 => (try simp only [List.length_append, List.length_cons, List.length_nil]); omega
        case c2_11 => first | omega | (simp; done) | (simp; omega)
        intro v4 w4 hs4 hb4
        have hbx4 : Below (w.heap.size + 1) w0 w4 := Hb3.out.trans hb4
        have Hb4 := Lib.hid hbx4
        have Hs4 := Lib.hid hs4
        clear hbx4 hb4 hs4
        go_wp2_with fail
        go_ret
        exact ⟨_, rfl, (by
          have h6 := Hs4.out.mono (Nat.le_succ w.heap.size)
          simpa [fracT, HG.out, HhT.out, HpT.out, HT.out] using h6), Hb0.out.trans (Hb4.out.mono (Nat.le_succ _))⟩
    | cons c t =>
      rw [List.length_cons] at hl2
      go_wp2_with (at_builtin; refine wpList_append_seg _ rfl _ _ 42 rfl rfl (Hs2.out.keep ((Below.refl _ _).alloc (Nat.le_refl _) _)) _ rfl 1 ([46]) rfl (src_one wt _ rfl 46) ?c1_12 ?c2_12 ?_)
      case c1_12 => (try simp only [List.length_append, List.length_cons, List.length_nil]); omega
      case c2_12 => first | omega | (simp; done) | (simp; omega)
      intro v3 w3 hs3 hb3
      have hbx3 : Below (w.heap.size + 1) w0 w3 := ((Hb2.out.alloc hz2 _).trans hb3)
      have hz3 : w.heap.size + 1 ≤ w3.heap.size := by have := hbx3.size; rw [Hz0.out] at this; exact this
      have hzs3 : w.heap.size < w3.heap.size := by omega
      have Hb3 := Lib.hid hbx3
      have Hs3 := Lib.hid hs3
      have hc3 := (Hc.out w3 hbx3).2.2
      clear hbx3 hb3 hs3
      go_wp2_with (at_builtin; refine wpList_append_seg _ rfl _ _ 9 rfl rfl (Hs3.out) _ rfl _ (c :: t) rfl (src_str _ _) ?c1_13 ?c2_13 ?_)
      case c1_13 => (try simp only [List.length_append, List.length_cons, List.length_nil]); omega
      case c2_13 => first | omega | (simp; done) | (simp; omega)
      intro v4 w4 hs4 hb4
      have hbx4 : Below (w.heap.size + 1) w0 w4 := (Hb3.out.trans hb4)
      have hz4 : w.heap.size + 1 ≤ w4.heap.size := by have := hbx4.size; rw [Hz0.out] at this; exact this
      have hzs4 : w.heap.size < w4.heap.size := by omega
      have Hb4 := Lib.hid hbx4
      have Hs4 := Lib.hid hs4
      have hc4 := (Hc.out w4 hbx4).2.2
      clear hbx4 hb4 hs4
      by_cases hP : P.data.toList = []
      · have hP' := str_empty P _ rfl hP
        subst hP'
        clear hP
        go_wp2_with fail
        go_ret
        exact ⟨_, rfl, (by have := Hs4.out.mono (Nat.le_succ w.heap.size); simpa [powT, fracT, HG.out, HhT.out] using this), Hb0.out.trans (Hb4.out.mono (Nat.le_succ _))⟩
      · obtain ⟨q1, q2⟩ := str_full P hP
        have HpT : Hid (powT P.data.toList = 101 :: Lib.trimPrefix P.data.toList [43]) := Lib.hid (by rw [powT, if_neg hP])
        clear hP
        go_wp2_with (at_builtin; refine wpList_append_seg _ rfl _ _ 42 rfl rfl (Hs4.out.keep ((Below.refl _ _).alloc (Nat.le_refl _) _)) _ rfl 1 ([101]) rfl (src_one w4 _ rfl 101) ?c1_14 ?c2_14 ?_)
        case c1_14 => (try simp only [List.length_append, List.length_cons, List.length_nil]); omega
        case c2_14 => first | omega | (simp; done) | (simp; omega)
        intro v5 w5 hs5 hb5
        have hbx5 : Below (w.heap.size + 1) w0 w5 := ((Hb4.out.alloc hz4 _).trans hb5)
        have hz5 : w.heap.size + 1 ≤ w5.heap.size := by have := hbx5.size; rw [Hz0.out] at this; exact this
        have hzs5 : w.heap.size < w5.heap.size := by omega
        have Hb5 := Lib.hid hbx5
        have Hs5 := Lib.hid hs5
        have hc5 := (Hc.out w5 hbx5).2.2
        clear hbx5 hb5 hs5
        go_wp2_with fail
        refine (Tryz.strings_TrimPrefix P ⟨#[43]⟩ _).mono ?_
        rintro e w' ⟨rfl, hw'⟩
        rw [hw']
        clear hw'
        rw [show (⟨#[43]⟩ : ByteArray).data.toList = [43] from rfl]
        generalize hT : Lib.trimPrefix P.data.toList [43] = T at *
        have HT := Lib.hid hT
        clear hT
        go_wp2_with (at_builtin; refine wpList_append_seg _ rfl _ _ 9 rfl rfl (Hs5.out) _ rfl _ (T) rfl (src_str _ _) ?c1_15 ?c2_15 ?_)
        case c1_15 => (try simp only [List.length_append, List.length_cons, List.length_nil]); omega
        case c2_15 => first | omega | (simp; done) | (simp; omega)
        intro v6 w6 hs6 hb6
        have hbx6 : Below (w.heap.size + 1) w0 w6 := Hb5.out.trans hb6
        have Hb6 := Lib.hid hbx6
        have Hs6 := Lib.hid hs6
        clear hbx6 hb6 hs6
        go_wp2_with fail
        go_ret
        exact ⟨_, rfl, (by
          have h6 := Hs6.out.mono (Nat.le_succ w.heap.size)
          simpa [fracT, HG.out, HhT.out, HpT.out, HT.out] using h6), Hb0.out.trans (Hb6.out.mono (Nat.le_succ _))⟩

theorem printDecimal_any (p : Parts) (w : World) (hlim : p.whole.length + p.frac.length + (p.sgn ++ p.pow).length + 100 ≤ 140737488355328) :
    Calls Tryz.prog 23 #[litV p] w (SegPost w.heap.size w (headT p.whole ++ fracT p.frac ++ powT (p.sgn ++ p.pow))) :=
  print_core _ ⟨p.whole.toArray⟩ ⟨p.frac.toArray⟩ ⟨(p.sgn ++ p.pow).toArray⟩ p.big w (by rw [size_of, size_of, size_of]; exact hlim)

end Num
end Go.Proofs.YtinjaopgnlpncaaGreatDoor
