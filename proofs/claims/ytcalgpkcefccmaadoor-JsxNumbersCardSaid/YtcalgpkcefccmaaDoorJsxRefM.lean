/-
  The document's own side: the number of an entity.
-/
import Derived.Test.YtcalgpkcefccmaaDoorJsxRefN
namespace Go.Proofs.YtcalgpkcefccmaaDoor
namespace Jsx
open Go.RowKit

theorem empty_iff (s : ByteArray) (l : List UInt8) (h : s.data.toList = l) : s.toList.isEmpty = l.isEmpty := by rw [Lib.toList_data, h]
theorem get_list (s : ByteArray) (l : List UInt8) (h : s.data.toList = l) (k : Nat) (hk : k < s.size) (x : UInt8) (hx : l[k]? = some x) : s[k] = x := by
  subst h
  have e : s.data.toList[k]? = some s[k] := by rw [List.getElem?_eq_getElem (by rw [list_size]; exact hk)]; rfl
  rw [e] at hx; exact Option.some.inj hx

set_option maxRecDepth 20000 in
set_option maxHeartbeats 4000000 in
theorem rnum_hex (s : ByteArray) (r : List UInt8) (w : World) (hl : s.data.toList = 35 :: 120 :: r) (hs : s.size ≤ 140737488355328) :
    Calls Tryd.prog 29 #[.string s] w fun e w' => e = .returned (.int .i64 (numV (120 :: r))) ∧ w = w' := by
  have Hl := Lib.hid hl; clear hl
  have hz : s.size = r.length + 2 := by rw [← list_size, Hl.out]; rfl
  have h2 : 0 < s.size - 1 := by omega
  have h3 : 1 ≤ s.size := by omega
  have hu1 : (s.extract 1 s.size).data.toList = 120 :: r := by rw [drop_str, ofL_list, Hl.out]; rfl
  have hu2 : ((s.extract 1 s.size).extract 1 (s.size - 1)).data.toList = r := by rw [mid_str, hu1, ofL_list, List.drop_succ_cons, List.drop_zero, List.take_of_length_le (by omega)]
  have hx : ((s.extract 1 s.size)[0]'(by simp; omega)) = 120 := get_list _ _ hu1 _ _ _ rfl
  have hx' : (((((s.extract 1 s.size)[0]'(by simp; omega)).toNat : Nat) : Int) == 120) = true := by rw [hx]; rfl
  have hemp := empty_iff _ _ hu2
  clear hu1 hx
  have Hu2 := Lib.hid hu2
  clear hu2 hz
  by_cases hr : r = []
  · subst hr
    have hemp' : ((s.extract 1 s.size).extract 1 (s.size - 1)).toList.isEmpty = true := hemp
    clear hemp
    go_enter Tryd.func29, Tryd.ntmps29
    go_wp2_with fail
    go_ret
    exact ⟨rfl, rfl⟩
  have Hn : Hid (numV (120 :: r) = digsF true 0 r) := Lib.hid ((if_pos rfl).trans (if_neg hr))
  have hemp' : ((s.extract 1 s.size).extract 1 (s.size - 1)).toList.isEmpty = false := by rw [hemp]; cases r with | nil => exact absurd rfl hr | cons => rfl
  clear hemp hr
  go_enter Tryd.func29, Tryd.ntmps29
  go_wp2_with fail
  have husz : ((s.extract 1 s.size).extract 1 (s.size - 1)).size ≤ s.size := by simp; omega
  clear hx'
  generalize ((s.extract 1 s.size).extract 1 (s.size - 1)) = u at *
  have Hu := Hu2
  clear hemp'
  go_loop [4, 5] (fun v i => ∃ a k : Nat, v = .int .i64 a ∧ i = .int .i64 k ∧ a ≤ 1114112 ∧ k ≤ u.size ∧ Hid (digsF true 0 r = digsF true a (r.drop k))) (fun _ i => u.size - (intOf i).toNat)
  case atStart => exact ⟨0, 0, rfl, rfl, by omega, by omega, Lib.hid rfl⟩
  case round =>
    obtain ⟨a, k, rfl, rfl, ha, hk, Hs⟩ := hrel
    by_cases hlt : k < u.size
    · have Hd : Hid (r.drop k = u[k] :: r.drop (k + 1)) := Lib.hid (by rw [← Hu.out]; exact drop_at u k hlt)
      go_wp2_with fail
      refine (rdig_hex (u[k]'hlt) _).mono ?_
      rintro e w1 ⟨rfl, rfl⟩
      cases hg : digH true (u[k]'hlt) with
      | some d =>
        have Hf : Hid (digsF true 0 r = digsF true (stepN true a d) (r.drop (k + 1))) := Lib.hid (by rw [Hs.out, Hd.out, digsF, hg])
        have hr : digR true (u[k]'hlt) = (d : Int) := by rw [digR, hg]
        have hd := digH_lt _ _ _ hg
        rw [hr]
        clear hg hr
        have Hm : Hid (min (16 * (a : Int) + (d : Int)) 1114112 = ((stepN true a d : Nat) : Int)) := Lib.hid (by
          unfold stepN; rw [← cap_min]; rw [if_pos rfl]; omega)
        have hc := Lib.hid (stepN_le true a d)
        generalize stepN true a d = g at *
        go_wp2_with fail
        go_round
        case rel => exact ⟨g, k + 1, by rw [Hm.out], by go_num, hc.out, by omega, Hf⟩
        case measure => simp [intOf]; omega
      | none =>
        have Hf : Hid (digsF true 0 r = -1) := Lib.hid (by rw [Hs.out, Hd.out, digsF, hg])
        have hr : digR true (u[k]'hlt) = -1 := by rw [digR, hg]
        rw [hr]
        clear hg hr
        go_wp2_with fail
        go_ret
        exact ⟨ret_int (by rw [Hn.out, Hf.out]), rfl⟩
    · have Hf : Hid (digsF true 0 r = a) := Lib.hid (by rw [Hs.out, List.drop_eq_nil_of_le (by rw [← Hu.out, list_size]; omega)]; rfl)
      go_wp2_with fail
      go_ret
      exact ⟨ret_int (by rw [Hn.out, Hf.out]), rfl⟩

set_option maxRecDepth 20000 in
set_option maxHeartbeats 4000000 in
theorem rnum_dec (s : ByteArray) (r : List UInt8) (w : World) (hl : s.data.toList = 35 :: r) (hx0 : r.head? ≠ some 120) (hs : s.size ≤ 140737488355328) :
    Calls Tryd.prog 29 #[.string s] w fun e w' => e = .returned (.int .i64 (numV r)) ∧ w = w' := by
  have Hl := Lib.hid hl; clear hl
  have hz : s.size = r.length + 1 := by rw [← list_size, Hl.out]; rfl
  have h3 : 1 ≤ s.size := by omega
  have hu1 : (s.extract 1 s.size).data.toList = r := by rw [drop_str, ofL_list, Hl.out]; rfl
  have hemp := empty_iff _ _ hu1
  have Hu := Lib.hid hu1
  by_cases hr : r = []
  · subst hr
    have hemp' : (s.extract 1 s.size).toList.isEmpty = true := hemp
    have h4 : ¬ 0 < s.size - 1 := by rw [hz]; simp
    clear hemp hu1 hz
    go_enter Tryd.func29, Tryd.ntmps29
    go_wp2_with fail
    go_ret
    exact ⟨rfl, rfl⟩
  have Hn : Hid (numV r = digsF false 0 r) := Lib.hid (by rw [numV, if_neg hx0]; exact if_neg hr)
  have hemp' : (s.extract 1 s.size).toList.isEmpty = false := by rw [hemp]; cases r with | nil => exact absurd rfl hr | cons => rfl
  have hrl : 0 < r.length := by cases r with | nil => exact absurd rfl hr | cons => simp
  have h2 : 0 < s.size - 1 := by omega
  have hx' : (((((s.extract 1 s.size)[0]'(by simp; omega)).toNat : Nat) : Int) == 120) = false := by
    refine beq_eq_false_iff_ne.2 (fun h => hx0 ?_)
    cases r with
    | nil => exact absurd rfl hr
    | cons x r' =>
      have e : ((s.extract 1 s.size)[0]'(by simp; omega)) = x := get_list _ _ hu1 _ _ _ rfl
      rw [e] at h
      have : x = 120 := UInt8.toNat_inj.1 (by show _ = 120; omega)
      rw [this]; rfl
  clear hemp hr hx0 hrl hu1 hz
  go_enter Tryd.func29, Tryd.ntmps29
  go_wp2_with fail
  have husz : (s.extract 1 s.size).size ≤ s.size := by simp
  clear hx'
  generalize ((s.extract 1 s.size)[0]'(by simp; omega)) = x0
  generalize (s.extract 1 s.size) = u at *
  clear hemp'
  go_loop [4, 5] (fun v i => ∃ a k : Nat, v = .int .i64 a ∧ i = .int .i64 k ∧ a ≤ 1114112 ∧ k ≤ u.size ∧ Hid (digsF false 0 r = digsF false a (r.drop k))) (fun _ i => u.size - (intOf i).toNat)
  case atStart => exact ⟨0, 0, rfl, rfl, by omega, by omega, Lib.hid rfl⟩
  case round =>
    obtain ⟨a, k, rfl, rfl, ha, hk, Hs⟩ := hrel
    by_cases hlt : k < u.size
    · have Hd : Hid (r.drop k = u[k] :: r.drop (k + 1)) := Lib.hid (by rw [← Hu.out]; exact drop_at u k hlt)
      go_wp2_with fail
      refine (rdig_dec (u[k]'hlt) _).mono ?_
      rintro e w1 ⟨rfl, rfl⟩
      cases hg : digH false (u[k]'hlt) with
      | some d =>
        have Hf : Hid (digsF false 0 r = digsF false (stepN false a d) (r.drop (k + 1))) := Lib.hid (by rw [Hs.out, Hd.out, digsF, hg])
        have hr : digR false (u[k]'hlt) = (d : Int) := by rw [digR, hg]
        have hd := digH_lt _ _ _ hg
        rw [hr]
        clear hg hr
        have Hm : Hid (min (10 * (a : Int) + (d : Int)) 1114112 = ((stepN false a d : Nat) : Int)) := Lib.hid (by
          unfold stepN; rw [← cap_min]; rw [if_neg (by simp)]; omega)
        have hc := Lib.hid (stepN_le false a d)
        generalize stepN false a d = g at *
        go_wp2_with fail
        go_round
        case rel => exact ⟨g, k + 1, by rw [Hm.out], by go_num, hc.out, by omega, Hf⟩
        case measure => simp [intOf]; omega
      | none =>
        have Hf : Hid (digsF false 0 r = -1) := Lib.hid (by rw [Hs.out, Hd.out, digsF, hg])
        have hr : digR false (u[k]'hlt) = -1 := by rw [digR, hg]
        rw [hr]
        clear hg hr
        go_wp2_with fail
        go_ret
        exact ⟨ret_int (by rw [Hn.out, Hf.out]), rfl⟩
    · have Hf : Hid (digsF false 0 r = a) := Lib.hid (by rw [Hs.out, List.drop_eq_nil_of_le (by rw [← Hu.out, list_size]; omega)]; rfl)
      go_wp2_with fail
      go_ret
      exact ⟨ret_int (by rw [Hn.out, Hf.out]), rfl⟩

end Jsx
end Go.Proofs.YtcalgpkcefccmaaDoor
