/-
  The library's ParseUint at base 16 and 32 bits, of digits alone.
-/
import Derived.Test.YtjoohpdohdehgaaGreatDoorRegNum
namespace Go.Proofs.YtjoohpdohdehgaaGreatDoor
namespace Reg
open Go.RowKit
open Str (hexV)

/-- Block g's first cells are the bytes l. -/
def BytesAt (w : World) (g : Nat) (l : List UInt8) : Prop := ∀ j (h : j < l.length), w.cell? ⟨g, j, none⟩ = some (.int .u8 ((l[j]).toNat : Int))
/-- The world behind '[]byte(s)'. -/
def rowW (w : World) (s : ByteArray) (cap : Nat) : World := w.drew.alloc (.cells (bytesRow s cap) 5 ((bytesRow s cap).size, (bytesRow s cap).size + 1))
theorem bytes_new (w : World) (s : ByteArray) (cap : Nat) : BytesAt (rowW w s cap) w.heap.size s.data.toList ∧ Below w.heap.size w (rowW w s cap) := by
  refine ⟨?_, ((Below.refl _ _).drew).alloc (Nat.le_refl _) _⟩
  unfold rowW
  intro j hj
  generalize hC : bytesRow s cap = C
  have hjs : j < s.data.size := by simpa using hj
  have hget : C[j]? = some (.int .u8 ((s.data.toList[j]).toNat : Int)) := by
    have := bytesRow_at s cap j hjs
    rw [← hC, this]
    simp
  have := World.cell?_alloc_mark w.drew C 5 (C.size, C.size + 1) j
  rw [show w.drew.heap.size = w.heap.size from rfl] at this
  rw [this, hget]
theorem bytes_ex (w : World) (s : ByteArray) : ∃ cap w1, (convert 9 38 (.string s)).run Tryz.prog w = .ok (.slice (some ⟨w.heap.size, 0, none⟩) s.size cap) w1 ∧ BytesAt w1 w.heap.size s.data.toList ∧ Below w.heap.size w w1 :=
  ⟨_, _, run_bytes_of_string w 9 38 5 s Tryz.underlying9 Tryz.underlying38 Tryz.underlying5, (bytes_new w s _).1, (bytes_new w s _).2⟩

theorem lower_up : ∀ c : Nat, c < 71 → (65 ≤ c → bits .or .u8 (c : Int) 32 = ((c + 32 : Nat) : Int)) := by decide +kernel
theorem lower_low : ∀ c : Nat, c < 103 → (97 ≤ c → bits .or .u8 (c : Int) 32 = (c : Int)) := by decide +kernel

theorem lower_any (c d : Nat) (w : World) (h : 65 ≤ c ∧ c ≤ 70 ∧ d = c + 32 ∨ 97 ≤ c ∧ c ≤ 102 ∧ d = c) :
    Calls Tryz.prog 124 #[.int .u8 c] w fun e w' => e = .returned (.int .u8 d) ∧ w = w' :=
  (Tryz.internal_strconv_lower c w).mono fun _ _ ⟨he, hw⟩ => ⟨by
    rcases h with ⟨h1, h2, h3⟩ | ⟨h1, h2, h3⟩
    · rw [he, lower_up c (by omega) h1, h3]
    · rw [he, lower_low c (by omega) h1, h3], hw.symm⟩

theorem valL_ge (l : List UInt8) : ∀ v, v ≤ valL v l := by
  induction l with
  | nil => intro v; exact Nat.le_refl _
  | cons x l ih => intro v; rw [valL]; have := ih (v * 16 + (hexV x.toNat).toNat); omega
theorem valL_app (a b : List UInt8) : ∀ v, valL v (a ++ b) = valL (valL v a) b := by
  induction a with
  | nil => intro v; rfl
  | cons x l ih => intro v; rw [List.cons_append, valL, ih, valL]
theorem take_snoc (l : List UInt8) (k : Nat) (h : k < l.length) : l.take (k + 1) = l.take k ++ [l[k]] := by rw [List.take_succ_eq_append_getElem h]
theorem valL_take (l : List UInt8) (k : Nat) (h : k < l.length) : valL 0 (l.take (k + 1)) = valL 0 (l.take k) * 16 + (hexV (l[k]).toNat).toNat := by
  rw [take_snoc l k h, valL_app]; rfl
theorem valL_part (l : List UInt8) (k : Nat) : valL 0 (l.take k) ≤ valL 0 l := by
  have := valL_app (l.take k) (l.drop k) 0
  rw [List.take_append_drop] at this
  rw [this]; exact valL_ge _ _

theorem int_eq {k : IntKind} {a b : Int} (h : a = b) : Value.int k a = .int k b := by rw [h]
/-- Every byte of s is a digit: the value of one. -/
theorem hex_digit (x : UInt8) (h : hexB x.toNat = true) : (48 ≤ x.toNat ∧ x.toNat ≤ 57 ∧ (hexV x.toNat).toNat = x.toNat - 48) ∨ (65 ≤ x.toNat ∧ x.toNat ≤ 70 ∧ (hexV x.toNat).toNat = x.toNat - 55) ∨ (97 ≤ x.toNat ∧ x.toNat ≤ 102 ∧ (hexV x.toNat).toNat = x.toNat - 87) := by
  have h' := of_decide_eq_true h
  rcases h' with h' | h' | h'
  · refine Or.inl ⟨by omega, by omega, ?_⟩
    rw [hexV, if_pos h']; omega
  · refine Or.inr (Or.inl ⟨by omega, by omega, ?_⟩)
    rw [hexV, if_neg (by omega), if_pos h']; omega
  · refine Or.inr (Or.inr ⟨by omega, by omega, ?_⟩)
    rw [hexV, if_neg (by omega), if_neg (by omega), if_pos h']; omega

/-- What ParseUint answers. -/
def parsed (l : List UInt8) : Value := if valL 0 l ≤ 4294967295 then .tuple #[.int .u64 (valL 0 l : Nat), .nilIface] else .tuple #[.int .u64 4294967295, .iface 116 (.int .i64 1)]
set_option maxHeartbeats 4000000 in
set_option maxRecDepth 100000 in
theorem parse_any (s : ByteArray) (w : World) (hs : s.size ≤ 4096) (hne : s.toList.isEmpty = false) (hx : ∀ x ∈ s.data.toList, hexB x.toNat = true) :
    Calls Tryz.prog 113 #[.string s, .int .i64 16, .int .i64 32] w fun e w' => e = .returned (parsed s.data.toList) ∧ Below w.heap.size w w' := by
  obtain ⟨cap, w1, hrun, hby, hbe⟩ := bytes_ex w s
  have HB := Lib.hid hby; have HE := Lib.hid hbe; have HX := Lib.hid hx
  clear hby hbe hx
  generalize w.heap.size = g at *
  go_enter Tryz.func113, Tryz.ntmps113
  go_wp2_with fail
  clear hrun
  go_loop [12, 13, 101] (fun u v c => ∃ k : Nat, k ≤ s.size ∧ c = .int .i64 k ∧ u = .bool false ∧ v = .int .u64 (valL 0 (s.data.toList.take k) : Nat) ∧ valL 0 (s.data.toList.take k) ≤ 4294967295) (fun _ _ c => s.size - (intOf c).toNat)
  case atStart => exact ⟨0, by omega, rfl, rfl, rfl, by simp [valL]⟩
  case round =>
    obtain ⟨k, hk, rfl, rfl, rfl, hmax⟩ := hrel
    by_cases hlt : k < s.size
    · have hl : k < s.data.toList.length := by simpa using hlt
      have hcell := HB.out k hl
      have hstep := valL_take s.data.toList k hl
      have hhex := HX.out _ (List.getElem_mem hl)
      have hdig := hex_digit _ hhex
      generalize s.data.toList[k] = x at *
      obtain ⟨y, hy⟩ : ∃ y, valL 0 (s.data.toList.take (k + 1)) = y := ⟨_, rfl⟩
      rw [hy] at hstep
      have HY := Lib.hid hy; clear hy
      generalize valL 0 (s.data.toList.take k) = v at *
      generalize (hexV x.toNat).toNat = d at *
      generalize x.toNat = c at *
      have Hs := Lib.hid hstep; clear hstep hhex
      rcases hdig with ⟨h1, h2, h3⟩ | ⟨h1, h2, h3⟩ | ⟨h1, h2, h3⟩
      · have H3 := Lib.hid h3; clear h3
        have e0 : ((c : Int) == 95) = false := beq_eq_false_iff_ne.2 (by omega)
        have hv2 : (v : Int) ≤ 4294967295 := by omega
        have hv0 : (0 : Int) ≤ v := by omega
        have Hcat : Hid ((v : Int) * 16 + ((c : Int) - 48) = (y : Int)) := Lib.hid (by have := Hs.out; have := H3.out; omega)
        clear hmax Hs
        by_cases hm : y ≤ 4294967295
        · have hy2 : ((v : Int) * 16 + ((c : Int) - 48)) ≤ 4294967295 := by have := Hcat.out; omega
          generalize (v : Int) = V at *
          have hc1 : decide ((1152921504606846976 : Int) ≤ V) = false := decide_eq_false (by omega)
          go_wp2_with fail
          go_round
          case rel => exact ⟨k + 1, by omega, by go_num, rfl, int_eq (by first | (rw [HY.out, ← Hcat.out]; done) | (rw [HY.out, ← Hcat.out]; omega)), by rw [HY.out]; exact hm⟩
          case measure => simp [intOf]; omega
        · have hy2 : ¬ ((v : Int) * 16 + ((c : Int) - 48)) ≤ 4294967295 := by have := Hcat.out; omega
          have He : Hid (¬ valL 0 s.data.toList ≤ 4294967295) := Lib.hid (by have := valL_part s.data.toList (k + 1); rw [HY.out] at this; omega)
          clear hm
          generalize (v : Int) = V at *
          have hc1 : decide ((1152921504606846976 : Int) ≤ V) = false := decide_eq_false (by omega)
          go_wp2_with fail
          go_ret2
          rw [show parsed s.data.toList = .tuple #[.int .u64 4294967295, .iface 116 (.int .i64 1)] from if_neg He.out]
          exact ⟨rfl, HE.out⟩
      · have H3 := Lib.hid h3; clear h3
        have e0 : ((c : Int) == 95) = false := beq_eq_false_iff_ne.2 (by omega)
        have hv2 : (v : Int) ≤ 4294967295 := by omega
        have hv0 : (0 : Int) ≤ v := by omega
        have Hcat : Hid ((v : Int) * 16 + ((c : Int) - 55) = (y : Int)) := Lib.hid (by have := Hs.out; have := H3.out; omega)
        clear hmax Hs
        by_cases hm : y ≤ 4294967295
        · have hy2 : ((v : Int) * 16 + ((c : Int) - 55)) ≤ 4294967295 := by have := Hcat.out; omega
          generalize (v : Int) = V at *
          have hc1 : decide ((1152921504606846976 : Int) ≤ V) = false := decide_eq_false (by omega)
          go_wp2_with fail
          refine (lower_any c (c + 32) _ (by omega)).mono ?_
          rintro e wx ⟨rfl, rfl⟩
          go_wp2_with fail
          refine (lower_any c (c + 32) _ (by omega)).mono ?_
          rintro e wx ⟨rfl, rfl⟩
          go_wp2_with fail
          refine (lower_any c (c + 32) _ (by omega)).mono ?_
          rintro e wx ⟨rfl, rfl⟩
          go_wp2_with fail
          go_round
          case rel => exact ⟨k + 1, by omega, by go_num, rfl, int_eq (by first | (rw [HY.out, ← Hcat.out]; done) | (rw [HY.out, ← Hcat.out]; omega)), by rw [HY.out]; exact hm⟩
          case measure => simp [intOf]; omega
        · have hy2 : ¬ ((v : Int) * 16 + ((c : Int) - 55)) ≤ 4294967295 := by have := Hcat.out; omega
          have He : Hid (¬ valL 0 s.data.toList ≤ 4294967295) := Lib.hid (by have := valL_part s.data.toList (k + 1); rw [HY.out] at this; omega)
          clear hm
          generalize (v : Int) = V at *
          have hc1 : decide ((1152921504606846976 : Int) ≤ V) = false := decide_eq_false (by omega)
          go_wp2_with fail
          refine (lower_any c (c + 32) _ (by omega)).mono ?_
          rintro e wx ⟨rfl, rfl⟩
          go_wp2_with fail
          refine (lower_any c (c + 32) _ (by omega)).mono ?_
          rintro e wx ⟨rfl, rfl⟩
          go_wp2_with fail
          refine (lower_any c (c + 32) _ (by omega)).mono ?_
          rintro e wx ⟨rfl, rfl⟩
          go_wp2_with fail
          go_ret2
          rw [show parsed s.data.toList = .tuple #[.int .u64 4294967295, .iface 116 (.int .i64 1)] from if_neg He.out]
          exact ⟨rfl, HE.out⟩
      · have H3 := Lib.hid h3; clear h3
        have e0 : ((c : Int) == 95) = false := beq_eq_false_iff_ne.2 (by omega)
        have hv2 : (v : Int) ≤ 4294967295 := by omega
        have hv0 : (0 : Int) ≤ v := by omega
        have Hcat : Hid ((v : Int) * 16 + ((c : Int) - 87) = (y : Int)) := Lib.hid (by have := Hs.out; have := H3.out; omega)
        clear hmax Hs
        by_cases hm : y ≤ 4294967295
        · have hy2 : ((v : Int) * 16 + ((c : Int) - 87)) ≤ 4294967295 := by have := Hcat.out; omega
          generalize (v : Int) = V at *
          have hc1 : decide ((1152921504606846976 : Int) ≤ V) = false := decide_eq_false (by omega)
          go_wp2_with fail
          refine (lower_any c c _ (by omega)).mono ?_
          rintro e wx ⟨rfl, rfl⟩
          go_wp2_with fail
          refine (lower_any c c _ (by omega)).mono ?_
          rintro e wx ⟨rfl, rfl⟩
          go_wp2_with fail
          refine (lower_any c c _ (by omega)).mono ?_
          rintro e wx ⟨rfl, rfl⟩
          go_wp2_with fail
          go_round
          case rel => exact ⟨k + 1, by omega, by go_num, rfl, int_eq (by first | (rw [HY.out, ← Hcat.out]; done) | (rw [HY.out, ← Hcat.out]; omega)), by rw [HY.out]; exact hm⟩
          case measure => simp [intOf]; omega
        · have hy2 : ¬ ((v : Int) * 16 + ((c : Int) - 87)) ≤ 4294967295 := by have := Hcat.out; omega
          have He : Hid (¬ valL 0 s.data.toList ≤ 4294967295) := Lib.hid (by have := valL_part s.data.toList (k + 1); rw [HY.out] at this; omega)
          clear hm
          generalize (v : Int) = V at *
          have hc1 : decide ((1152921504606846976 : Int) ≤ V) = false := decide_eq_false (by omega)
          go_wp2_with fail
          refine (lower_any c c _ (by omega)).mono ?_
          rintro e wx ⟨rfl, rfl⟩
          go_wp2_with fail
          refine (lower_any c c _ (by omega)).mono ?_
          rintro e wx ⟨rfl, rfl⟩
          go_wp2_with fail
          refine (lower_any c c _ (by omega)).mono ?_
          rintro e wx ⟨rfl, rfl⟩
          go_wp2_with fail
          go_ret2
          rw [show parsed s.data.toList = .tuple #[.int .u64 4294967295, .iface 116 (.int .i64 1)] from if_neg He.out]
          exact ⟨rfl, HE.out⟩
    · obtain rfl : k = s.size := by omega
      have Hm := Lib.hid hmax; clear hmax
      go_wp2_with fail
      go_ret2
      have hm := Hm.out
      rw [List.take_of_length_le (by simp)] at hm ⊢
      rw [show parsed s.data.toList = .tuple #[.int .u64 (valL 0 s.data.toList : Nat), .nilIface] from if_pos hm]
      exact ⟨rfl, HE.out⟩

theorem nonempty_of {s : ByteArray} (h : s.data.toList ≠ []) : s.toList.isEmpty = false := by
  rw [Lib.toList_data]
  cases e : s.data.toList with
  | nil => exact absurd e h
  | cons x t => rfl

set_option maxHeartbeats 1000000 in
theorem pu_ok (s : ByteArray) (w : World) (hs : s.size ≤ 4096) (hne : s.data.toList ≠ []) (hx : ∀ x ∈ s.data.toList, hexB x.toNat = true) (hv : valL 0 s.data.toList ≤ 4294967295) :
    Calls Tryz.prog 108 #[.string s, .int .i64 16, .int .i64 32] w fun e w' => e = .returned (.tuple #[.int .u64 (valL 0 s.data.toList : Nat), .nilIface]) ∧ Below w.heap.size w w' := by
  have HP : Hid (parsed s.data.toList = .tuple #[.int .u64 (valL 0 s.data.toList : Nat), .nilIface]) := Lib.hid (if_pos hv)
  have C := Lib.hid (parse_any s w hs (nonempty_of hne) hx)
  clear hne hx hv
  go_enter Tryz.func108, Tryz.ntmps108
  go_wp2_with fail
  refine C.out.mono ?_
  rintro e w1 ⟨rfl, hb⟩
  rw [HP.out]
  go_wp2_with fail
  go_ret2
  exact ⟨rfl, hb⟩

set_option maxHeartbeats 1000000 in
theorem pu_over (s : ByteArray) (w : World) (B : Nat) (hT : Tabs B w) (hs : s.size ≤ 4096) (hne : s.data.toList ≠ []) (hx : ∀ x ∈ s.data.toList, hexB x.toNat = true) (hv : ¬ valL 0 s.data.toList ≤ 4294967295) :
    Calls Tryz.prog 108 #[.string s, .int .i64 16, .int .i64 32] w fun e w' => ∃ v N, e = .returned (.tuple #[.int .u64 v, .iface 117 (.pointer (some ⟨N, 0, none⟩))]) ∧ Below w.heap.size w w' := by
  have HP : Hid (parsed s.data.toList = .tuple #[.int .u64 4294967295, .iface 116 (.int .i64 1)]) := Lib.hid (if_neg hv)
  have C := Lib.hid (parse_any s w hs (nonempty_of hne) hx)
  clear hne hx hv
  go_enter Tryz.func108, Tryz.ntmps108
  go_wp2_with fail
  refine C.out.mono ?_
  rintro e w1 ⟨rfl, hb⟩
  rw [HP.out]
  obtain ⟨t, p, hc⟩ := (hT.on (hb.mono hT.le)).at.rng
  have HC := Lib.hid hc; clear hc
  go_wp2_with fail
  refine (Tryz.strconv_toError_range _ s 16 32 _ _ (by omega) HC.out (Or.inr ⟨t, p, rfl⟩)).mono ?_
  rintro e w2 ⟨N, rfl, -, -, hb2⟩
  go_wp2_with fail
  go_ret2
  exact ⟨_, N, rfl, hb.trans (hb2.mono hb.size)⟩

set_option maxHeartbeats 1000000 in
theorem pu_none (s : ByteArray) (w : World) (B : Nat) (hT : Tabs B w) (he : s.data.toList = []) :
    Calls Tryz.prog 108 #[.string s, .int .i64 16, .int .i64 32] w fun e w' => ∃ v N, e = .returned (.tuple #[.int .u64 v, .iface 117 (.pointer (some ⟨N, 0, none⟩))]) ∧ Below w.heap.size w w' := by
  obtain rfl : s = ⟨#[]⟩ := by rw [← ofL_eq s, he]; rfl
  clear he
  obtain ⟨t, p, hc⟩ := hT.at.syn
  have HC := Lib.hid hc; clear hc
  go_enter Tryz.func108, Tryz.ntmps108
  go_wp2_with fail
  refine (Tryz.internal_strconv_ParseUint_empty 16 32 _).mono ?_
  rintro e w1 ⟨rfl, rfl⟩
  go_wp2_with fail
  refine (Tryz.strconv_toError_syntax _ _ 16 32 _ _ (by decide) HC.out (Or.inr ⟨t, p, rfl⟩)).mono ?_
  rintro e w2 ⟨N, rfl, -, -, hb2⟩
  go_wp2_with fail
  go_ret2
  exact ⟨_, N, rfl, hb2⟩

end Reg
end Go.Proofs.YtjoohpdohdehgaaGreatDoor
