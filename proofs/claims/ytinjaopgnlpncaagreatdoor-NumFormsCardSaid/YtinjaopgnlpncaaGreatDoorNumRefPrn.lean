/-
  The document's own print of a literal with a base.
-/
import Derived.Test.YtinjaopgnlpncaaGreatDoorNumRefBas
namespace Go.Proofs.YtinjaopgnlpncaaGreatDoor
namespace Num
open Go.RowKit

def upB (c : UInt8) : UInt8 := if 97 ≤ c.toNat then c - 32 else c
theorem up_all (P : UInt8 → Bool) (h : (List.range 256).all (fun n => P (UInt8.ofNat n)) = true) (c : UInt8) : P c = true := by
  have := List.all_eq_true.1 h c.toNat (List.mem_range.2 c.toNat_lt)
  simpa [UInt8.ofNat_toNat] using this
theorem up_hex (c : UInt8) (h : valN c < 16 ∨ c = 95) : upB (lowN c) = Lib.upperB c := by
  have := up_all (fun c => (!(decide (valN c < 16) || c == 95)) || upB (lowN c) == Lib.upperB c) (by decide +kernel) c
  simp only [Bool.or_eq_true, Bool.not_eq_true', Bool.or_eq_false_iff, decide_eq_false_iff_not, beq_eq_false_iff_ne, beq_iff_eq] at this
  rcases this with h' | h'
  · rcases h with h | h
    · exact absurd h h'.1
    · exact absurd h h'.2
  · exact h'
theorem low_dig (c : UInt8) (h : valN c < 10 ∨ c = 95) : lowN c = Lib.upperB c := by
  have := up_all (fun c => (!(decide (valN c < 10) || c == 95)) || lowN c == Lib.upperB c) (by decide +kernel) c
  simp only [Bool.or_eq_true, Bool.not_eq_true', Bool.or_eq_false_iff, decide_eq_false_iff_not, beq_eq_false_iff_ne, beq_iff_eq] at this
  rcases this with h' | h'
  · rcases h with h | h
    · exact absurd h h'.1
    · exact absurd h h'.2
  · exact h'
theorem up_32 (c : UInt8) (h : 97 ≤ c.toNat) : (upB c).toNat = c.toNat - 32 := by
  rw [upB, if_pos h, UInt8.toNat_sub_of_le _ _ (by show (32 : UInt8).toNat ≤ c.toNat; simp; omega)]; rfl

theorem bas_print (p : Parts) (d : Bas p) (s : ByteArray) (hp : ofL s.data.toList = some p) :
    printS s.data.toList = ⟨([48, letN p.base] ++ Lib.toUpperA p.whole ++ nT p.big).toArray⟩ ∧ okN s.data.toList = 0 ∧ 2 ≤ s.size ∧ (s.data.toList.take 2).map lowN = [48, letN p.base] := by
  rcases ofL_of _ _ hp with ⟨_, b, hb, hl⟩ | ⟨d', _⟩
  · refine ⟨?_, ?_, ?_, ?_⟩
    · rw [printS, hp]; show (⟨(printL p).toArray⟩ : ByteArray) = _; rw [printL, if_neg (by have := d.base; omega)]; rfl
    · rw [okN, hp]; rfl
    · rw [Lib.size_eq, hl, basText]; simp
    · rw [hl, basText, ← let_of _ _ hb d.base]; rfl
  · exact absurd d'.base (by have := d.base; omega)

set_option maxHeartbeats 4000000 in
set_option maxRecDepth 100000 in
theorem rprint_16_false (s : ByteArray) (p : Parts) (w : World) (hs : s.size ≤ 140737488354000) (hp : ofL s.data.toList = some p) (d : Bas p) (hb : p.base = 16) (hg : p.big = false) :
    Calls Tryz.prog 11 #[.string s] w fun e w' => e = .returned (.tuple #[.string (printS s.data.toList), .int .i64 (okN s.data.toList)]) ∧ Below w.heap.size w w' := by
  have hpl := part_len _ _ hp
  rw [← Lib.size_eq] at hpl
  have hraw := bas_raw p d
  obtain ⟨f1, f2, f3, f4⟩ := bas_print p d s hp
  have hmem := run_mem p.base p.whole false d.whole
  rw [hb, hg] at hraw f1
  rw [hb] at f4 hmem
  have H := Lib.hid (of_any s w hs)
  rw [hp] at H
  obtain ⟨a, ha⟩ : ∃ a : ByteArray, (⟨p.whole.toArray⟩ : ByteArray) = a := ⟨_, rfl⟩
  obtain ⟨a1, ha1⟩ : ∃ a1 : ByteArray, (⟨(p.whole.map lowN).toArray⟩ : ByteArray) = a1 := ⟨_, rfl⟩
  have l0 : a.data.toList = p.whole := by rw [← ha]
  have l1 : a1.data.toList = p.whole.map lowN := by rw [← ha1]
  have z0 : a.size ≤ s.size := by rw [Lib.size_eq, l0]; omega
  have z1 : a1.size ≤ s.size := by rw [Lib.size_eq a1, l1, List.length_map]; omega
  have H1 := Lib.hid (fun W => small_any a W (by unfold maxLen; omega))
  rw [l0, ha1] at H1
  have H2 := Lib.hid (fun W => small_any (s.extract 0 2) W (by unfold maxLen; simp; omega))
  rw [show (s.extract 0 2).data.toList = s.data.toList.take 2 from by rw [take_str], f4] at H2
  have hup : a1.data.toList.map upB = Lib.toUpperA p.whole := by
    rw [l1, List.map_map]
    exact List.map_congr_left (fun c hc => up_hex c (hmem c hc))
  have Hr : Hid (printS s.data.toList = ⟨([48, letN 16] ++ a1.data.toList.map upB ++ nT false).toArray⟩) := Lib.hid (by rw [f1, hup])
  rw [ha] at hraw
  have Hraw := Lib.hid hraw
  have Hok := Lib.hid f2
  clear hraw ha ha1 l0 l1 hpl hp d hb hg f1 f2 f4 hmem hup
  go_enter Tryz.func11, Tryz.ntmps11
  go_wp2_with fail
  refine H.out.mono ?_
  rintro e w1 ⟨hv, hb1⟩
  obtain rfl := (show e = .returned (.tuple #[partV p, .bool true]) from hv)
  clear hv
  rw [Hraw.out]
  unfold rawV
  go_wp2_with fail
  refine (H1.out _).mono ?_
  rintro e w2 ⟨rfl, hb2⟩
  have hz : w1.heap.size < w2.heap.size := by have := hb2.size; simp at this; omega
  have hb12 : Below w.heap.size w w2 := (hb1.alloc hb1.size _).trans (hb2.mono (hb1.alloc hb1.size _).size)
  obtain ⟨hc2, hf2⟩ := bcell hb2
  have g0 := hc2 w1.heap.size 0 (by simp)
  have g7 := hc2 w1.heap.size 7 (by simp)
  rw [World.cell?_alloc_at _ _ _ _ rfl] at g0 g7
  have Hb := Lib.hid hb12
  clear hb2 hc2 hf2 hb12
  obtain ⟨cap, w3, hcv, hcap, hby, hb3, hz3⟩ := bytes_ex w2 a1
  have Hby := Lib.hid hby
  have Hsl := Lib.hid (Lib.size_eq a1)
  clear hby
  go_wp2_with fail
  clear hcv
  go_loopw [8] (fun i wr => ∃ k : Nat, k ≤ a1.size ∧ i = .int .i64 k ∧ Bytes wr w2.heap.size (upto upB k a1.data.toList) ∧ Below w2.heap.size w2 wr) (fun i _ => a1.size - (intOf i).toNat)
  case atStart => exact ⟨0, by omega, rfl, by rw [upto_zero]; exact Hby.out, hb3⟩
  case round =>
    obtain ⟨k, hk, rfl, hby, hw⟩ := hrel
    have Hs := Lib.hid hby; clear hby
    by_cases hlt : k < a1.size
    · have hkl : k < a1.data.toList.length := by rw [← Hsl.out]; exact hlt
      obtain ⟨hc, hfz⟩ := Hs.out k (by rw [upto_len]; exact hkl)
      rw [upto_get upB k _ hkl] at hc
      obtain ⟨c, hcc⟩ : ∃ c : UInt8, a1.data.toList[k] = c := ⟨_, rfl⟩
      rw [hcc] at hc
      have hc8 := c.toNat_lt
      by_cases hr : 97 ≤ c.toNat
      · have g1 : (97 : Int) ≤ (c.toNat : Int) := by omega
        have g2 : ((c.toNat : Int) != 95) = true := by rw [bne_iff_ne]; omega
        have Hn : Hid (Bytes (wr.setCell ⟨w2.heap.size, k, none⟩ (.int .u8 ((c.toNat : Int) - 32))) w2.heap.size (upto upB (k + 1) a1.data.toList)) := Lib.hid (by
          have := Hs.out.set k (by rw [upto_len]; exact hkl) (upB c)
          rw [up_32 c hr, ← hcc, upto_set upB k _ hkl, hcc, show ((c.toNat - 32 : Nat) : Int) = (c.toNat : Int) - 32 by omega] at this
          exact this)
        clear hcc hr hkl
        go_wp2_with fail
        go_roundw
        case rel => exact ⟨k + 1, by omega, by go_num, Hn.out, hw.setCell (Nat.le_refl _) _⟩
        case measure => simp [intOf]; omega
      · have Hn : Hid (Bytes wr w2.heap.size (upto upB (k + 1) a1.data.toList)) := Lib.hid (by
          rw [upto_same upB k _ hkl (by rw [hcc, upB, if_neg hr])]; exact Hs.out)
        have g1 : ¬ (97 : Int) ≤ (c.toNat : Int) := by omega
        clear hcc hr hkl
        go_wp2_with fail
        go_roundw
        case rel => exact ⟨k + 1, by omega, by go_num, Hn.out, hw⟩
        case measure => simp [intOf]; omega
    · have hul := upto_all upB k a1.data.toList (by rw [← Hsl.out]; omega)
      have hby := Hs.out
      rw [hul] at hby
      have hcb := bytes_back hby a1.size (by rw [List.length_map]; exact Hsl.out) cap
      obtain ⟨r, hr⟩ : ∃ r : ByteArray, (⟨(a1.data.toList.map upB).toArray⟩ : ByteArray) = r := ⟨_, rfl⟩
      have hrl : r.data.toList = a1.data.toList.map upB := by rw [← hr]
      have hrs : r.size ≤ s.size := by rw [Lib.size_eq r, hrl, List.length_map, ← Hsl.out]; exact z1
      rw [hr] at hcb
      have Hr2 : Hid (printS s.data.toList = ⟨([48, letN 16] ++ r.data.toList ++ nT false).toArray⟩) := Lib.hid (by rw [Hr.out, hrl])
      have k7 : wr.cell? ⟨w1.heap.size, 7, none⟩ = some (.bool false) := by rw [(bcell hw).1 _ _ hz, g7]; rfl
      have hz4 : w1.heap.size < wr.heap.size := Nat.lt_of_lt_of_le hz hw.size
      have Hb2 : Hid (Below w.heap.size w wr) := Lib.hid (Hb.out.trans (hw.mono Hb.out.size))
      clear hul hby hr hrl g0 g7 hw Hs
      go_wp2_with fail
      refine (H2.out _).mono ?_
      rintro e w5 ⟨rfl, hb5⟩
      have m7 : w5.cell? ⟨w1.heap.size, 7, none⟩ = some (.bool false) := by rw [(bcell hb5).1 _ _ hz4, k7]
      have Hb3 : Hid (Below w.heap.size w w5) := Lib.hid (Hb2.out.trans (hb5.mono Hb2.out.size))
      clear hb5 k7
      go_wp2_with fail
      go_ret2
      exact ⟨ret_str (by rw [Hr2.out]; refine str_eq _ _ ?_; simp [nT, letN]) (by rw [Hok.out]), Hb3.out⟩

set_option maxHeartbeats 4000000 in
set_option maxRecDepth 100000 in
theorem rprint_16_true (s : ByteArray) (p : Parts) (w : World) (hs : s.size ≤ 140737488354000) (hp : ofL s.data.toList = some p) (d : Bas p) (hb : p.base = 16) (hg : p.big = true) :
    Calls Tryz.prog 11 #[.string s] w fun e w' => e = .returned (.tuple #[.string (printS s.data.toList), .int .i64 (okN s.data.toList)]) ∧ Below w.heap.size w w' := by
  have hpl := part_len _ _ hp
  rw [← Lib.size_eq] at hpl
  have hraw := bas_raw p d
  obtain ⟨f1, f2, f3, f4⟩ := bas_print p d s hp
  have hmem := run_mem p.base p.whole false d.whole
  rw [hb, hg] at hraw f1
  rw [hb] at f4 hmem
  have H := Lib.hid (of_any s w hs)
  rw [hp] at H
  obtain ⟨a, ha⟩ : ∃ a : ByteArray, (⟨p.whole.toArray⟩ : ByteArray) = a := ⟨_, rfl⟩
  obtain ⟨a1, ha1⟩ : ∃ a1 : ByteArray, (⟨(p.whole.map lowN).toArray⟩ : ByteArray) = a1 := ⟨_, rfl⟩
  have l0 : a.data.toList = p.whole := by rw [← ha]
  have l1 : a1.data.toList = p.whole.map lowN := by rw [← ha1]
  have z0 : a.size ≤ s.size := by rw [Lib.size_eq, l0]; omega
  have z1 : a1.size ≤ s.size := by rw [Lib.size_eq a1, l1, List.length_map]; omega
  have H1 := Lib.hid (fun W => small_any a W (by unfold maxLen; omega))
  rw [l0, ha1] at H1
  have H2 := Lib.hid (fun W => small_any (s.extract 0 2) W (by unfold maxLen; simp; omega))
  rw [show (s.extract 0 2).data.toList = s.data.toList.take 2 from by rw [take_str], f4] at H2
  have hup : a1.data.toList.map upB = Lib.toUpperA p.whole := by
    rw [l1, List.map_map]
    exact List.map_congr_left (fun c hc => up_hex c (hmem c hc))
  have Hr : Hid (printS s.data.toList = ⟨([48, letN 16] ++ a1.data.toList.map upB ++ nT true).toArray⟩) := Lib.hid (by rw [f1, hup])
  rw [ha] at hraw
  have Hraw := Lib.hid hraw
  have Hok := Lib.hid f2
  clear hraw ha ha1 l0 l1 hpl hp d hb hg f1 f2 f4 hmem hup
  go_enter Tryz.func11, Tryz.ntmps11
  go_wp2_with fail
  refine H.out.mono ?_
  rintro e w1 ⟨hv, hb1⟩
  obtain rfl := (show e = .returned (.tuple #[partV p, .bool true]) from hv)
  clear hv
  rw [Hraw.out]
  unfold rawV
  go_wp2_with fail
  refine (H1.out _).mono ?_
  rintro e w2 ⟨rfl, hb2⟩
  have hz : w1.heap.size < w2.heap.size := by have := hb2.size; simp at this; omega
  have hb12 : Below w.heap.size w w2 := (hb1.alloc hb1.size _).trans (hb2.mono (hb1.alloc hb1.size _).size)
  obtain ⟨hc2, hf2⟩ := bcell hb2
  have g0 := hc2 w1.heap.size 0 (by simp)
  have g7 := hc2 w1.heap.size 7 (by simp)
  rw [World.cell?_alloc_at _ _ _ _ rfl] at g0 g7
  have Hb := Lib.hid hb12
  clear hb2 hc2 hf2 hb12
  obtain ⟨cap, w3, hcv, hcap, hby, hb3, hz3⟩ := bytes_ex w2 a1
  have Hby := Lib.hid hby
  have Hsl := Lib.hid (Lib.size_eq a1)
  clear hby
  go_wp2_with fail
  clear hcv
  go_loopw [8] (fun i wr => ∃ k : Nat, k ≤ a1.size ∧ i = .int .i64 k ∧ Bytes wr w2.heap.size (upto upB k a1.data.toList) ∧ Below w2.heap.size w2 wr) (fun i _ => a1.size - (intOf i).toNat)
  case atStart => exact ⟨0, by omega, rfl, by rw [upto_zero]; exact Hby.out, hb3⟩
  case round =>
    obtain ⟨k, hk, rfl, hby, hw⟩ := hrel
    have Hs := Lib.hid hby; clear hby
    by_cases hlt : k < a1.size
    · have hkl : k < a1.data.toList.length := by rw [← Hsl.out]; exact hlt
      obtain ⟨hc, hfz⟩ := Hs.out k (by rw [upto_len]; exact hkl)
      rw [upto_get upB k _ hkl] at hc
      obtain ⟨c, hcc⟩ : ∃ c : UInt8, a1.data.toList[k] = c := ⟨_, rfl⟩
      rw [hcc] at hc
      have hc8 := c.toNat_lt
      by_cases hr : 97 ≤ c.toNat
      · have g1 : (97 : Int) ≤ (c.toNat : Int) := by omega
        have g2 : ((c.toNat : Int) != 95) = true := by rw [bne_iff_ne]; omega
        have Hn : Hid (Bytes (wr.setCell ⟨w2.heap.size, k, none⟩ (.int .u8 ((c.toNat : Int) - 32))) w2.heap.size (upto upB (k + 1) a1.data.toList)) := Lib.hid (by
          have := Hs.out.set k (by rw [upto_len]; exact hkl) (upB c)
          rw [up_32 c hr, ← hcc, upto_set upB k _ hkl, hcc, show ((c.toNat - 32 : Nat) : Int) = (c.toNat : Int) - 32 by omega] at this
          exact this)
        clear hcc hr hkl
        go_wp2_with fail
        go_roundw
        case rel => exact ⟨k + 1, by omega, by go_num, Hn.out, hw.setCell (Nat.le_refl _) _⟩
        case measure => simp [intOf]; omega
      · have Hn : Hid (Bytes wr w2.heap.size (upto upB (k + 1) a1.data.toList)) := Lib.hid (by
          rw [upto_same upB k _ hkl (by rw [hcc, upB, if_neg hr])]; exact Hs.out)
        have g1 : ¬ (97 : Int) ≤ (c.toNat : Int) := by omega
        clear hcc hr hkl
        go_wp2_with fail
        go_roundw
        case rel => exact ⟨k + 1, by omega, by go_num, Hn.out, hw⟩
        case measure => simp [intOf]; omega
    · have hul := upto_all upB k a1.data.toList (by rw [← Hsl.out]; omega)
      have hby := Hs.out
      rw [hul] at hby
      have hcb := bytes_back hby a1.size (by rw [List.length_map]; exact Hsl.out) cap
      obtain ⟨r, hr⟩ : ∃ r : ByteArray, (⟨(a1.data.toList.map upB).toArray⟩ : ByteArray) = r := ⟨_, rfl⟩
      have hrl : r.data.toList = a1.data.toList.map upB := by rw [← hr]
      have hrs : r.size ≤ s.size := by rw [Lib.size_eq r, hrl, List.length_map, ← Hsl.out]; exact z1
      rw [hr] at hcb
      have Hr2 : Hid (printS s.data.toList = ⟨([48, letN 16] ++ r.data.toList ++ nT true).toArray⟩) := Lib.hid (by rw [Hr.out, hrl])
      have k7 : wr.cell? ⟨w1.heap.size, 7, none⟩ = some (.bool true) := by rw [(bcell hw).1 _ _ hz, g7]; rfl
      have hz4 : w1.heap.size < wr.heap.size := Nat.lt_of_lt_of_le hz hw.size
      have Hb2 : Hid (Below w.heap.size w wr) := Lib.hid (Hb.out.trans (hw.mono Hb.out.size))
      clear hul hby hr hrl g0 g7 hw Hs
      go_wp2_with fail
      refine (H2.out _).mono ?_
      rintro e w5 ⟨rfl, hb5⟩
      have m7 : w5.cell? ⟨w1.heap.size, 7, none⟩ = some (.bool true) := by rw [(bcell hb5).1 _ _ hz4, k7]
      have Hb3 : Hid (Below w.heap.size w w5) := Lib.hid (Hb2.out.trans (hb5.mono Hb2.out.size))
      clear hb5 k7
      go_wp2_with fail
      go_ret2
      exact ⟨ret_str (by rw [Hr2.out]; refine str_eq _ _ ?_; simp [nT, letN]) (by rw [Hok.out]), Hb3.out⟩

set_option maxHeartbeats 4000000 in
set_option maxRecDepth 100000 in
theorem rprint_8_false (s : ByteArray) (p : Parts) (w : World) (hs : s.size ≤ 140737488354000) (hp : ofL s.data.toList = some p) (d : Bas p) (hb : p.base = 8) (hg : p.big = false) :
    Calls Tryz.prog 11 #[.string s] w fun e w' => e = .returned (.tuple #[.string (printS s.data.toList), .int .i64 (okN s.data.toList)]) ∧ Below w.heap.size w w' := by
  have hpl := part_len _ _ hp
  rw [← Lib.size_eq] at hpl
  have hraw := bas_raw p d
  obtain ⟨f1, f2, f3, f4⟩ := bas_print p d s hp
  have hmem := run_mem p.base p.whole false d.whole
  rw [hb, hg] at hraw f1
  rw [hb] at f4 hmem
  have H := Lib.hid (of_any s w hs)
  rw [hp] at H
  obtain ⟨a, ha⟩ : ∃ a : ByteArray, (⟨p.whole.toArray⟩ : ByteArray) = a := ⟨_, rfl⟩
  obtain ⟨a1, ha1⟩ : ∃ a1 : ByteArray, (⟨(p.whole.map lowN).toArray⟩ : ByteArray) = a1 := ⟨_, rfl⟩
  have l0 : a.data.toList = p.whole := by rw [← ha]
  have l1 : a1.data.toList = p.whole.map lowN := by rw [← ha1]
  have z0 : a.size ≤ s.size := by rw [Lib.size_eq, l0]; omega
  have z1 : a1.size ≤ s.size := by rw [Lib.size_eq a1, l1, List.length_map]; omega
  have H1 := Lib.hid (fun W => small_any a W (by unfold maxLen; omega))
  rw [l0, ha1] at H1
  have H2 := Lib.hid (fun W => small_any (s.extract 0 2) W (by unfold maxLen; simp; omega))
  rw [show (s.extract 0 2).data.toList = s.data.toList.take 2 from by rw [take_str], f4] at H2
  have hup : a1.data.toList = Lib.toUpperA p.whole := by
    rw [l1]
    exact List.map_congr_left (fun c hc => low_dig c (by rcases hmem c hc with h | h; exact Or.inl (by omega); exact Or.inr h))
  have Hr : Hid (printS s.data.toList = ⟨([48, letN 8] ++ a1.data.toList ++ nT false).toArray⟩) := Lib.hid (by rw [f1, hup])
  rw [ha] at hraw
  have Hraw := Lib.hid hraw
  have Hok := Lib.hid f2
  clear hraw ha ha1 l0 l1 hpl hp d hb hg f1 f2 f4 hmem hup
  go_enter Tryz.func11, Tryz.ntmps11
  go_wp2_with fail
  refine H.out.mono ?_
  rintro e w1 ⟨hv, hb1⟩
  obtain rfl := (show e = .returned (.tuple #[partV p, .bool true]) from hv)
  clear hv
  rw [Hraw.out]
  unfold rawV
  go_wp2_with fail
  refine (H1.out _).mono ?_
  rintro e w2 ⟨rfl, hb2⟩
  have hz : w1.heap.size < w2.heap.size := by have := hb2.size; simp at this; omega
  have hb12 : Below w.heap.size w w2 := (hb1.alloc hb1.size _).trans (hb2.mono (hb1.alloc hb1.size _).size)
  obtain ⟨hc2, hf2⟩ := bcell hb2
  have g0 := hc2 w1.heap.size 0 (by simp)
  have g7 := hc2 w1.heap.size 7 (by simp)
  rw [World.cell?_alloc_at _ _ _ _ rfl] at g0 g7
  have Hb := Lib.hid hb12
  clear hb2 hc2 hf2 hb12
  go_wp2_with fail
  refine (H2.out _).mono ?_
  rintro e w5 ⟨rfl, hb5⟩
  have m7 : w5.cell? ⟨w1.heap.size, 7, none⟩ = some (.bool false) := by rw [(bcell hb5).1 _ _ hz, g7]; rfl
  have Hb3 : Hid (Below w.heap.size w w5) := Lib.hid (Hb.out.trans (hb5.mono Hb.out.size))
  clear hb5 g0 g7
  go_wp2_with fail
  go_ret2
  exact ⟨ret_str (by rw [Hr.out]; refine str_eq _ _ ?_; simp [nT, letN]) (by rw [Hok.out]), Hb3.out⟩

set_option maxHeartbeats 4000000 in
set_option maxRecDepth 100000 in
theorem rprint_8_true (s : ByteArray) (p : Parts) (w : World) (hs : s.size ≤ 140737488354000) (hp : ofL s.data.toList = some p) (d : Bas p) (hb : p.base = 8) (hg : p.big = true) :
    Calls Tryz.prog 11 #[.string s] w fun e w' => e = .returned (.tuple #[.string (printS s.data.toList), .int .i64 (okN s.data.toList)]) ∧ Below w.heap.size w w' := by
  have hpl := part_len _ _ hp
  rw [← Lib.size_eq] at hpl
  have hraw := bas_raw p d
  obtain ⟨f1, f2, f3, f4⟩ := bas_print p d s hp
  have hmem := run_mem p.base p.whole false d.whole
  rw [hb, hg] at hraw f1
  rw [hb] at f4 hmem
  have H := Lib.hid (of_any s w hs)
  rw [hp] at H
  obtain ⟨a, ha⟩ : ∃ a : ByteArray, (⟨p.whole.toArray⟩ : ByteArray) = a := ⟨_, rfl⟩
  obtain ⟨a1, ha1⟩ : ∃ a1 : ByteArray, (⟨(p.whole.map lowN).toArray⟩ : ByteArray) = a1 := ⟨_, rfl⟩
  have l0 : a.data.toList = p.whole := by rw [← ha]
  have l1 : a1.data.toList = p.whole.map lowN := by rw [← ha1]
  have z0 : a.size ≤ s.size := by rw [Lib.size_eq, l0]; omega
  have z1 : a1.size ≤ s.size := by rw [Lib.size_eq a1, l1, List.length_map]; omega
  have H1 := Lib.hid (fun W => small_any a W (by unfold maxLen; omega))
  rw [l0, ha1] at H1
  have H2 := Lib.hid (fun W => small_any (s.extract 0 2) W (by unfold maxLen; simp; omega))
  rw [show (s.extract 0 2).data.toList = s.data.toList.take 2 from by rw [take_str], f4] at H2
  have hup : a1.data.toList = Lib.toUpperA p.whole := by
    rw [l1]
    exact List.map_congr_left (fun c hc => low_dig c (by rcases hmem c hc with h | h; exact Or.inl (by omega); exact Or.inr h))
  have Hr : Hid (printS s.data.toList = ⟨([48, letN 8] ++ a1.data.toList ++ nT true).toArray⟩) := Lib.hid (by rw [f1, hup])
  rw [ha] at hraw
  have Hraw := Lib.hid hraw
  have Hok := Lib.hid f2
  clear hraw ha ha1 l0 l1 hpl hp d hb hg f1 f2 f4 hmem hup
  go_enter Tryz.func11, Tryz.ntmps11
  go_wp2_with fail
  refine H.out.mono ?_
  rintro e w1 ⟨hv, hb1⟩
  obtain rfl := (show e = .returned (.tuple #[partV p, .bool true]) from hv)
  clear hv
  rw [Hraw.out]
  unfold rawV
  go_wp2_with fail
  refine (H1.out _).mono ?_
  rintro e w2 ⟨rfl, hb2⟩
  have hz : w1.heap.size < w2.heap.size := by have := hb2.size; simp at this; omega
  have hb12 : Below w.heap.size w w2 := (hb1.alloc hb1.size _).trans (hb2.mono (hb1.alloc hb1.size _).size)
  obtain ⟨hc2, hf2⟩ := bcell hb2
  have g0 := hc2 w1.heap.size 0 (by simp)
  have g7 := hc2 w1.heap.size 7 (by simp)
  rw [World.cell?_alloc_at _ _ _ _ rfl] at g0 g7
  have Hb := Lib.hid hb12
  clear hb2 hc2 hf2 hb12
  go_wp2_with fail
  refine (H2.out _).mono ?_
  rintro e w5 ⟨rfl, hb5⟩
  have m7 : w5.cell? ⟨w1.heap.size, 7, none⟩ = some (.bool true) := by rw [(bcell hb5).1 _ _ hz, g7]; rfl
  have Hb3 : Hid (Below w.heap.size w w5) := Lib.hid (Hb.out.trans (hb5.mono Hb.out.size))
  clear hb5 g0 g7
  go_wp2_with fail
  go_ret2
  exact ⟨ret_str (by rw [Hr.out]; refine str_eq _ _ ?_; simp [nT, letN]) (by rw [Hok.out]), Hb3.out⟩

set_option maxHeartbeats 4000000 in
set_option maxRecDepth 100000 in
theorem rprint_2_false (s : ByteArray) (p : Parts) (w : World) (hs : s.size ≤ 140737488354000) (hp : ofL s.data.toList = some p) (d : Bas p) (hb : p.base = 2) (hg : p.big = false) :
    Calls Tryz.prog 11 #[.string s] w fun e w' => e = .returned (.tuple #[.string (printS s.data.toList), .int .i64 (okN s.data.toList)]) ∧ Below w.heap.size w w' := by
  have hpl := part_len _ _ hp
  rw [← Lib.size_eq] at hpl
  have hraw := bas_raw p d
  obtain ⟨f1, f2, f3, f4⟩ := bas_print p d s hp
  have hmem := run_mem p.base p.whole false d.whole
  rw [hb, hg] at hraw f1
  rw [hb] at f4 hmem
  have H := Lib.hid (of_any s w hs)
  rw [hp] at H
  obtain ⟨a, ha⟩ : ∃ a : ByteArray, (⟨p.whole.toArray⟩ : ByteArray) = a := ⟨_, rfl⟩
  obtain ⟨a1, ha1⟩ : ∃ a1 : ByteArray, (⟨(p.whole.map lowN).toArray⟩ : ByteArray) = a1 := ⟨_, rfl⟩
  have l0 : a.data.toList = p.whole := by rw [← ha]
  have l1 : a1.data.toList = p.whole.map lowN := by rw [← ha1]
  have z0 : a.size ≤ s.size := by rw [Lib.size_eq, l0]; omega
  have z1 : a1.size ≤ s.size := by rw [Lib.size_eq a1, l1, List.length_map]; omega
  have H1 := Lib.hid (fun W => small_any a W (by unfold maxLen; omega))
  rw [l0, ha1] at H1
  have H2 := Lib.hid (fun W => small_any (s.extract 0 2) W (by unfold maxLen; simp; omega))
  rw [show (s.extract 0 2).data.toList = s.data.toList.take 2 from by rw [take_str], f4] at H2
  have hup : a1.data.toList = Lib.toUpperA p.whole := by
    rw [l1]
    exact List.map_congr_left (fun c hc => low_dig c (by rcases hmem c hc with h | h; exact Or.inl (by omega); exact Or.inr h))
  have Hr : Hid (printS s.data.toList = ⟨([48, letN 2] ++ a1.data.toList ++ nT false).toArray⟩) := Lib.hid (by rw [f1, hup])
  rw [ha] at hraw
  have Hraw := Lib.hid hraw
  have Hok := Lib.hid f2
  clear hraw ha ha1 l0 l1 hpl hp d hb hg f1 f2 f4 hmem hup
  go_enter Tryz.func11, Tryz.ntmps11
  go_wp2_with fail
  refine H.out.mono ?_
  rintro e w1 ⟨hv, hb1⟩
  obtain rfl := (show e = .returned (.tuple #[partV p, .bool true]) from hv)
  clear hv
  rw [Hraw.out]
  unfold rawV
  go_wp2_with fail
  refine (H1.out _).mono ?_
  rintro e w2 ⟨rfl, hb2⟩
  have hz : w1.heap.size < w2.heap.size := by have := hb2.size; simp at this; omega
  have hb12 : Below w.heap.size w w2 := (hb1.alloc hb1.size _).trans (hb2.mono (hb1.alloc hb1.size _).size)
  obtain ⟨hc2, hf2⟩ := bcell hb2
  have g0 := hc2 w1.heap.size 0 (by simp)
  have g7 := hc2 w1.heap.size 7 (by simp)
  rw [World.cell?_alloc_at _ _ _ _ rfl] at g0 g7
  have Hb := Lib.hid hb12
  clear hb2 hc2 hf2 hb12
  go_wp2_with fail
  refine (H2.out _).mono ?_
  rintro e w5 ⟨rfl, hb5⟩
  have m7 : w5.cell? ⟨w1.heap.size, 7, none⟩ = some (.bool false) := by rw [(bcell hb5).1 _ _ hz, g7]; rfl
  have Hb3 : Hid (Below w.heap.size w w5) := Lib.hid (Hb.out.trans (hb5.mono Hb.out.size))
  clear hb5 g0 g7
  go_wp2_with fail
  go_ret2
  exact ⟨ret_str (by rw [Hr.out]; refine str_eq _ _ ?_; simp [nT, letN]) (by rw [Hok.out]), Hb3.out⟩

set_option maxHeartbeats 4000000 in
set_option maxRecDepth 100000 in
theorem rprint_2_true (s : ByteArray) (p : Parts) (w : World) (hs : s.size ≤ 140737488354000) (hp : ofL s.data.toList = some p) (d : Bas p) (hb : p.base = 2) (hg : p.big = true) :
    Calls Tryz.prog 11 #[.string s] w fun e w' => e = .returned (.tuple #[.string (printS s.data.toList), .int .i64 (okN s.data.toList)]) ∧ Below w.heap.size w w' := by
  have hpl := part_len _ _ hp
  rw [← Lib.size_eq] at hpl
  have hraw := bas_raw p d
  obtain ⟨f1, f2, f3, f4⟩ := bas_print p d s hp
  have hmem := run_mem p.base p.whole false d.whole
  rw [hb, hg] at hraw f1
  rw [hb] at f4 hmem
  have H := Lib.hid (of_any s w hs)
  rw [hp] at H
  obtain ⟨a, ha⟩ : ∃ a : ByteArray, (⟨p.whole.toArray⟩ : ByteArray) = a := ⟨_, rfl⟩
  obtain ⟨a1, ha1⟩ : ∃ a1 : ByteArray, (⟨(p.whole.map lowN).toArray⟩ : ByteArray) = a1 := ⟨_, rfl⟩
  have l0 : a.data.toList = p.whole := by rw [← ha]
  have l1 : a1.data.toList = p.whole.map lowN := by rw [← ha1]
  have z0 : a.size ≤ s.size := by rw [Lib.size_eq, l0]; omega
  have z1 : a1.size ≤ s.size := by rw [Lib.size_eq a1, l1, List.length_map]; omega
  have H1 := Lib.hid (fun W => small_any a W (by unfold maxLen; omega))
  rw [l0, ha1] at H1
  have H2 := Lib.hid (fun W => small_any (s.extract 0 2) W (by unfold maxLen; simp; omega))
  rw [show (s.extract 0 2).data.toList = s.data.toList.take 2 from by rw [take_str], f4] at H2
  have hup : a1.data.toList = Lib.toUpperA p.whole := by
    rw [l1]
    exact List.map_congr_left (fun c hc => low_dig c (by rcases hmem c hc with h | h; exact Or.inl (by omega); exact Or.inr h))
  have Hr : Hid (printS s.data.toList = ⟨([48, letN 2] ++ a1.data.toList ++ nT true).toArray⟩) := Lib.hid (by rw [f1, hup])
  rw [ha] at hraw
  have Hraw := Lib.hid hraw
  have Hok := Lib.hid f2
  clear hraw ha ha1 l0 l1 hpl hp d hb hg f1 f2 f4 hmem hup
  go_enter Tryz.func11, Tryz.ntmps11
  go_wp2_with fail
  refine H.out.mono ?_
  rintro e w1 ⟨hv, hb1⟩
  obtain rfl := (show e = .returned (.tuple #[partV p, .bool true]) from hv)
  clear hv
  rw [Hraw.out]
  unfold rawV
  go_wp2_with fail
  refine (H1.out _).mono ?_
  rintro e w2 ⟨rfl, hb2⟩
  have hz : w1.heap.size < w2.heap.size := by have := hb2.size; simp at this; omega
  have hb12 : Below w.heap.size w w2 := (hb1.alloc hb1.size _).trans (hb2.mono (hb1.alloc hb1.size _).size)
  obtain ⟨hc2, hf2⟩ := bcell hb2
  have g0 := hc2 w1.heap.size 0 (by simp)
  have g7 := hc2 w1.heap.size 7 (by simp)
  rw [World.cell?_alloc_at _ _ _ _ rfl] at g0 g7
  have Hb := Lib.hid hb12
  clear hb2 hc2 hf2 hb12
  go_wp2_with fail
  refine (H2.out _).mono ?_
  rintro e w5 ⟨rfl, hb5⟩
  have m7 : w5.cell? ⟨w1.heap.size, 7, none⟩ = some (.bool true) := by rw [(bcell hb5).1 _ _ hz, g7]; rfl
  have Hb3 : Hid (Below w.heap.size w w5) := Lib.hid (Hb.out.trans (hb5.mono Hb.out.size))
  clear hb5 g0 g7
  go_wp2_with fail
  go_ret2
  exact ⟨ret_str (by rw [Hr.out]; refine str_eq _ _ ?_; simp [nT, letN]) (by rw [Hok.out]), Hb3.out⟩

end Num
end Go.Proofs.YtinjaopgnlpncaaGreatDoor
