/-
  The document's own print of a decimal.
-/
import Derived.Test.YtinjaopgnlpncaaGreatDoorNumRefPrn
namespace Go.Proofs.YtinjaopgnlpncaaGreatDoor
namespace Num
open Go.RowKit

def prnL (w F pw : List UInt8) (x m g : Bool) : List UInt8 := w ++ (if F = [] then [] else 46 :: F) ++ (if x then 101 :: ((if m then [45] else []) ++ pw) else []) ++ nT g
theorem prn_of (p : Parts) (d : Dec p) (l : List UInt8) (hp : ofL l = some p) : printS l = ⟨(prnL (if p.whole = [] then [48] else p.whole) (fracL p.frac) p.pow p.exp (decide (p.sgn = [45])) p.big).toArray⟩ ∧ okN l = 0 := by
  rw [printS, okN, hp]
  refine ⟨?_, rfl⟩
  show (⟨(printL p).toArray⟩ : ByteArray) = _
  rw [printL, if_pos d.base, printDec, prnL]
  by_cases hw : p.whole = [] <;> by_cases hs : p.sgn = [45] <;> simp [hw, hs]
theorem frac_snoc (l : List UInt8) (c : UInt8) : fracL (l ++ [c]) = if c = 48 ∨ c = 95 then fracL l else l ++ [c] := by
  unfold fracL
  rw [List.reverse_append, List.reverse_singleton, List.singleton_append, List.dropWhile_cons]
  by_cases h : c = 48 ∨ c = 95
  · rw [if_pos h, if_pos (by rcases h with rfl | rfl <;> rfl)]
  · rw [if_neg h, if_neg (by simpa using h)]; simp
theorem last_byte (t : ByteArray) (h : 0 < t.size) : t.data.toList = t.data.toList.take (t.size - 1) ++ [t[t.size - 1]'(by omega)] := by
  have := take_byte t (t.size - 1) (by omega)
  rw [show t.size - 1 + 1 = t.size by omega, List.take_of_length_le (by rw [← Lib.size_eq]; exact Nat.le_refl _)] at this
  exact this

set_option maxHeartbeats 4000000 in
set_option maxRecDepth 100000 in
theorem rprint_dec_empty (s : ByteArray) (p : Parts) (w : World) (hs : s.size ≤ 140737488354000) (hp : ofL s.data.toList = some p) (d : Dec p) (hw : p.whole = []) :
    Calls Tryz.prog 11 #[.string s] w fun e w' => e = .returned (.tuple #[.string (printS s.data.toList), .int .i64 (okN s.data.toList)]) ∧ Below w.heap.size w w' := by
  have hpl := part_len _ _ hp
  rw [← Lib.size_eq, List.length_append] at hpl
  obtain ⟨f1, f2⟩ := prn_of p d _ hp
  have H := Lib.hid (of_any s w hs)
  rw [hp] at H
  have hraw : partV p = rawV 10 ⟨p.whole.toArray⟩ p.dot ⟨p.frac.toArray⟩ p.exp (decide (p.sgn = [45])) ⟨p.pow.toArray⟩ p.big := by rw [partV, d.base]; rfl
  generalize decide (p.sgn = [45]) = m at *
  generalize p.exp = x at *
  generalize p.big = g at *
  generalize p.dot = dt at *
  obtain ⟨a, ha⟩ : ∃ a : ByteArray, (⟨p.whole.toArray⟩ : ByteArray) = a := ⟨_, rfl⟩
  obtain ⟨f, hf⟩ : ∃ f : ByteArray, (⟨p.frac.toArray⟩ : ByteArray) = f := ⟨_, rfl⟩
  obtain ⟨pw, hpw⟩ : ∃ pw : ByteArray, (⟨p.pow.toArray⟩ : ByteArray) = pw := ⟨_, rfl⟩
  have l0 : a.data.toList = p.whole := by rw [← ha]
  have l1 : f.data.toList = p.frac := by rw [← hf]
  have l2 : pw.data.toList = p.pow := by rw [← hpw]
  have z0 : a.size ≤ s.size := by rw [Lib.size_eq, l0]; omega
  have z1 : f.size ≤ s.size := by rw [Lib.size_eq f, l1]; omega
  have z2 : pw.size ≤ s.size := by rw [Lib.size_eq pw, l2]; omega
  rw [ha, hf, hpw] at hraw
  rw [if_pos hw, ← l1, ← l2] at f1
  have hA := str_empty a _ rfl (by rw [l0]; exact hw)
  have Hf := Lib.hid f1
  have Hok := Lib.hid f2
  have Hraw := Lib.hid hraw
  clear hraw ha hf hpw l0 l1 l2 hpl hp d hw f1 f2
  subst hA
  go_enter Tryz.func11, Tryz.ntmps11
  go_wp2_with fail
  refine H.out.mono ?_
  rintro e w1 ⟨hv, hb1⟩
  obtain rfl := (show e = .returned (.tuple #[partV p, .bool true]) from hv)
  clear hv
  rw [Hraw.out]
  unfold rawV
  have Hb : Hid (Below w.heap.size w w1) := Lib.hid hb1
  have hz := hb1.size
  clear hb1
  go_wp2_with fail
  go_loop [11] (fun v => ∃ t : ByteArray, v = .string t ∧ t.size ≤ s.size ∧ fracL t.data.toList = fracL f.data.toList) (fun v => lenS v)
  case atStart => exact ⟨f, rfl, z1, rfl⟩
  case round =>
    obtain ⟨t, rfl, ht, hl⟩ := hrel
    have Hl := Lib.hid hl; clear hl
    by_cases h0 : 0 < t.size
    · have hlb := last_byte t h0
      have hlt : t.size - 1 < t.size := by omega
      have h1 : 1 ≤ t.size := h0
      have hde : ¬ t = ByteArray.empty := by intro e; rw [e] at h0; exact absurd h0 (by decide)
      have hsn := frac_snoc (t.data.toList.take (t.size - 1)) (t[t.size - 1]'hlt)
      rw [← hlb] at hsn
      by_cases hc : t[t.size - 1]'hlt = 48
      · have t1 : (((t[t.size - 1]'hlt).toNat : Int) == 48) = true := by rw [t48, hc]; rfl
        have Hn : Hid (fracL (t.extract 0 (t.size - 1)).data.toList = fracL f.data.toList) := Lib.hid (by
          rw [take_str]; show fracL (t.data.toList.take (t.size - 1)) = _
          rw [← Hl.out, hsn, if_pos (Or.inl hc)])
        clear hlb hsn hc
        go_wp2_with fail
        go_round
        case rel => exact ⟨_, rfl, by simp; omega, Hn.out⟩
        case measure => simp [lenS]; omega
      · have t1 : (((t[t.size - 1]'hlt).toNat : Int) == 48) = false := by rw [t48]; simp [hc]
        by_cases hd : t[t.size - 1]'hlt = 95
        · have t2 : (((t[t.size - 1]'hlt).toNat : Int) == 95) = true := by rw [t95, hd]; rfl
          have Hn : Hid (fracL (t.extract 0 (t.size - 1)).data.toList = fracL f.data.toList) := Lib.hid (by
            rw [take_str]; show fracL (t.data.toList.take (t.size - 1)) = _
            rw [← Hl.out, hsn, if_pos (Or.inr hd)])
          clear hlb hsn hc hd
          go_wp2_with fail
          go_round
          case rel => exact ⟨_, rfl, by simp; omega, Hn.out⟩
          case measure => simp [lenS]; omega
        · have t2 : (((t[t.size - 1]'hlt).toNat : Int) == 95) = false := by rw [t95]; simp [hd]
          have Hn : Hid (fracL f.data.toList = t.data.toList) := Lib.hid (by
            rw [← Hl.out, hsn, if_neg (by rintro (h | h); exact hc h; exact hd h)])
          have hte : t.data.toList ≠ [] := by rw [hlb]; simp
          obtain ⟨p1, p2⟩ := str_full t hte
          have Hte := Lib.hid hte
          clear hlb hsn hc hd hte
          cases x <;> cases m <;> cases g
          all_goals
            go_wp2_with fail
            go_ret2
            exact ⟨ret_str (by rw [Hf.out, prnL, Hn.out, if_neg Hte.out]; refine str_eq _ _ ?_; simp [nT]) (by rw [Hok.out]), Hb.out.alloc hz _⟩
    · have h00 : t.data.toList = [] := List.length_eq_zero_iff.1 (by rw [← Lib.size_eq]; omega)
      have Hn : Hid (fracL f.data.toList = []) := Lib.hid (by rw [← Hl.out, h00]; rfl)
      have hT := str_empty t _ rfl h00
      clear h00 h0
      subst hT
      cases x <;> cases m <;> cases g
      all_goals
        go_wp2_with fail
        go_ret2
        exact ⟨ret_str (by rw [Hf.out, prnL, Hn.out, if_pos rfl]; refine str_eq _ _ ?_; simp [nT]) (by rw [Hok.out]), Hb.out.alloc hz _⟩

set_option maxHeartbeats 4000000 in
set_option maxRecDepth 100000 in
theorem rprint_dec_full (s : ByteArray) (p : Parts) (w : World) (hs : s.size ≤ 140737488354000) (hp : ofL s.data.toList = some p) (d : Dec p) (hw : p.whole ≠ []) :
    Calls Tryz.prog 11 #[.string s] w fun e w' => e = .returned (.tuple #[.string (printS s.data.toList), .int .i64 (okN s.data.toList)]) ∧ Below w.heap.size w w' := by
  have hpl := part_len _ _ hp
  rw [← Lib.size_eq, List.length_append] at hpl
  obtain ⟨f1, f2⟩ := prn_of p d _ hp
  have H := Lib.hid (of_any s w hs)
  rw [hp] at H
  have hraw : partV p = rawV 10 ⟨p.whole.toArray⟩ p.dot ⟨p.frac.toArray⟩ p.exp (decide (p.sgn = [45])) ⟨p.pow.toArray⟩ p.big := by rw [partV, d.base]; rfl
  generalize decide (p.sgn = [45]) = m at *
  generalize p.exp = x at *
  generalize p.big = g at *
  generalize p.dot = dt at *
  obtain ⟨a, ha⟩ : ∃ a : ByteArray, (⟨p.whole.toArray⟩ : ByteArray) = a := ⟨_, rfl⟩
  obtain ⟨f, hf⟩ : ∃ f : ByteArray, (⟨p.frac.toArray⟩ : ByteArray) = f := ⟨_, rfl⟩
  obtain ⟨pw, hpw⟩ : ∃ pw : ByteArray, (⟨p.pow.toArray⟩ : ByteArray) = pw := ⟨_, rfl⟩
  have l0 : a.data.toList = p.whole := by rw [← ha]
  have l1 : f.data.toList = p.frac := by rw [← hf]
  have l2 : pw.data.toList = p.pow := by rw [← hpw]
  have z0 : a.size ≤ s.size := by rw [Lib.size_eq, l0]; omega
  have z1 : f.size ≤ s.size := by rw [Lib.size_eq f, l1]; omega
  have z2 : pw.size ≤ s.size := by rw [Lib.size_eq pw, l2]; omega
  rw [ha, hf, hpw] at hraw
  rw [if_neg hw, ← l0, ← l1, ← l2] at f1
  obtain ⟨q1, q2⟩ := str_full a (by rw [l0]; exact hw)
  have Hf := Lib.hid f1
  have Hok := Lib.hid f2
  have Hraw := Lib.hid hraw
  clear hraw ha hf hpw l0 l1 l2 hpl hp d hw f1 f2
  go_enter Tryz.func11, Tryz.ntmps11
  go_wp2_with fail
  refine H.out.mono ?_
  rintro e w1 ⟨hv, hb1⟩
  obtain rfl := (show e = .returned (.tuple #[partV p, .bool true]) from hv)
  clear hv
  rw [Hraw.out]
  unfold rawV
  have Hb : Hid (Below w.heap.size w w1) := Lib.hid hb1
  have hz := hb1.size
  clear hb1
  go_wp2_with fail
  go_loop [11] (fun v => ∃ t : ByteArray, v = .string t ∧ t.size ≤ s.size ∧ fracL t.data.toList = fracL f.data.toList) (fun v => lenS v)
  case atStart => exact ⟨f, rfl, z1, rfl⟩
  case round =>
    obtain ⟨t, rfl, ht, hl⟩ := hrel
    have Hl := Lib.hid hl; clear hl
    by_cases h0 : 0 < t.size
    · have hlb := last_byte t h0
      have hlt : t.size - 1 < t.size := by omega
      have h1 : 1 ≤ t.size := h0
      have hde : ¬ t = ByteArray.empty := by intro e; rw [e] at h0; exact absurd h0 (by decide)
      have hsn := frac_snoc (t.data.toList.take (t.size - 1)) (t[t.size - 1]'hlt)
      rw [← hlb] at hsn
      by_cases hc : t[t.size - 1]'hlt = 48
      · have t1 : (((t[t.size - 1]'hlt).toNat : Int) == 48) = true := by rw [t48, hc]; rfl
        have Hn : Hid (fracL (t.extract 0 (t.size - 1)).data.toList = fracL f.data.toList) := Lib.hid (by
          rw [take_str]; show fracL (t.data.toList.take (t.size - 1)) = _
          rw [← Hl.out, hsn, if_pos (Or.inl hc)])
        clear hlb hsn hc
        go_wp2_with fail
        go_round
        case rel => exact ⟨_, rfl, by simp; omega, Hn.out⟩
        case measure => simp [lenS]; omega
      · have t1 : (((t[t.size - 1]'hlt).toNat : Int) == 48) = false := by rw [t48]; simp [hc]
        by_cases hd : t[t.size - 1]'hlt = 95
        · have t2 : (((t[t.size - 1]'hlt).toNat : Int) == 95) = true := by rw [t95, hd]; rfl
          have Hn : Hid (fracL (t.extract 0 (t.size - 1)).data.toList = fracL f.data.toList) := Lib.hid (by
            rw [take_str]; show fracL (t.data.toList.take (t.size - 1)) = _
            rw [← Hl.out, hsn, if_pos (Or.inr hd)])
          clear hlb hsn hc hd
          go_wp2_with fail
          go_round
          case rel => exact ⟨_, rfl, by simp; omega, Hn.out⟩
          case measure => simp [lenS]; omega
        · have t2 : (((t[t.size - 1]'hlt).toNat : Int) == 95) = false := by rw [t95]; simp [hd]
          have Hn : Hid (fracL f.data.toList = t.data.toList) := Lib.hid (by
            rw [← Hl.out, hsn, if_neg (by rintro (h | h); exact hc h; exact hd h)])
          have hte : t.data.toList ≠ [] := by rw [hlb]; simp
          obtain ⟨p1, p2⟩ := str_full t hte
          have Hte := Lib.hid hte
          clear hlb hsn hc hd hte
          cases x <;> cases m <;> cases g
          all_goals
            go_wp2_with fail
            go_ret2
            exact ⟨ret_str (by rw [Hf.out, prnL, Hn.out, if_neg Hte.out]; refine str_eq _ _ ?_; simp [nT]) (by rw [Hok.out]), Hb.out.alloc hz _⟩
    · have h00 : t.data.toList = [] := List.length_eq_zero_iff.1 (by rw [← Lib.size_eq]; omega)
      have Hn : Hid (fracL f.data.toList = []) := Lib.hid (by rw [← Hl.out, h00]; rfl)
      have hT := str_empty t _ rfl h00
      clear h00 h0
      subst hT
      cases x <;> cases m <;> cases g
      all_goals
        go_wp2_with fail
        go_ret2
        exact ⟨ret_str (by rw [Hf.out, prnL, Hn.out, if_pos rfl]; refine str_eq _ _ ?_; simp [nT]) (by rw [Hok.out]), Hb.out.alloc hz _⟩

end Num
end Go.Proofs.YtinjaopgnlpncaaGreatDoor
