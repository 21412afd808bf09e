/-
  The document's own normal form of a literal with a base.
-/
import Derived.Test.YtinjaopgnlpncaaGreatDoorNumRefCalls
import Derived.Test.YtinjaopgnlpncaaGreatDoorNumLawC
namespace Go.Proofs.YtinjaopgnlpncaaGreatDoor
namespace Num
open Go.RowKit

theorem bas_raw (p : Parts) (d : Bas p) : partV p = rawV p.base ⟨p.whole.toArray⟩ false ⟨#[]⟩ false false ⟨#[]⟩ p.big := by
  rw [partV, d.dot, d.frac, d.exp, d.sgn, d.pow]; rfl
theorem bas_canon (p : Parts) (d : Bas p) (l : List UInt8) (hp : ofL l = some p) : canonS l = ⟨(48 :: letN p.base :: (if aheadL (collectL p.whole) = [] then [48] else aheadL (collectL p.whole)) ++ nT p.big).toArray⟩ ∧ okN l = 0 := by
  rw [canonS, okN, hp]
  exact ⟨by show (⟨(canonL p).toArray⟩ : ByteArray) = _; rw [canonL, if_neg (by have := d.base; omega)]; rfl, rfl⟩

set_option maxHeartbeats 4000000 in
set_option maxRecDepth 100000 in
theorem rcanon_16_false (s : ByteArray) (p : Parts) (w : World) (hs : s.size ≤ 140737488354000) (hp : ofL s.data.toList = some p) (d : Bas p) (hb : p.base = 16) (hg : p.big = false) :
    Calls Tryz.prog 10 #[.string s] w fun e w' => e = .returned (.tuple #[.string (canonS s.data.toList), .int .i64 (okN s.data.toList)]) ∧ Below w.heap.size w w' := by
  have hpl := part_len _ _ hp
  rw [← Lib.size_eq] at hpl
  have hraw := bas_raw p d
  have Hf := Lib.hid (bas_canon p d _ hp)
  rw [hb, hg] at hraw Hf
  have H := Lib.hid (of_any s w hs)
  rw [hp] at H
  obtain ⟨a, ha⟩ : ∃ a : ByteArray, (⟨p.whole.toArray⟩ : ByteArray) = a := ⟨_, rfl⟩
  obtain ⟨a1, ha1⟩ : ∃ a1 : ByteArray, (⟨(plainL p.whole).toArray⟩ : ByteArray) = a1 := ⟨_, rfl⟩
  obtain ⟨a2, ha2⟩ : ∃ a2 : ByteArray, (⟨(collectL p.whole).toArray⟩ : ByteArray) = a2 := ⟨_, rfl⟩
  obtain ⟨a3, ha3⟩ : ∃ a3 : ByteArray, (⟨(aheadL (collectL p.whole)).toArray⟩ : ByteArray) = a3 := ⟨_, rfl⟩
  have l0 : a.data.toList = p.whole := by rw [← ha]
  have l1 : a1.data.toList = plainL p.whole := by rw [← ha1]
  have l2 : a2.data.toList = collectL p.whole := by rw [← ha2]
  have l3 : a3.data.toList = aheadL (collectL p.whole) := by rw [← ha3]
  have c1 := plain_le p.whole
  have c2 := collect_le p.whole
  have c3 : (aheadL (collectL p.whole)).length ≤ (collectL p.whole).length := (List.dropWhile_sublist _).length_le
  have z0 : a.size ≤ s.size := by rw [Lib.size_eq, l0]; omega
  have z1 : a1.size ≤ s.size := by rw [Lib.size_eq a1, l1]; omega
  have z2 : a2.size ≤ s.size := by rw [Lib.size_eq a2, l2]; omega
  have z3 : a3.size ≤ s.size := by rw [Lib.size_eq a3, l3]; omega
  have H1 := Lib.hid (fun W => plain_any a W (by omega))
  have H2 := Lib.hid (fun W => small_any a1 W (by unfold maxLen; omega))
  have H3 := Lib.hid (fun W => ahead_any a2 W (by unfold maxLen; omega))
  rw [l0, ha1] at H1
  rw [l1, show (plainL p.whole).map lowN = collectL p.whole from rfl, ha2] at H2
  rw [l2, ha3] at H3
  rw [← l3] at Hf
  rw [ha] at hraw
  have Hraw := Lib.hid hraw
  clear hraw ha ha1 ha2 ha3 l0 l1 l2 l3 c1 c2 c3 hpl hp d hb hg
  go_enter Tryz.func10, Tryz.ntmps10
  go_wp2_with fail
  refine H.out.mono ?_
  rintro e w1 ⟨hv, hb1⟩
  obtain rfl := (show e = .returned (.tuple #[partV p, .bool true]) from hv)
  clear hv
  rw [Hraw.out]
  unfold rawV
  go_wp2_with fail
  refine (H1.out _).mono ?_
  rintro e w2 ⟨rfl, hb2⟩
  go_wp2_with fail
  refine (H2.out _).mono ?_
  rintro e w3 ⟨rfl, hb3⟩
  have hb23 := hb2.trans (hb3.mono hb2.size)
  have hz : w1.heap.size < w3.heap.size := by have := hb23.size; simp at this; omega
  have Hb : Hid (Below w.heap.size w w3) := Lib.hid ((hb1.alloc hb1.size _).trans (hb23.mono (hb1.alloc hb1.size _).size))
  obtain ⟨hc3, hf3⟩ := bcell hb23
  have g0 := hc3 w1.heap.size 0 (by simp)
  rw [World.cell?_alloc_at _ _ _ _ rfl] at g0
  clear hb2 hb3 hb23 hc3 hf3
  go_wp2_with fail
  refine (H3.out _).mono ?_
  rintro e w4 ⟨rfl, rfl⟩
  by_cases he : a3.data.toList = []
  · have hE := str_empty a3 _ rfl he
    have Hr : Hid (canonS s.data.toList = ⟨([48, 120, 48] ++ nT false).toArray⟩) := Lib.hid (by rw [Hf.out.1, if_pos he]; rfl)
    clear he
    subst hE
    go_wp2_with fail
    go_ret2
    exact ⟨ret_str (by rw [Hr.out]; rfl) (by rw [Hf.out.2]), Hb.out⟩
  · obtain ⟨q1, q2⟩ := str_full a3 he
    have Hr : Hid (canonS s.data.toList = ⟨([48, 120] ++ a3.data.toList ++ nT false).toArray⟩) := Lib.hid (by rw [Hf.out.1, if_neg he]; rfl)
    clear he
    go_wp2_with fail
    go_ret2
    exact ⟨ret_str (by rw [Hr.out]; refine str_eq _ _ ?_; simp [nT]) (by rw [Hf.out.2]), Hb.out⟩

set_option maxHeartbeats 4000000 in
set_option maxRecDepth 100000 in
theorem rcanon_16_true (s : ByteArray) (p : Parts) (w : World) (hs : s.size ≤ 140737488354000) (hp : ofL s.data.toList = some p) (d : Bas p) (hb : p.base = 16) (hg : p.big = true) :
    Calls Tryz.prog 10 #[.string s] w fun e w' => e = .returned (.tuple #[.string (canonS s.data.toList), .int .i64 (okN s.data.toList)]) ∧ Below w.heap.size w w' := by
  have hpl := part_len _ _ hp
  rw [← Lib.size_eq] at hpl
  have hraw := bas_raw p d
  have Hf := Lib.hid (bas_canon p d _ hp)
  rw [hb, hg] at hraw Hf
  have H := Lib.hid (of_any s w hs)
  rw [hp] at H
  obtain ⟨a, ha⟩ : ∃ a : ByteArray, (⟨p.whole.toArray⟩ : ByteArray) = a := ⟨_, rfl⟩
  obtain ⟨a1, ha1⟩ : ∃ a1 : ByteArray, (⟨(plainL p.whole).toArray⟩ : ByteArray) = a1 := ⟨_, rfl⟩
  obtain ⟨a2, ha2⟩ : ∃ a2 : ByteArray, (⟨(collectL p.whole).toArray⟩ : ByteArray) = a2 := ⟨_, rfl⟩
  obtain ⟨a3, ha3⟩ : ∃ a3 : ByteArray, (⟨(aheadL (collectL p.whole)).toArray⟩ : ByteArray) = a3 := ⟨_, rfl⟩
  have l0 : a.data.toList = p.whole := by rw [← ha]
  have l1 : a1.data.toList = plainL p.whole := by rw [← ha1]
  have l2 : a2.data.toList = collectL p.whole := by rw [← ha2]
  have l3 : a3.data.toList = aheadL (collectL p.whole) := by rw [← ha3]
  have c1 := plain_le p.whole
  have c2 := collect_le p.whole
  have c3 : (aheadL (collectL p.whole)).length ≤ (collectL p.whole).length := (List.dropWhile_sublist _).length_le
  have z0 : a.size ≤ s.size := by rw [Lib.size_eq, l0]; omega
  have z1 : a1.size ≤ s.size := by rw [Lib.size_eq a1, l1]; omega
  have z2 : a2.size ≤ s.size := by rw [Lib.size_eq a2, l2]; omega
  have z3 : a3.size ≤ s.size := by rw [Lib.size_eq a3, l3]; omega
  have H1 := Lib.hid (fun W => plain_any a W (by omega))
  have H2 := Lib.hid (fun W => small_any a1 W (by unfold maxLen; omega))
  have H3 := Lib.hid (fun W => ahead_any a2 W (by unfold maxLen; omega))
  rw [l0, ha1] at H1
  rw [l1, show (plainL p.whole).map lowN = collectL p.whole from rfl, ha2] at H2
  rw [l2, ha3] at H3
  rw [← l3] at Hf
  rw [ha] at hraw
  have Hraw := Lib.hid hraw
  clear hraw ha ha1 ha2 ha3 l0 l1 l2 l3 c1 c2 c3 hpl hp d hb hg
  go_enter Tryz.func10, Tryz.ntmps10
  go_wp2_with fail
  refine H.out.mono ?_
  rintro e w1 ⟨hv, hb1⟩
  obtain rfl := (show e = .returned (.tuple #[partV p, .bool true]) from hv)
  clear hv
  rw [Hraw.out]
  unfold rawV
  go_wp2_with fail
  refine (H1.out _).mono ?_
  rintro e w2 ⟨rfl, hb2⟩
  go_wp2_with fail
  refine (H2.out _).mono ?_
  rintro e w3 ⟨rfl, hb3⟩
  have hb23 := hb2.trans (hb3.mono hb2.size)
  have hz : w1.heap.size < w3.heap.size := by have := hb23.size; simp at this; omega
  have Hb : Hid (Below w.heap.size w w3) := Lib.hid ((hb1.alloc hb1.size _).trans (hb23.mono (hb1.alloc hb1.size _).size))
  obtain ⟨hc3, hf3⟩ := bcell hb23
  have g0 := hc3 w1.heap.size 0 (by simp)
  rw [World.cell?_alloc_at _ _ _ _ rfl] at g0
  clear hb2 hb3 hb23 hc3 hf3
  go_wp2_with fail
  refine (H3.out _).mono ?_
  rintro e w4 ⟨rfl, rfl⟩
  by_cases he : a3.data.toList = []
  · have hE := str_empty a3 _ rfl he
    have Hr : Hid (canonS s.data.toList = ⟨([48, 120, 48] ++ nT true).toArray⟩) := Lib.hid (by rw [Hf.out.1, if_pos he]; rfl)
    clear he
    subst hE
    go_wp2_with fail
    go_ret2
    exact ⟨ret_str (by rw [Hr.out]; rfl) (by rw [Hf.out.2]), Hb.out⟩
  · obtain ⟨q1, q2⟩ := str_full a3 he
    have Hr : Hid (canonS s.data.toList = ⟨([48, 120] ++ a3.data.toList ++ nT true).toArray⟩) := Lib.hid (by rw [Hf.out.1, if_neg he]; rfl)
    clear he
    go_wp2_with fail
    go_ret2
    exact ⟨ret_str (by rw [Hr.out]; refine str_eq _ _ ?_; simp [nT]) (by rw [Hf.out.2]), Hb.out⟩

set_option maxHeartbeats 4000000 in
set_option maxRecDepth 100000 in
theorem rcanon_8_false (s : ByteArray) (p : Parts) (w : World) (hs : s.size ≤ 140737488354000) (hp : ofL s.data.toList = some p) (d : Bas p) (hb : p.base = 8) (hg : p.big = false) :
    Calls Tryz.prog 10 #[.string s] w fun e w' => e = .returned (.tuple #[.string (canonS s.data.toList), .int .i64 (okN s.data.toList)]) ∧ Below w.heap.size w w' := by
  have hpl := part_len _ _ hp
  rw [← Lib.size_eq] at hpl
  have hraw := bas_raw p d
  have Hf := Lib.hid (bas_canon p d _ hp)
  rw [hb, hg] at hraw Hf
  have H := Lib.hid (of_any s w hs)
  rw [hp] at H
  obtain ⟨a, ha⟩ : ∃ a : ByteArray, (⟨p.whole.toArray⟩ : ByteArray) = a := ⟨_, rfl⟩
  obtain ⟨a1, ha1⟩ : ∃ a1 : ByteArray, (⟨(plainL p.whole).toArray⟩ : ByteArray) = a1 := ⟨_, rfl⟩
  obtain ⟨a2, ha2⟩ : ∃ a2 : ByteArray, (⟨(collectL p.whole).toArray⟩ : ByteArray) = a2 := ⟨_, rfl⟩
  obtain ⟨a3, ha3⟩ : ∃ a3 : ByteArray, (⟨(aheadL (collectL p.whole)).toArray⟩ : ByteArray) = a3 := ⟨_, rfl⟩
  have l0 : a.data.toList = p.whole := by rw [← ha]
  have l1 : a1.data.toList = plainL p.whole := by rw [← ha1]
  have l2 : a2.data.toList = collectL p.whole := by rw [← ha2]
  have l3 : a3.data.toList = aheadL (collectL p.whole) := by rw [← ha3]
  have c1 := plain_le p.whole
  have c2 := collect_le p.whole
  have c3 : (aheadL (collectL p.whole)).length ≤ (collectL p.whole).length := (List.dropWhile_sublist _).length_le
  have z0 : a.size ≤ s.size := by rw [Lib.size_eq, l0]; omega
  have z1 : a1.size ≤ s.size := by rw [Lib.size_eq a1, l1]; omega
  have z2 : a2.size ≤ s.size := by rw [Lib.size_eq a2, l2]; omega
  have z3 : a3.size ≤ s.size := by rw [Lib.size_eq a3, l3]; omega
  have H1 := Lib.hid (fun W => plain_any a W (by omega))
  have H2 := Lib.hid (fun W => small_any a1 W (by unfold maxLen; omega))
  have H3 := Lib.hid (fun W => ahead_any a2 W (by unfold maxLen; omega))
  rw [l0, ha1] at H1
  rw [l1, show (plainL p.whole).map lowN = collectL p.whole from rfl, ha2] at H2
  rw [l2, ha3] at H3
  rw [← l3] at Hf
  rw [ha] at hraw
  have Hraw := Lib.hid hraw
  clear hraw ha ha1 ha2 ha3 l0 l1 l2 l3 c1 c2 c3 hpl hp d hb hg
  go_enter Tryz.func10, Tryz.ntmps10
  go_wp2_with fail
  refine H.out.mono ?_
  rintro e w1 ⟨hv, hb1⟩
  obtain rfl := (show e = .returned (.tuple #[partV p, .bool true]) from hv)
  clear hv
  rw [Hraw.out]
  unfold rawV
  go_wp2_with fail
  refine (H1.out _).mono ?_
  rintro e w2 ⟨rfl, hb2⟩
  go_wp2_with fail
  refine (H2.out _).mono ?_
  rintro e w3 ⟨rfl, hb3⟩
  have hb23 := hb2.trans (hb3.mono hb2.size)
  have hz : w1.heap.size < w3.heap.size := by have := hb23.size; simp at this; omega
  have Hb : Hid (Below w.heap.size w w3) := Lib.hid ((hb1.alloc hb1.size _).trans (hb23.mono (hb1.alloc hb1.size _).size))
  obtain ⟨hc3, hf3⟩ := bcell hb23
  have g0 := hc3 w1.heap.size 0 (by simp)
  rw [World.cell?_alloc_at _ _ _ _ rfl] at g0
  clear hb2 hb3 hb23 hc3 hf3
  go_wp2_with fail
  refine (H3.out _).mono ?_
  rintro e w4 ⟨rfl, rfl⟩
  by_cases he : a3.data.toList = []
  · have hE := str_empty a3 _ rfl he
    have Hr : Hid (canonS s.data.toList = ⟨([48, 111, 48] ++ nT false).toArray⟩) := Lib.hid (by rw [Hf.out.1, if_pos he]; rfl)
    clear he
    subst hE
    go_wp2_with fail
    go_ret2
    exact ⟨ret_str (by rw [Hr.out]; rfl) (by rw [Hf.out.2]), Hb.out⟩
  · obtain ⟨q1, q2⟩ := str_full a3 he
    have Hr : Hid (canonS s.data.toList = ⟨([48, 111] ++ a3.data.toList ++ nT false).toArray⟩) := Lib.hid (by rw [Hf.out.1, if_neg he]; rfl)
    clear he
    go_wp2_with fail
    go_ret2
    exact ⟨ret_str (by rw [Hr.out]; refine str_eq _ _ ?_; simp [nT]) (by rw [Hf.out.2]), Hb.out⟩

set_option maxHeartbeats 4000000 in
set_option maxRecDepth 100000 in
theorem rcanon_8_true (s : ByteArray) (p : Parts) (w : World) (hs : s.size ≤ 140737488354000) (hp : ofL s.data.toList = some p) (d : Bas p) (hb : p.base = 8) (hg : p.big = true) :
    Calls Tryz.prog 10 #[.string s] w fun e w' => e = .returned (.tuple #[.string (canonS s.data.toList), .int .i64 (okN s.data.toList)]) ∧ Below w.heap.size w w' := by
  have hpl := part_len _ _ hp
  rw [← Lib.size_eq] at hpl
  have hraw := bas_raw p d
  have Hf := Lib.hid (bas_canon p d _ hp)
  rw [hb, hg] at hraw Hf
  have H := Lib.hid (of_any s w hs)
  rw [hp] at H
  obtain ⟨a, ha⟩ : ∃ a : ByteArray, (⟨p.whole.toArray⟩ : ByteArray) = a := ⟨_, rfl⟩
  obtain ⟨a1, ha1⟩ : ∃ a1 : ByteArray, (⟨(plainL p.whole).toArray⟩ : ByteArray) = a1 := ⟨_, rfl⟩
  obtain ⟨a2, ha2⟩ : ∃ a2 : ByteArray, (⟨(collectL p.whole).toArray⟩ : ByteArray) = a2 := ⟨_, rfl⟩
  obtain ⟨a3, ha3⟩ : ∃ a3 : ByteArray, (⟨(aheadL (collectL p.whole)).toArray⟩ : ByteArray) = a3 := ⟨_, rfl⟩
  have l0 : a.data.toList = p.whole := by rw [← ha]
  have l1 : a1.data.toList = plainL p.whole := by rw [← ha1]
  have l2 : a2.data.toList = collectL p.whole := by rw [← ha2]
  have l3 : a3.data.toList = aheadL (collectL p.whole) := by rw [← ha3]
  have c1 := plain_le p.whole
  have c2 := collect_le p.whole
  have c3 : (aheadL (collectL p.whole)).length ≤ (collectL p.whole).length := (List.dropWhile_sublist _).length_le
  have z0 : a.size ≤ s.size := by rw [Lib.size_eq, l0]; omega
  have z1 : a1.size ≤ s.size := by rw [Lib.size_eq a1, l1]; omega
  have z2 : a2.size ≤ s.size := by rw [Lib.size_eq a2, l2]; omega
  have z3 : a3.size ≤ s.size := by rw [Lib.size_eq a3, l3]; omega
  have H1 := Lib.hid (fun W => plain_any a W (by omega))
  have H2 := Lib.hid (fun W => small_any a1 W (by unfold maxLen; omega))
  have H3 := Lib.hid (fun W => ahead_any a2 W (by unfold maxLen; omega))
  rw [l0, ha1] at H1
  rw [l1, show (plainL p.whole).map lowN = collectL p.whole from rfl, ha2] at H2
  rw [l2, ha3] at H3
  rw [← l3] at Hf
  rw [ha] at hraw
  have Hraw := Lib.hid hraw
  clear hraw ha ha1 ha2 ha3 l0 l1 l2 l3 c1 c2 c3 hpl hp d hb hg
  go_enter Tryz.func10, Tryz.ntmps10
  go_wp2_with fail
  refine H.out.mono ?_
  rintro e w1 ⟨hv, hb1⟩
  obtain rfl := (show e = .returned (.tuple #[partV p, .bool true]) from hv)
  clear hv
  rw [Hraw.out]
  unfold rawV
  go_wp2_with fail
  refine (H1.out _).mono ?_
  rintro e w2 ⟨rfl, hb2⟩
  go_wp2_with fail
  refine (H2.out _).mono ?_
  rintro e w3 ⟨rfl, hb3⟩
  have hb23 := hb2.trans (hb3.mono hb2.size)
  have hz : w1.heap.size < w3.heap.size := by have := hb23.size; simp at this; omega
  have Hb : Hid (Below w.heap.size w w3) := Lib.hid ((hb1.alloc hb1.size _).trans (hb23.mono (hb1.alloc hb1.size _).size))
  obtain ⟨hc3, hf3⟩ := bcell hb23
  have g0 := hc3 w1.heap.size 0 (by simp)
  rw [World.cell?_alloc_at _ _ _ _ rfl] at g0
  clear hb2 hb3 hb23 hc3 hf3
  go_wp2_with fail
  refine (H3.out _).mono ?_
  rintro e w4 ⟨rfl, rfl⟩
  by_cases he : a3.data.toList = []
  · have hE := str_empty a3 _ rfl he
    have Hr : Hid (canonS s.data.toList = ⟨([48, 111, 48] ++ nT true).toArray⟩) := Lib.hid (by rw [Hf.out.1, if_pos he]; rfl)
    clear he
    subst hE
    go_wp2_with fail
    go_ret2
    exact ⟨ret_str (by rw [Hr.out]; rfl) (by rw [Hf.out.2]), Hb.out⟩
  · obtain ⟨q1, q2⟩ := str_full a3 he
    have Hr : Hid (canonS s.data.toList = ⟨([48, 111] ++ a3.data.toList ++ nT true).toArray⟩) := Lib.hid (by rw [Hf.out.1, if_neg he]; rfl)
    clear he
    go_wp2_with fail
    go_ret2
    exact ⟨ret_str (by rw [Hr.out]; refine str_eq _ _ ?_; simp [nT]) (by rw [Hf.out.2]), Hb.out⟩

set_option maxHeartbeats 4000000 in
set_option maxRecDepth 100000 in
theorem rcanon_2_false (s : ByteArray) (p : Parts) (w : World) (hs : s.size ≤ 140737488354000) (hp : ofL s.data.toList = some p) (d : Bas p) (hb : p.base = 2) (hg : p.big = false) :
    Calls Tryz.prog 10 #[.string s] w fun e w' => e = .returned (.tuple #[.string (canonS s.data.toList), .int .i64 (okN s.data.toList)]) ∧ Below w.heap.size w w' := by
  have hpl := part_len _ _ hp
  rw [← Lib.size_eq] at hpl
  have hraw := bas_raw p d
  have Hf := Lib.hid (bas_canon p d _ hp)
  rw [hb, hg] at hraw Hf
  have H := Lib.hid (of_any s w hs)
  rw [hp] at H
  obtain ⟨a, ha⟩ : ∃ a : ByteArray, (⟨p.whole.toArray⟩ : ByteArray) = a := ⟨_, rfl⟩
  obtain ⟨a1, ha1⟩ : ∃ a1 : ByteArray, (⟨(plainL p.whole).toArray⟩ : ByteArray) = a1 := ⟨_, rfl⟩
  obtain ⟨a2, ha2⟩ : ∃ a2 : ByteArray, (⟨(collectL p.whole).toArray⟩ : ByteArray) = a2 := ⟨_, rfl⟩
  obtain ⟨a3, ha3⟩ : ∃ a3 : ByteArray, (⟨(aheadL (collectL p.whole)).toArray⟩ : ByteArray) = a3 := ⟨_, rfl⟩
  have l0 : a.data.toList = p.whole := by rw [← ha]
  have l1 : a1.data.toList = plainL p.whole := by rw [← ha1]
  have l2 : a2.data.toList = collectL p.whole := by rw [← ha2]
  have l3 : a3.data.toList = aheadL (collectL p.whole) := by rw [← ha3]
  have c1 := plain_le p.whole
  have c2 := collect_le p.whole
  have c3 : (aheadL (collectL p.whole)).length ≤ (collectL p.whole).length := (List.dropWhile_sublist _).length_le
  have z0 : a.size ≤ s.size := by rw [Lib.size_eq, l0]; omega
  have z1 : a1.size ≤ s.size := by rw [Lib.size_eq a1, l1]; omega
  have z2 : a2.size ≤ s.size := by rw [Lib.size_eq a2, l2]; omega
  have z3 : a3.size ≤ s.size := by rw [Lib.size_eq a3, l3]; omega
  have H1 := Lib.hid (fun W => plain_any a W (by omega))
  have H2 := Lib.hid (fun W => small_any a1 W (by unfold maxLen; omega))
  have H3 := Lib.hid (fun W => ahead_any a2 W (by unfold maxLen; omega))
  rw [l0, ha1] at H1
  rw [l1, show (plainL p.whole).map lowN = collectL p.whole from rfl, ha2] at H2
  rw [l2, ha3] at H3
  rw [← l3] at Hf
  rw [ha] at hraw
  have Hraw := Lib.hid hraw
  clear hraw ha ha1 ha2 ha3 l0 l1 l2 l3 c1 c2 c3 hpl hp d hb hg
  go_enter Tryz.func10, Tryz.ntmps10
  go_wp2_with fail
  refine H.out.mono ?_
  rintro e w1 ⟨hv, hb1⟩
  obtain rfl := (show e = .returned (.tuple #[partV p, .bool true]) from hv)
  clear hv
  rw [Hraw.out]
  unfold rawV
  go_wp2_with fail
  refine (H1.out _).mono ?_
  rintro e w2 ⟨rfl, hb2⟩
  go_wp2_with fail
  refine (H2.out _).mono ?_
  rintro e w3 ⟨rfl, hb3⟩
  have hb23 := hb2.trans (hb3.mono hb2.size)
  have hz : w1.heap.size < w3.heap.size := by have := hb23.size; simp at this; omega
  have Hb : Hid (Below w.heap.size w w3) := Lib.hid ((hb1.alloc hb1.size _).trans (hb23.mono (hb1.alloc hb1.size _).size))
  obtain ⟨hc3, hf3⟩ := bcell hb23
  have g0 := hc3 w1.heap.size 0 (by simp)
  rw [World.cell?_alloc_at _ _ _ _ rfl] at g0
  clear hb2 hb3 hb23 hc3 hf3
  go_wp2_with fail
  refine (H3.out _).mono ?_
  rintro e w4 ⟨rfl, rfl⟩
  by_cases he : a3.data.toList = []
  · have hE := str_empty a3 _ rfl he
    have Hr : Hid (canonS s.data.toList = ⟨([48, 98, 48] ++ nT false).toArray⟩) := Lib.hid (by rw [Hf.out.1, if_pos he]; rfl)
    clear he
    subst hE
    go_wp2_with fail
    go_ret2
    exact ⟨ret_str (by rw [Hr.out]; rfl) (by rw [Hf.out.2]), Hb.out⟩
  · obtain ⟨q1, q2⟩ := str_full a3 he
    have Hr : Hid (canonS s.data.toList = ⟨([48, 98] ++ a3.data.toList ++ nT false).toArray⟩) := Lib.hid (by rw [Hf.out.1, if_neg he]; rfl)
    clear he
    go_wp2_with fail
    go_ret2
    exact ⟨ret_str (by rw [Hr.out]; refine str_eq _ _ ?_; simp [nT]) (by rw [Hf.out.2]), Hb.out⟩

set_option maxHeartbeats 4000000 in
set_option maxRecDepth 100000 in
theorem rcanon_2_true (s : ByteArray) (p : Parts) (w : World) (hs : s.size ≤ 140737488354000) (hp : ofL s.data.toList = some p) (d : Bas p) (hb : p.base = 2) (hg : p.big = true) :
    Calls Tryz.prog 10 #[.string s] w fun e w' => e = .returned (.tuple #[.string (canonS s.data.toList), .int .i64 (okN s.data.toList)]) ∧ Below w.heap.size w w' := by
  have hpl := part_len _ _ hp
  rw [← Lib.size_eq] at hpl
  have hraw := bas_raw p d
  have Hf := Lib.hid (bas_canon p d _ hp)
  rw [hb, hg] at hraw Hf
  have H := Lib.hid (of_any s w hs)
  rw [hp] at H
  obtain ⟨a, ha⟩ : ∃ a : ByteArray, (⟨p.whole.toArray⟩ : ByteArray) = a := ⟨_, rfl⟩
  obtain ⟨a1, ha1⟩ : ∃ a1 : ByteArray, (⟨(plainL p.whole).toArray⟩ : ByteArray) = a1 := ⟨_, rfl⟩
  obtain ⟨a2, ha2⟩ : ∃ a2 : ByteArray, (⟨(collectL p.whole).toArray⟩ : ByteArray) = a2 := ⟨_, rfl⟩
  obtain ⟨a3, ha3⟩ : ∃ a3 : ByteArray, (⟨(aheadL (collectL p.whole)).toArray⟩ : ByteArray) = a3 := ⟨_, rfl⟩
  have l0 : a.data.toList = p.whole := by rw [← ha]
  have l1 : a1.data.toList = plainL p.whole := by rw [← ha1]
  have l2 : a2.data.toList = collectL p.whole := by rw [← ha2]
  have l3 : a3.data.toList = aheadL (collectL p.whole) := by rw [← ha3]
  have c1 := plain_le p.whole
  have c2 := collect_le p.whole
  have c3 : (aheadL (collectL p.whole)).length ≤ (collectL p.whole).length := (List.dropWhile_sublist _).length_le
  have z0 : a.size ≤ s.size := by rw [Lib.size_eq, l0]; omega
  have z1 : a1.size ≤ s.size := by rw [Lib.size_eq a1, l1]; omega
  have z2 : a2.size ≤ s.size := by rw [Lib.size_eq a2, l2]; omega
  have z3 : a3.size ≤ s.size := by rw [Lib.size_eq a3, l3]; omega
  have H1 := Lib.hid (fun W => plain_any a W (by omega))
  have H2 := Lib.hid (fun W => small_any a1 W (by unfold maxLen; omega))
  have H3 := Lib.hid (fun W => ahead_any a2 W (by unfold maxLen; omega))
  rw [l0, ha1] at H1
  rw [l1, show (plainL p.whole).map lowN = collectL p.whole from rfl, ha2] at H2
  rw [l2, ha3] at H3
  rw [← l3] at Hf
  rw [ha] at hraw
  have Hraw := Lib.hid hraw
  clear hraw ha ha1 ha2 ha3 l0 l1 l2 l3 c1 c2 c3 hpl hp d hb hg
  go_enter Tryz.func10, Tryz.ntmps10
  go_wp2_with fail
  refine H.out.mono ?_
  rintro e w1 ⟨hv, hb1⟩
  obtain rfl := (show e = .returned (.tuple #[partV p, .bool true]) from hv)
  clear hv
  rw [Hraw.out]
  unfold rawV
  go_wp2_with fail
  refine (H1.out _).mono ?_
  rintro e w2 ⟨rfl, hb2⟩
  go_wp2_with fail
  refine (H2.out _).mono ?_
  rintro e w3 ⟨rfl, hb3⟩
  have hb23 := hb2.trans (hb3.mono hb2.size)
  have hz : w1.heap.size < w3.heap.size := by have := hb23.size; simp at this; omega
  have Hb : Hid (Below w.heap.size w w3) := Lib.hid ((hb1.alloc hb1.size _).trans (hb23.mono (hb1.alloc hb1.size _).size))
  obtain ⟨hc3, hf3⟩ := bcell hb23
  have g0 := hc3 w1.heap.size 0 (by simp)
  rw [World.cell?_alloc_at _ _ _ _ rfl] at g0
  clear hb2 hb3 hb23 hc3 hf3
  go_wp2_with fail
  refine (H3.out _).mono ?_
  rintro e w4 ⟨rfl, rfl⟩
  by_cases he : a3.data.toList = []
  · have hE := str_empty a3 _ rfl he
    have Hr : Hid (canonS s.data.toList = ⟨([48, 98, 48] ++ nT true).toArray⟩) := Lib.hid (by rw [Hf.out.1, if_pos he]; rfl)
    clear he
    subst hE
    go_wp2_with fail
    go_ret2
    exact ⟨ret_str (by rw [Hr.out]; rfl) (by rw [Hf.out.2]), Hb.out⟩
  · obtain ⟨q1, q2⟩ := str_full a3 he
    have Hr : Hid (canonS s.data.toList = ⟨([48, 98] ++ a3.data.toList ++ nT true).toArray⟩) := Lib.hid (by rw [Hf.out.1, if_neg he]; rfl)
    clear he
    go_wp2_with fail
    go_ret2
    exact ⟨ret_str (by rw [Hr.out]; refine str_eq _ _ ?_; simp [nT]) (by rw [Hf.out.2]), Hb.out⟩

end Num
end Go.Proofs.YtinjaopgnlpncaaGreatDoor
