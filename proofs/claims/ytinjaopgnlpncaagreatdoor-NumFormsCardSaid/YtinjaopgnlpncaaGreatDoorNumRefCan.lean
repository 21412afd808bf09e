/-
  The document's own normal form of a decimal.
-/
import Derived.Test.YtinjaopgnlpncaaGreatDoorNumRefDec
import Derived.Test.YtinjaopgnlpncaaGreatDoorNumBack
import Derived.Deep.CutRange
import Derived.Deep.RegionHeld3
namespace Go.Proofs.YtinjaopgnlpncaaGreatDoor
namespace Num
open Go.RowKit

theorem norm_ahead (f : Nat) (pw : Int) : ∀ X : List UInt8, normDec X f pw = normDec (aheadL X) f pw := by
  intro X
  induction X with
  | nil => rfl
  | cons c t ih =>
    by_cases h : c = 48
    · subst h
      rw [norm_lead, ih]
      congr 1
    · rw [show aheadL (c :: t) = c :: t from by rw [aheadL, List.dropWhile_cons, if_neg (by simpa using h)]]
theorem ahead_head (X : List UInt8) : ∀ c r, aheadL X = c :: r → c ≠ 48 := by
  induction X with
  | nil => intro c r h; cases h
  | cons d t ih =>
    intro c r h
    rw [aheadL, List.dropWhile_cons] at h
    by_cases hd : d = 48
    · rw [if_pos (by simpa using hd)] at h; exact ih c r h
    · rw [if_neg (by simpa using hd)] at h
      simp only [List.cons.injEq] at h
      rw [← h.1]; exact hd
theorem trimZ_pre (Y : List UInt8) : ∃ z, Y = trimZ Y ++ z := by
  obtain ⟨z, hz⟩ := List.dropWhile_suffix (l := Y.reverse) (fun c => c == 48)
  refine ⟨z.reverse, ?_⟩
  have := congrArg List.reverse hz
  rw [List.reverse_append, List.reverse_reverse] at this
  exact this.symm
theorem norm_ref (X : List UInt8) (f : Nat) (pw : Int) : normDec X f pw = if trimZ (aheadL X) = [] then [48] else trimZ (aheadL X) ++ 101 :: Lib.itoa (pw - f + (((aheadL X).length : Int) - (trimZ (aheadL X)).length)) := by
  rw [norm_ahead]
  have hh := ahead_head X
  generalize aheadL X = Y at *
  have ha : aheadL (trimZ Y) = trimZ Y := by
    obtain ⟨z, hz⟩ := trimZ_pre Y
    cases ht : trimZ Y with
    | nil => rfl
    | cons c r =>
      rw [ht] at hz
      have := hh c (r ++ z) hz
      rw [aheadL, List.dropWhile_cons, if_neg (by simpa using this)]
  rw [normDec, ha]
theorem trimZ_snoc (l : List UInt8) (c : UInt8) : trimZ (l ++ [c]) = if c = 48 then trimZ l else l ++ [c] := by
  unfold trimZ
  rw [List.reverse_append, List.reverse_singleton, List.singleton_append, List.dropWhile_cons]
  by_cases h : c = 48
  · rw [if_pos h, if_pos (by simpa using h)]
  · rw [if_neg h, if_neg (by simpa using h)]; simp
theorem low_same (c : UInt8) (h : valN c < 10) : lowN c = c := by
  have h48 : digN c = true := by rw [dig_val]; exact decide_eq_true h
  have := of_decide_eq_true h48
  rw [lowN, if_neg (by omega)]
theorem collect_plain (l : List UInt8) (h : ∀ c ∈ l, valN c < 10 ∨ c = 95) : collectL l = plainL l := by
  unfold collectL
  rw [List.map_congr_left (g := id) (fun c hc => ?_), List.map_id]
  have hm : c ∈ l ∧ c ≠ 95 := by simpa [plainL] using hc
  rcases h c hm.1 with h | h
  · exact low_same c h
  · exact absurd h hm.2
theorem plain_dig (l : List UInt8) (h : ∀ c ∈ l, valN c < 10 ∨ c = 95) : ∀ c ∈ aheadL (plainL l), digN c = true := by
  intro c hc
  have hc : c ∈ plainL l := (List.dropWhile_sublist _).subset hc
  have hm : c ∈ l ∧ c ≠ 95 := by simpa [plainL] using hc
  rcases h c hm.1 with h | h
  · rw [dig_val]; exact decide_eq_true h
  · exact absurd h hm.2

/-- What the region that draws keeps. -/
def plS (x : ByteArray) : ByteArray := ⟨(plainL x.data.toList).toArray⟩
def Keep (B : Nat) (a f : ByteArray) (w W : World) : Prop := W.cell? ⟨B, 1, none⟩ = some (.string a) ∧ W.cell? ⟨B, 3, none⟩ = some (.string f) ∧ B < W.heap.size ∧ Below w.heap.size w W
theorem Keep.on {B : Nat} {a f : ByteArray} {w W V : World} (h : Keep B a f w W) (hb : Below W.heap.size W V) : Keep B a f w V :=
  ⟨((bcell hb).1 _ _ h.2.2.1).trans h.1, ((bcell hb).1 _ _ h.2.2.1).trans h.2.1, Nat.lt_of_lt_of_le h.2.2.1 hb.size, h.2.2.2.trans (hb.mono h.2.2.2.size)⟩
theorem plain_keep (B : Nat) (a f x : ByteArray) (w : World) (y : ByteArray) (W : World) (hy : (⟨(plainL x.data.toList).toArray⟩ : ByteArray) = y) (h : Keep B a f w W) (hx : x.size ≤ 140737488355328) :
    Calls Tryz.prog 27 #[.string x] W fun e w' => e = .returned (.string y) ∧ w'.cell? ⟨B, 1, none⟩ = some (.string a) ∧ w'.cell? ⟨B, 3, none⟩ = some (.string f) ∧ B < w'.heap.size ∧ Below w.heap.size w w' := by
  refine (plain_any x W hx).mono ?_
  rintro e w' ⟨rfl, hb⟩
  exact ⟨by rw [hy], h.on hb⟩

set_option maxHeartbeats 8000000 in
set_option maxRecDepth 100000 in
theorem rcanon_dec_false_false (s : ByteArray) (p : Parts) (w : World) (hs : s.size ≤ 140737488354000) (hp : ofL s.data.toList = some p) (d : Dec p) (hm : decide (p.sgn = [45]) = false) (hg : p.big = false) :
    Calls Tryz.prog 10 #[.string s] w fun e w' => e = .returned (.tuple #[.string (canonS s.data.toList), .int .i64 (okN s.data.toList)]) ∧ Below w.heap.size w w' := by
  have hpl := part_len _ _ hp
  rw [← Lib.size_eq, List.length_append] at hpl
  have hraw : partV p = rawV 10 ⟨p.whole.toArray⟩ p.dot ⟨p.frac.toArray⟩ p.exp false ⟨p.pow.toArray⟩ false := by rw [partV, d.base, hm, hg]; rfl
  have mw := run_mem 10 p.whole false d.whole
  have mf := run_mem 10 p.frac false d.frac
  have mp : ∀ c ∈ p.pow, valN c < 10 ∨ c = 95 := by
    cases hx : p.exp with
    | false => rw [(d.exp hx).2]; intro c hc; cases hc
    | true => exact run_mem 10 p.pow false (d.pow hx).1
  have hp9 : (aheadL (plainL p.pow)).length ≤ 9 := by
    cases hx : p.exp with
    | false => rw [(d.exp hx).2]; decide
    | true => exact (d.pow hx).2.2.1
  have hnum := num_small p.pow hp9
  have hpi : powI p = (numL 0 p.pow : Int) := by
    rw [powI]
    rw [if_neg (of_decide_eq_false hm)]
  have f1 : canonS s.data.toList = ⟨(normDec (plainL p.whole ++ plainL p.frac) (plainL p.frac).length ((numL 0 p.pow : Int)) ++ nT false).toArray⟩ ∧ okN s.data.toList = 0 := by
    rw [canonS, okN, hp]
    exact ⟨by show (⟨(canonL p).toArray⟩ : ByteArray) = _; rw [canonL, if_pos d.base, collect_plain _ mw, collect_plain _ mf, hpi, hg], rfl⟩
  rw [norm_ref] at f1
  have H := Lib.hid (of_any s w hs)
  rw [hp] at H
  have c1 := plain_le p.whole
  have c2 := plain_le p.frac
  have c3 : (aheadL (plainL p.whole ++ plainL p.frac)).length ≤ (plainL p.whole ++ plainL p.frac).length := (List.dropWhile_sublist _).length_le
  rw [List.length_append] at c3
  obtain ⟨a, ha⟩ : ∃ a : ByteArray, (⟨p.whole.toArray⟩ : ByteArray) = a := ⟨_, rfl⟩
  obtain ⟨f, hf⟩ : ∃ f : ByteArray, (⟨p.frac.toArray⟩ : ByteArray) = f := ⟨_, rfl⟩
  obtain ⟨pw, hpw⟩ : ∃ pw : ByteArray, (⟨p.pow.toArray⟩ : ByteArray) = pw := ⟨_, rfl⟩
  obtain ⟨a1, ha1⟩ : ∃ a1 : ByteArray, (⟨(plainL p.whole).toArray⟩ : ByteArray) = a1 := ⟨_, rfl⟩
  obtain ⟨x1, hx1⟩ : ∃ x1 : ByteArray, (⟨(plainL p.frac).toArray⟩ : ByteArray) = x1 := ⟨_, rfl⟩
  obtain ⟨p1, hp1⟩ : ∃ p1 : ByteArray, (⟨(plainL p.pow).toArray⟩ : ByteArray) = p1 := ⟨_, rfl⟩
  obtain ⟨p2, hp2⟩ : ∃ p2 : ByteArray, (⟨(aheadL (plainL p.pow)).toArray⟩ : ByteArray) = p2 := ⟨_, rfl⟩
  obtain ⟨D, hD⟩ : ∃ D : ByteArray, (⟨(aheadL (plainL p.whole ++ plainL p.frac)).toArray⟩ : ByteArray) = D := ⟨_, rfl⟩
  have l0 : a.data.toList = p.whole := by rw [← ha]
  have l1 : f.data.toList = p.frac := by rw [← hf]
  have l2 : pw.data.toList = p.pow := by rw [← hpw]
  have l3 : a1.data.toList = plainL p.whole := by rw [← ha1]
  have l4 : x1.data.toList = plainL p.frac := by rw [← hx1]
  have l5 : p1.data.toList = plainL p.pow := by rw [← hp1]
  have l6 : p2.data.toList = aheadL (plainL p.pow) := by rw [← hp2]
  have l7 : D.data.toList = aheadL (plainL p.whole ++ plainL p.frac) := by rw [← hD]
  have z0 : a.size ≤ s.size := by rw [Lib.size_eq, l0]; omega
  have z1 : f.size ≤ s.size := by rw [Lib.size_eq f, l1]; omega
  have z2 : pw.size ≤ s.size := by rw [Lib.size_eq pw, l2]; omega
  have z3 : a1.size ≤ s.size := by rw [Lib.size_eq a1, l3]; omega
  have z4 : x1.size ≤ s.size := by rw [Lib.size_eq x1, l4]; omega
  have z5 : p1.size ≤ s.size := by have := plain_le p.pow; rw [Lib.size_eq p1, l5]; omega
  have z6 : p2.size ≤ 9 := by rw [Lib.size_eq p2, l6]; exact hp9
  have z7 : D.size ≤ s.size := by rw [Lib.size_eq D, l7]; omega
  have lax : (a1 ++ x1).data.toList = plainL p.whole ++ plainL p.frac := by simp [l3, l4]
  have zax : (a1 ++ x1).size ≤ maxLen := by
    rw [Lib.size_eq, lax, List.length_append]; unfold maxLen; omega
  have hx1l : (plainL p.frac).length = x1.size := by rw [Lib.size_eq x1, l4]
  have hDl : (aheadL (plainL p.whole ++ plainL p.frac)).length = D.size := by rw [Lib.size_eq D, l7]
  rw [hx1l, hDl, ← l7] at f1
  have P1 := Lib.hid (fun W => plain_any pw W (by omega))
  rw [l2, hp1] at P1
  have P2 := Lib.hid (fun W => ahead_any p1 W (by unfold maxLen; omega))
  rw [l5, hp2] at P2
  have P3 := Lib.hid (fun W => number_any p2 W z6 (by rw [l6]; exact plain_dig _ mp))
  rw [l6, numL_ahead, numL_plain] at P3
  have hpa : plS a = a1 := by rw [plS, l0, ha1]
  have hpx : plS f = x1 := by rw [plS, l1, hx1]
  have KF := Lib.hid (fun B w W h => plain_keep B a f f w x1 W (by rw [l1, hx1]) h (by omega))
  have KA := Lib.hid (fun W => ahead_any (a1 ++ x1) W zax)
  rw [lax, hD] at KA
  rw [ha, hf, hpw] at hraw
  have Hraw := Lib.hid hraw
  have Hf := Lib.hid f1
  generalize p.dot = dt at *
  generalize p.exp = xx at *
  obtain ⟨N, hN⟩ : ∃ N : Nat, numL 0 p.pow = N := ⟨_, rfl⟩
  rw [hN] at P3 Hf hnum
  clear hraw f1 mw mf mp hp9 hpi hp d hm hg c1 c2 c3 hpl ha hf hpw ha1 hx1 hp1 hp2 hD l0 l1 l2 l3 l4 l5 l6 l7 lax zax hx1l hDl hN
  go_enter Tryz.func10, Tryz.ntmps10
  go_wp2_with fail
  refine H.out.mono ?_
  rintro e w1 ⟨hv, hb1⟩
  obtain rfl := (show e = .returned (.tuple #[partV p, .bool true]) from hv)
  clear hv
  rw [Hraw.out]
  unfold rawV
  go_wp2_with fail
  refine (P1.out _).mono ?_
  rintro e w2 ⟨rfl, hb2⟩
  have hz : w1.heap.size < w2.heap.size := by have := hb2.size; simp at this; omega
  have kb : Below w.heap.size w w2 := (hb1.alloc hb1.size _).trans (hb2.mono (hb1.alloc hb1.size _).size)
  obtain ⟨hc2, hf2⟩ := bcell hb2
  have k1 := hc2 w1.heap.size 1 (by simp)
  have k3 := hc2 w1.heap.size 3 (by simp)
  have k5 := hc2 w1.heap.size 5 (by simp)
  rw [World.cell?_alloc_at _ _ _ _ rfl] at k1 k3 k5
  clear hb1 hb2 hc2 hf2
  go_wp2_with fail
  refine (P2.out _).mono ?_
  rintro e w3 ⟨rfl, rfl⟩
  go_wp2_with fail
  refine (P3.out _).mono ?_
  rintro e w3 ⟨rfl, rfl⟩
  go_wp2_with fail
  refine (KF.out w1.heap.size w _ ⟨k1, k3, hz, kb⟩).mono ?_
  clear k1 k3 k5 kb
  rintro e w3 ⟨rfl, k1, k3, kz, kb⟩
  have KP := Lib.hid (fun x W h hx => plain_keep w1.heap.size a f x w (plS x) W rfl h hx)
  have za : a.size ≤ 140737488355328 := by omega
  have zf : f.size ≤ 140737488355328 := by omega
  rw [← hpa, ← hpx] at KA
  have zpa : (plS a).size ≤ 140737488354000 := by rw [hpa]; omega
  have zpx : (plS f).size ≤ 140737488354000 := by rw [hpx]; omega
  have hcat : ¬ 9223372036854775807 < (plS a).size + (plS f).size := by omega
  have hcat2 : (plS a).size + (plS f).size ≤ 9223372036854775807 := by omega
  have hcat3 : (plS a).size + (plS f).size ≤ maxLen := by unfold maxLen; omega
  clear hpa hpx
  go_upto_region 21 with fail
  go_cut [10] from 56 to 63 (fun c wx => c = .string D ∧ Below w.heap.size w wx)
  case first =>
    go_region_held3 (fun wx => wx.cell? ⟨w1.heap.size, 1, none⟩ = some (.string a) ∧ wx.cell? ⟨w1.heap.size, 3, none⟩ = some (.string f) ∧ w1.heap.size < wx.heap.size ∧ Below w.heap.size w wx)
      (first | exact ⟨k1, k3, kz, kb⟩ | exact ⟨k1, k3, kz, kb.drew⟩ | assumption)
      (first
      | (go_at_call 27; refine (KP.out _ _ ?_ ?_).mono ?_; (first | exact ⟨k1, k3, kz, kb⟩ | exact ⟨k1, k3, kz, kb.drew⟩ | assumption); (first | exact za | exact zf); rintro e wx ⟨rfl, k1, k3, kz, kb⟩)
      | (go_at_call 25; refine (KA.out _).mono ?_; rintro e wx ⟨rfl, rfl⟩))
    all_goals (go_wp2_with fail; go_meet; exact ⟨rfl, kb⟩)
  case rest =>
    obtain ⟨rfl, hbx⟩ := hcut
    have Hbx := Lib.hid hbx
    clear hbx k1 k3 kz kb
    go_wp2_with fail
    go_loop [9, 10] (fun pv dv => ∃ t : ByteArray, dv = .string t ∧ t.size ≤ D.size ∧ pv = .int .i64 (((N : Int) - (x1.size : Int)) + ((D.size : Int) - (t.size : Int))) ∧ trimZ t.data.toList = trimZ D.data.toList) (fun _ dv => lenS dv)
    case atStart => exact ⟨D, rfl, Nat.le_refl _, by rw [Int.sub_self, Int.add_zero], rfl⟩
    case round =>
      obtain ⟨t, rfl, ht, rfl, hl⟩ := hrel
      have Hl := Lib.hid hl; clear hl
      by_cases h0 : 0 < t.size
      · have hlb := last_byte t h0
        have hlt : t.size - 1 < t.size := by omega
        have h1 : 1 ≤ t.size := h0
        have hde : ¬ t = ByteArray.empty := by intro e; rw [e] at h0; exact absurd h0 (by decide)
        have hsn := trimZ_snoc (t.data.toList.take (t.size - 1)) (t[t.size - 1]'hlt)
        rw [← hlb] at hsn
        by_cases hc : t[t.size - 1]'hlt = 48
        · have t1 : (((t[t.size - 1]'hlt).toNat : Int) == 48) = true := by rw [t48, hc]; rfl
          have Hn : Hid (trimZ (t.extract 0 (t.size - 1)).data.toList = trimZ D.data.toList) := Lib.hid (by
            rw [take_str]; show trimZ (t.data.toList.take (t.size - 1)) = _
            rw [← Hl.out, hsn, if_pos hc])
          have Hz : Hid (((t.extract 0 (t.size - 1)).size : Int) = (t.size : Int) - 1 ∧ (t.extract 0 (t.size - 1)).size ≤ D.size ∧ (t.extract 0 (t.size - 1)).size < t.size) := Lib.hid (by
            have : (t.extract 0 (t.size - 1)).size = t.size - 1 := by simp
            omega)
          clear hlb hsn hc
          go_wp2_with fail
          go_round
          case rel => exact ⟨_, rfl, Hz.out.2.1, by rw [Hz.out.1]; go_num, Hn.out⟩
          case measure => exact Hz.out.2.2
        · have t1 : (((t[t.size - 1]'hlt).toNat : Int) == 48) = false := by rw [t48]; simp [hc]
          have Hn : Hid (trimZ D.data.toList = t.data.toList) := Lib.hid (by rw [← Hl.out, hsn, if_neg hc])
          have hte : t.data.toList ≠ [] := by rw [hlb]; simp
          obtain ⟨p1', p2'⟩ := str_full t hte
          have Hr : Hid (canonS s.data.toList = ⟨(t.data.toList ++ 101 :: Lib.itoa (((N : Int) - (x1.size : Int)) + ((D.size : Int) - (t.size : Int))) ++ nT false).toArray⟩) := Lib.hid (by
            rw [Hf.out.1, Hn.out, if_neg hte, ← Lib.size_eq])
          have hil := itoa_le (((N : Int) - (x1.size : Int)) + ((D.size : Int) - (t.size : Int))) (by omega) (by omega)
          have Hdec := Lib.hid (fun W => decimal_any (((N : Int) - (x1.size : Int)) + ((D.size : Int) - (t.size : Int))) W (by omega) (by omega))
          obtain ⟨r, hr⟩ : ∃ r : ByteArray, (⟨(Lib.itoa (((N : Int) - (x1.size : Int)) + ((D.size : Int) - (t.size : Int)))).toArray⟩ : ByteArray) = r := ⟨_, rfl⟩
          have hrl : r.data.toList = Lib.itoa (((N : Int) - (x1.size : Int)) + ((D.size : Int) - (t.size : Int))) := by rw [← hr]
          have hrs : r.size ≤ 21 := by rw [Lib.size_eq, hrl]; exact hil
          rw [← hrl] at Hr
          rw [hr] at Hdec
          clear hlb hsn hc hte hil hr hrl
          go_wp2_with fail
          refine (Hdec.out _).mono ?_
          rintro e w5 ⟨rfl, hb5⟩
          have Hb5 := Lib.hid (Hbx.out.trans (hb5.mono Hbx.out.size))
          clear hb5
          go_wp2_with fail
          go_ret2
          exact ⟨ret_str (by rw [Hr.out]; refine str_eq _ _ ?_; simp [nT]) (by rw [Hf.out.2]), Hb5.out⟩
      · have h00 : t.data.toList = [] := List.length_eq_zero_iff.1 (by rw [← Lib.size_eq]; omega)
        have Hr : Hid (canonS s.data.toList = ⟨([48] ++ nT false).toArray⟩) := Lib.hid (by
          rw [Hf.out.1, ← Hl.out, h00]; rfl)
        have hT := str_empty t _ rfl h00
        clear h00 h0
        subst hT
        go_wp2_with fail
        go_ret2
        exact ⟨ret_str (by rw [Hr.out]; refine str_eq _ _ ?_; simp [nT]) (by rw [Hf.out.2]), Hbx.out⟩

set_option maxHeartbeats 8000000 in
set_option maxRecDepth 100000 in
theorem rcanon_dec_false_true (s : ByteArray) (p : Parts) (w : World) (hs : s.size ≤ 140737488354000) (hp : ofL s.data.toList = some p) (d : Dec p) (hm : decide (p.sgn = [45]) = false) (hg : p.big = true) :
    Calls Tryz.prog 10 #[.string s] w fun e w' => e = .returned (.tuple #[.string (canonS s.data.toList), .int .i64 (okN s.data.toList)]) ∧ Below w.heap.size w w' := by
  have hpl := part_len _ _ hp
  rw [← Lib.size_eq, List.length_append] at hpl
  have hraw : partV p = rawV 10 ⟨p.whole.toArray⟩ p.dot ⟨p.frac.toArray⟩ p.exp false ⟨p.pow.toArray⟩ true := by rw [partV, d.base, hm, hg]; rfl
  have mw := run_mem 10 p.whole false d.whole
  have mf := run_mem 10 p.frac false d.frac
  have mp : ∀ c ∈ p.pow, valN c < 10 ∨ c = 95 := by
    cases hx : p.exp with
    | false => rw [(d.exp hx).2]; intro c hc; cases hc
    | true => exact run_mem 10 p.pow false (d.pow hx).1
  have hp9 : (aheadL (plainL p.pow)).length ≤ 9 := by
    cases hx : p.exp with
    | false => rw [(d.exp hx).2]; decide
    | true => exact (d.pow hx).2.2.1
  have hnum := num_small p.pow hp9
  have hpi : powI p = (numL 0 p.pow : Int) := by
    rw [powI]
    rw [if_neg (of_decide_eq_false hm)]
  have f1 : canonS s.data.toList = ⟨(normDec (plainL p.whole ++ plainL p.frac) (plainL p.frac).length ((numL 0 p.pow : Int)) ++ nT true).toArray⟩ ∧ okN s.data.toList = 0 := by
    rw [canonS, okN, hp]
    exact ⟨by show (⟨(canonL p).toArray⟩ : ByteArray) = _; rw [canonL, if_pos d.base, collect_plain _ mw, collect_plain _ mf, hpi, hg], rfl⟩
  rw [norm_ref] at f1
  have H := Lib.hid (of_any s w hs)
  rw [hp] at H
  have c1 := plain_le p.whole
  have c2 := plain_le p.frac
  have c3 : (aheadL (plainL p.whole ++ plainL p.frac)).length ≤ (plainL p.whole ++ plainL p.frac).length := (List.dropWhile_sublist _).length_le
  rw [List.length_append] at c3
  obtain ⟨a, ha⟩ : ∃ a : ByteArray, (⟨p.whole.toArray⟩ : ByteArray) = a := ⟨_, rfl⟩
  obtain ⟨f, hf⟩ : ∃ f : ByteArray, (⟨p.frac.toArray⟩ : ByteArray) = f := ⟨_, rfl⟩
  obtain ⟨pw, hpw⟩ : ∃ pw : ByteArray, (⟨p.pow.toArray⟩ : ByteArray) = pw := ⟨_, rfl⟩
  obtain ⟨a1, ha1⟩ : ∃ a1 : ByteArray, (⟨(plainL p.whole).toArray⟩ : ByteArray) = a1 := ⟨_, rfl⟩
  obtain ⟨x1, hx1⟩ : ∃ x1 : ByteArray, (⟨(plainL p.frac).toArray⟩ : ByteArray) = x1 := ⟨_, rfl⟩
  obtain ⟨p1, hp1⟩ : ∃ p1 : ByteArray, (⟨(plainL p.pow).toArray⟩ : ByteArray) = p1 := ⟨_, rfl⟩
  obtain ⟨p2, hp2⟩ : ∃ p2 : ByteArray, (⟨(aheadL (plainL p.pow)).toArray⟩ : ByteArray) = p2 := ⟨_, rfl⟩
  obtain ⟨D, hD⟩ : ∃ D : ByteArray, (⟨(aheadL (plainL p.whole ++ plainL p.frac)).toArray⟩ : ByteArray) = D := ⟨_, rfl⟩
  have l0 : a.data.toList = p.whole := by rw [← ha]
  have l1 : f.data.toList = p.frac := by rw [← hf]
  have l2 : pw.data.toList = p.pow := by rw [← hpw]
  have l3 : a1.data.toList = plainL p.whole := by rw [← ha1]
  have l4 : x1.data.toList = plainL p.frac := by rw [← hx1]
  have l5 : p1.data.toList = plainL p.pow := by rw [← hp1]
  have l6 : p2.data.toList = aheadL (plainL p.pow) := by rw [← hp2]
  have l7 : D.data.toList = aheadL (plainL p.whole ++ plainL p.frac) := by rw [← hD]
  have z0 : a.size ≤ s.size := by rw [Lib.size_eq, l0]; omega
  have z1 : f.size ≤ s.size := by rw [Lib.size_eq f, l1]; omega
  have z2 : pw.size ≤ s.size := by rw [Lib.size_eq pw, l2]; omega
  have z3 : a1.size ≤ s.size := by rw [Lib.size_eq a1, l3]; omega
  have z4 : x1.size ≤ s.size := by rw [Lib.size_eq x1, l4]; omega
  have z5 : p1.size ≤ s.size := by have := plain_le p.pow; rw [Lib.size_eq p1, l5]; omega
  have z6 : p2.size ≤ 9 := by rw [Lib.size_eq p2, l6]; exact hp9
  have z7 : D.size ≤ s.size := by rw [Lib.size_eq D, l7]; omega
  have lax : (a1 ++ x1).data.toList = plainL p.whole ++ plainL p.frac := by simp [l3, l4]
  have zax : (a1 ++ x1).size ≤ maxLen := by
    rw [Lib.size_eq, lax, List.length_append]; unfold maxLen; omega
  have hx1l : (plainL p.frac).length = x1.size := by rw [Lib.size_eq x1, l4]
  have hDl : (aheadL (plainL p.whole ++ plainL p.frac)).length = D.size := by rw [Lib.size_eq D, l7]
  rw [hx1l, hDl, ← l7] at f1
  have P1 := Lib.hid (fun W => plain_any pw W (by omega))
  rw [l2, hp1] at P1
  have P2 := Lib.hid (fun W => ahead_any p1 W (by unfold maxLen; omega))
  rw [l5, hp2] at P2
  have P3 := Lib.hid (fun W => number_any p2 W z6 (by rw [l6]; exact plain_dig _ mp))
  rw [l6, numL_ahead, numL_plain] at P3
  have hpa : plS a = a1 := by rw [plS, l0, ha1]
  have hpx : plS f = x1 := by rw [plS, l1, hx1]
  have KF := Lib.hid (fun B w W h => plain_keep B a f f w x1 W (by rw [l1, hx1]) h (by omega))
  have KA := Lib.hid (fun W => ahead_any (a1 ++ x1) W zax)
  rw [lax, hD] at KA
  rw [ha, hf, hpw] at hraw
  have Hraw := Lib.hid hraw
  have Hf := Lib.hid f1
  generalize p.dot = dt at *
  generalize p.exp = xx at *
  obtain ⟨N, hN⟩ : ∃ N : Nat, numL 0 p.pow = N := ⟨_, rfl⟩
  rw [hN] at P3 Hf hnum
  clear hraw f1 mw mf mp hp9 hpi hp d hm hg c1 c2 c3 hpl ha hf hpw ha1 hx1 hp1 hp2 hD l0 l1 l2 l3 l4 l5 l6 l7 lax zax hx1l hDl hN
  go_enter Tryz.func10, Tryz.ntmps10
  go_wp2_with fail
  refine H.out.mono ?_
  rintro e w1 ⟨hv, hb1⟩
  obtain rfl := (show e = .returned (.tuple #[partV p, .bool true]) from hv)
  clear hv
  rw [Hraw.out]
  unfold rawV
  go_wp2_with fail
  refine (P1.out _).mono ?_
  rintro e w2 ⟨rfl, hb2⟩
  have hz : w1.heap.size < w2.heap.size := by have := hb2.size; simp at this; omega
  have kb : Below w.heap.size w w2 := (hb1.alloc hb1.size _).trans (hb2.mono (hb1.alloc hb1.size _).size)
  obtain ⟨hc2, hf2⟩ := bcell hb2
  have k1 := hc2 w1.heap.size 1 (by simp)
  have k3 := hc2 w1.heap.size 3 (by simp)
  have k5 := hc2 w1.heap.size 5 (by simp)
  rw [World.cell?_alloc_at _ _ _ _ rfl] at k1 k3 k5
  clear hb1 hb2 hc2 hf2
  go_wp2_with fail
  refine (P2.out _).mono ?_
  rintro e w3 ⟨rfl, rfl⟩
  go_wp2_with fail
  refine (P3.out _).mono ?_
  rintro e w3 ⟨rfl, rfl⟩
  go_wp2_with fail
  refine (KF.out w1.heap.size w _ ⟨k1, k3, hz, kb⟩).mono ?_
  clear k1 k3 k5 kb
  rintro e w3 ⟨rfl, k1, k3, kz, kb⟩
  have KP := Lib.hid (fun x W h hx => plain_keep w1.heap.size a f x w (plS x) W rfl h hx)
  have za : a.size ≤ 140737488355328 := by omega
  have zf : f.size ≤ 140737488355328 := by omega
  rw [← hpa, ← hpx] at KA
  have zpa : (plS a).size ≤ 140737488354000 := by rw [hpa]; omega
  have zpx : (plS f).size ≤ 140737488354000 := by rw [hpx]; omega
  have hcat : ¬ 9223372036854775807 < (plS a).size + (plS f).size := by omega
  have hcat2 : (plS a).size + (plS f).size ≤ 9223372036854775807 := by omega
  have hcat3 : (plS a).size + (plS f).size ≤ maxLen := by unfold maxLen; omega
  clear hpa hpx
  go_upto_region 21 with fail
  go_cut [10] from 56 to 63 (fun c wx => c = .string D ∧ Below w.heap.size w wx)
  case first =>
    go_region_held3 (fun wx => wx.cell? ⟨w1.heap.size, 1, none⟩ = some (.string a) ∧ wx.cell? ⟨w1.heap.size, 3, none⟩ = some (.string f) ∧ w1.heap.size < wx.heap.size ∧ Below w.heap.size w wx)
      (first | exact ⟨k1, k3, kz, kb⟩ | exact ⟨k1, k3, kz, kb.drew⟩ | assumption)
      (first
      | (go_at_call 27; refine (KP.out _ _ ?_ ?_).mono ?_; (first | exact ⟨k1, k3, kz, kb⟩ | exact ⟨k1, k3, kz, kb.drew⟩ | assumption); (first | exact za | exact zf); rintro e wx ⟨rfl, k1, k3, kz, kb⟩)
      | (go_at_call 25; refine (KA.out _).mono ?_; rintro e wx ⟨rfl, rfl⟩))
    all_goals (go_wp2_with fail; go_meet; exact ⟨rfl, kb⟩)
  case rest =>
    obtain ⟨rfl, hbx⟩ := hcut
    have Hbx := Lib.hid hbx
    clear hbx k1 k3 kz kb
    go_wp2_with fail
    go_loop [9, 10] (fun pv dv => ∃ t : ByteArray, dv = .string t ∧ t.size ≤ D.size ∧ pv = .int .i64 (((N : Int) - (x1.size : Int)) + ((D.size : Int) - (t.size : Int))) ∧ trimZ t.data.toList = trimZ D.data.toList) (fun _ dv => lenS dv)
    case atStart => exact ⟨D, rfl, Nat.le_refl _, by rw [Int.sub_self, Int.add_zero], rfl⟩
    case round =>
      obtain ⟨t, rfl, ht, rfl, hl⟩ := hrel
      have Hl := Lib.hid hl; clear hl
      by_cases h0 : 0 < t.size
      · have hlb := last_byte t h0
        have hlt : t.size - 1 < t.size := by omega
        have h1 : 1 ≤ t.size := h0
        have hde : ¬ t = ByteArray.empty := by intro e; rw [e] at h0; exact absurd h0 (by decide)
        have hsn := trimZ_snoc (t.data.toList.take (t.size - 1)) (t[t.size - 1]'hlt)
        rw [← hlb] at hsn
        by_cases hc : t[t.size - 1]'hlt = 48
        · have t1 : (((t[t.size - 1]'hlt).toNat : Int) == 48) = true := by rw [t48, hc]; rfl
          have Hn : Hid (trimZ (t.extract 0 (t.size - 1)).data.toList = trimZ D.data.toList) := Lib.hid (by
            rw [take_str]; show trimZ (t.data.toList.take (t.size - 1)) = _
            rw [← Hl.out, hsn, if_pos hc])
          have Hz : Hid (((t.extract 0 (t.size - 1)).size : Int) = (t.size : Int) - 1 ∧ (t.extract 0 (t.size - 1)).size ≤ D.size ∧ (t.extract 0 (t.size - 1)).size < t.size) := Lib.hid (by
            have : (t.extract 0 (t.size - 1)).size = t.size - 1 := by simp
            omega)
          clear hlb hsn hc
          go_wp2_with fail
          go_round
          case rel => exact ⟨_, rfl, Hz.out.2.1, by rw [Hz.out.1]; go_num, Hn.out⟩
          case measure => exact Hz.out.2.2
        · have t1 : (((t[t.size - 1]'hlt).toNat : Int) == 48) = false := by rw [t48]; simp [hc]
          have Hn : Hid (trimZ D.data.toList = t.data.toList) := Lib.hid (by rw [← Hl.out, hsn, if_neg hc])
          have hte : t.data.toList ≠ [] := by rw [hlb]; simp
          obtain ⟨p1', p2'⟩ := str_full t hte
          have Hr : Hid (canonS s.data.toList = ⟨(t.data.toList ++ 101 :: Lib.itoa (((N : Int) - (x1.size : Int)) + ((D.size : Int) - (t.size : Int))) ++ nT true).toArray⟩) := Lib.hid (by
            rw [Hf.out.1, Hn.out, if_neg hte, ← Lib.size_eq])
          have hil := itoa_le (((N : Int) - (x1.size : Int)) + ((D.size : Int) - (t.size : Int))) (by omega) (by omega)
          have Hdec := Lib.hid (fun W => decimal_any (((N : Int) - (x1.size : Int)) + ((D.size : Int) - (t.size : Int))) W (by omega) (by omega))
          obtain ⟨r, hr⟩ : ∃ r : ByteArray, (⟨(Lib.itoa (((N : Int) - (x1.size : Int)) + ((D.size : Int) - (t.size : Int)))).toArray⟩ : ByteArray) = r := ⟨_, rfl⟩
          have hrl : r.data.toList = Lib.itoa (((N : Int) - (x1.size : Int)) + ((D.size : Int) - (t.size : Int))) := by rw [← hr]
          have hrs : r.size ≤ 21 := by rw [Lib.size_eq, hrl]; exact hil
          rw [← hrl] at Hr
          rw [hr] at Hdec
          clear hlb hsn hc hte hil hr hrl
          go_wp2_with fail
          refine (Hdec.out _).mono ?_
          rintro e w5 ⟨rfl, hb5⟩
          have Hb5 := Lib.hid (Hbx.out.trans (hb5.mono Hbx.out.size))
          clear hb5
          go_wp2_with fail
          go_ret2
          exact ⟨ret_str (by rw [Hr.out]; refine str_eq _ _ ?_; simp [nT]) (by rw [Hf.out.2]), Hb5.out⟩
      · have h00 : t.data.toList = [] := List.length_eq_zero_iff.1 (by rw [← Lib.size_eq]; omega)
        have Hr : Hid (canonS s.data.toList = ⟨([48] ++ nT true).toArray⟩) := Lib.hid (by
          rw [Hf.out.1, ← Hl.out, h00]; rfl)
        have hT := str_empty t _ rfl h00
        clear h00 h0
        subst hT
        go_wp2_with fail
        go_ret2
        exact ⟨ret_str (by rw [Hr.out]; refine str_eq _ _ ?_; simp [nT]) (by rw [Hf.out.2]), Hbx.out⟩

set_option maxHeartbeats 8000000 in
set_option maxRecDepth 100000 in
theorem rcanon_dec_true_false (s : ByteArray) (p : Parts) (w : World) (hs : s.size ≤ 140737488354000) (hp : ofL s.data.toList = some p) (d : Dec p) (hm : decide (p.sgn = [45]) = true) (hg : p.big = false) :
    Calls Tryz.prog 10 #[.string s] w fun e w' => e = .returned (.tuple #[.string (canonS s.data.toList), .int .i64 (okN s.data.toList)]) ∧ Below w.heap.size w w' := by
  have hpl := part_len _ _ hp
  rw [← Lib.size_eq, List.length_append] at hpl
  have hraw : partV p = rawV 10 ⟨p.whole.toArray⟩ p.dot ⟨p.frac.toArray⟩ p.exp true ⟨p.pow.toArray⟩ false := by rw [partV, d.base, hm, hg]; rfl
  have mw := run_mem 10 p.whole false d.whole
  have mf := run_mem 10 p.frac false d.frac
  have mp : ∀ c ∈ p.pow, valN c < 10 ∨ c = 95 := by
    cases hx : p.exp with
    | false => rw [(d.exp hx).2]; intro c hc; cases hc
    | true => exact run_mem 10 p.pow false (d.pow hx).1
  have hp9 : (aheadL (plainL p.pow)).length ≤ 9 := by
    cases hx : p.exp with
    | false => rw [(d.exp hx).2]; decide
    | true => exact (d.pow hx).2.2.1
  have hnum := num_small p.pow hp9
  have hpi : powI p = -(numL 0 p.pow : Int) := by
    rw [powI]
    rw [if_pos (of_decide_eq_true hm)]
  have f1 : canonS s.data.toList = ⟨(normDec (plainL p.whole ++ plainL p.frac) (plainL p.frac).length (-(numL 0 p.pow : Int)) ++ nT false).toArray⟩ ∧ okN s.data.toList = 0 := by
    rw [canonS, okN, hp]
    exact ⟨by show (⟨(canonL p).toArray⟩ : ByteArray) = _; rw [canonL, if_pos d.base, collect_plain _ mw, collect_plain _ mf, hpi, hg], rfl⟩
  rw [norm_ref] at f1
  have H := Lib.hid (of_any s w hs)
  rw [hp] at H
  have c1 := plain_le p.whole
  have c2 := plain_le p.frac
  have c3 : (aheadL (plainL p.whole ++ plainL p.frac)).length ≤ (plainL p.whole ++ plainL p.frac).length := (List.dropWhile_sublist _).length_le
  rw [List.length_append] at c3
  obtain ⟨a, ha⟩ : ∃ a : ByteArray, (⟨p.whole.toArray⟩ : ByteArray) = a := ⟨_, rfl⟩
  obtain ⟨f, hf⟩ : ∃ f : ByteArray, (⟨p.frac.toArray⟩ : ByteArray) = f := ⟨_, rfl⟩
  obtain ⟨pw, hpw⟩ : ∃ pw : ByteArray, (⟨p.pow.toArray⟩ : ByteArray) = pw := ⟨_, rfl⟩
  obtain ⟨a1, ha1⟩ : ∃ a1 : ByteArray, (⟨(plainL p.whole).toArray⟩ : ByteArray) = a1 := ⟨_, rfl⟩
  obtain ⟨x1, hx1⟩ : ∃ x1 : ByteArray, (⟨(plainL p.frac).toArray⟩ : ByteArray) = x1 := ⟨_, rfl⟩
  obtain ⟨p1, hp1⟩ : ∃ p1 : ByteArray, (⟨(plainL p.pow).toArray⟩ : ByteArray) = p1 := ⟨_, rfl⟩
  obtain ⟨p2, hp2⟩ : ∃ p2 : ByteArray, (⟨(aheadL (plainL p.pow)).toArray⟩ : ByteArray) = p2 := ⟨_, rfl⟩
  obtain ⟨D, hD⟩ : ∃ D : ByteArray, (⟨(aheadL (plainL p.whole ++ plainL p.frac)).toArray⟩ : ByteArray) = D := ⟨_, rfl⟩
  have l0 : a.data.toList = p.whole := by rw [← ha]
  have l1 : f.data.toList = p.frac := by rw [← hf]
  have l2 : pw.data.toList = p.pow := by rw [← hpw]
  have l3 : a1.data.toList = plainL p.whole := by rw [← ha1]
  have l4 : x1.data.toList = plainL p.frac := by rw [← hx1]
  have l5 : p1.data.toList = plainL p.pow := by rw [← hp1]
  have l6 : p2.data.toList = aheadL (plainL p.pow) := by rw [← hp2]
  have l7 : D.data.toList = aheadL (plainL p.whole ++ plainL p.frac) := by rw [← hD]
  have z0 : a.size ≤ s.size := by rw [Lib.size_eq, l0]; omega
  have z1 : f.size ≤ s.size := by rw [Lib.size_eq f, l1]; omega
  have z2 : pw.size ≤ s.size := by rw [Lib.size_eq pw, l2]; omega
  have z3 : a1.size ≤ s.size := by rw [Lib.size_eq a1, l3]; omega
  have z4 : x1.size ≤ s.size := by rw [Lib.size_eq x1, l4]; omega
  have z5 : p1.size ≤ s.size := by have := plain_le p.pow; rw [Lib.size_eq p1, l5]; omega
  have z6 : p2.size ≤ 9 := by rw [Lib.size_eq p2, l6]; exact hp9
  have z7 : D.size ≤ s.size := by rw [Lib.size_eq D, l7]; omega
  have lax : (a1 ++ x1).data.toList = plainL p.whole ++ plainL p.frac := by simp [l3, l4]
  have zax : (a1 ++ x1).size ≤ maxLen := by
    rw [Lib.size_eq, lax, List.length_append]; unfold maxLen; omega
  have hx1l : (plainL p.frac).length = x1.size := by rw [Lib.size_eq x1, l4]
  have hDl : (aheadL (plainL p.whole ++ plainL p.frac)).length = D.size := by rw [Lib.size_eq D, l7]
  rw [hx1l, hDl, ← l7] at f1
  have P1 := Lib.hid (fun W => plain_any pw W (by omega))
  rw [l2, hp1] at P1
  have P2 := Lib.hid (fun W => ahead_any p1 W (by unfold maxLen; omega))
  rw [l5, hp2] at P2
  have P3 := Lib.hid (fun W => number_any p2 W z6 (by rw [l6]; exact plain_dig _ mp))
  rw [l6, numL_ahead, numL_plain] at P3
  have hpa : plS a = a1 := by rw [plS, l0, ha1]
  have hpx : plS f = x1 := by rw [plS, l1, hx1]
  have KF := Lib.hid (fun B w W h => plain_keep B a f f w x1 W (by rw [l1, hx1]) h (by omega))
  have KA := Lib.hid (fun W => ahead_any (a1 ++ x1) W zax)
  rw [lax, hD] at KA
  rw [ha, hf, hpw] at hraw
  have Hraw := Lib.hid hraw
  have Hf := Lib.hid f1
  generalize p.dot = dt at *
  generalize p.exp = xx at *
  obtain ⟨N, hN⟩ : ∃ N : Nat, numL 0 p.pow = N := ⟨_, rfl⟩
  rw [hN] at P3 Hf hnum
  clear hraw f1 mw mf mp hp9 hpi hp d hm hg c1 c2 c3 hpl ha hf hpw ha1 hx1 hp1 hp2 hD l0 l1 l2 l3 l4 l5 l6 l7 lax zax hx1l hDl hN
  go_enter Tryz.func10, Tryz.ntmps10
  go_wp2_with fail
  refine H.out.mono ?_
  rintro e w1 ⟨hv, hb1⟩
  obtain rfl := (show e = .returned (.tuple #[partV p, .bool true]) from hv)
  clear hv
  rw [Hraw.out]
  unfold rawV
  go_wp2_with fail
  refine (P1.out _).mono ?_
  rintro e w2 ⟨rfl, hb2⟩
  have hz : w1.heap.size < w2.heap.size := by have := hb2.size; simp at this; omega
  have kb : Below w.heap.size w w2 := (hb1.alloc hb1.size _).trans (hb2.mono (hb1.alloc hb1.size _).size)
  obtain ⟨hc2, hf2⟩ := bcell hb2
  have k1 := hc2 w1.heap.size 1 (by simp)
  have k3 := hc2 w1.heap.size 3 (by simp)
  have k5 := hc2 w1.heap.size 5 (by simp)
  rw [World.cell?_alloc_at _ _ _ _ rfl] at k1 k3 k5
  clear hb1 hb2 hc2 hf2
  go_wp2_with fail
  refine (P2.out _).mono ?_
  rintro e w3 ⟨rfl, rfl⟩
  go_wp2_with fail
  refine (P3.out _).mono ?_
  rintro e w3 ⟨rfl, rfl⟩
  go_wp2_with fail
  refine (KF.out w1.heap.size w _ ⟨k1, k3, hz, kb⟩).mono ?_
  clear k1 k3 k5 kb
  rintro e w3 ⟨rfl, k1, k3, kz, kb⟩
  have KP := Lib.hid (fun x W h hx => plain_keep w1.heap.size a f x w (plS x) W rfl h hx)
  have za : a.size ≤ 140737488355328 := by omega
  have zf : f.size ≤ 140737488355328 := by omega
  rw [← hpa, ← hpx] at KA
  have zpa : (plS a).size ≤ 140737488354000 := by rw [hpa]; omega
  have zpx : (plS f).size ≤ 140737488354000 := by rw [hpx]; omega
  have hcat : ¬ 9223372036854775807 < (plS a).size + (plS f).size := by omega
  have hcat2 : (plS a).size + (plS f).size ≤ 9223372036854775807 := by omega
  have hcat3 : (plS a).size + (plS f).size ≤ maxLen := by unfold maxLen; omega
  clear hpa hpx
  go_upto_region 21 with fail
  go_cut [10] from 56 to 63 (fun c wx => c = .string D ∧ Below w.heap.size w wx)
  case first =>
    go_region_held3 (fun wx => wx.cell? ⟨w1.heap.size, 1, none⟩ = some (.string a) ∧ wx.cell? ⟨w1.heap.size, 3, none⟩ = some (.string f) ∧ w1.heap.size < wx.heap.size ∧ Below w.heap.size w wx)
      (first | exact ⟨k1, k3, kz, kb⟩ | exact ⟨k1, k3, kz, kb.drew⟩ | assumption)
      (first
      | (go_at_call 27; refine (KP.out _ _ ?_ ?_).mono ?_; (first | exact ⟨k1, k3, kz, kb⟩ | exact ⟨k1, k3, kz, kb.drew⟩ | assumption); (first | exact za | exact zf); rintro e wx ⟨rfl, k1, k3, kz, kb⟩)
      | (go_at_call 25; refine (KA.out _).mono ?_; rintro e wx ⟨rfl, rfl⟩))
    all_goals (go_wp2_with fail; go_meet; exact ⟨rfl, kb⟩)
  case rest =>
    obtain ⟨rfl, hbx⟩ := hcut
    have Hbx := Lib.hid hbx
    clear hbx k1 k3 kz kb
    go_wp2_with fail
    go_loop [9, 10] (fun pv dv => ∃ t : ByteArray, dv = .string t ∧ t.size ≤ D.size ∧ pv = .int .i64 ((-(N : Int) - (x1.size : Int)) + ((D.size : Int) - (t.size : Int))) ∧ trimZ t.data.toList = trimZ D.data.toList) (fun _ dv => lenS dv)
    case atStart => exact ⟨D, rfl, Nat.le_refl _, by rw [Int.sub_self, Int.add_zero], rfl⟩
    case round =>
      obtain ⟨t, rfl, ht, rfl, hl⟩ := hrel
      have Hl := Lib.hid hl; clear hl
      by_cases h0 : 0 < t.size
      · have hlb := last_byte t h0
        have hlt : t.size - 1 < t.size := by omega
        have h1 : 1 ≤ t.size := h0
        have hde : ¬ t = ByteArray.empty := by intro e; rw [e] at h0; exact absurd h0 (by decide)
        have hsn := trimZ_snoc (t.data.toList.take (t.size - 1)) (t[t.size - 1]'hlt)
        rw [← hlb] at hsn
        by_cases hc : t[t.size - 1]'hlt = 48
        · have t1 : (((t[t.size - 1]'hlt).toNat : Int) == 48) = true := by rw [t48, hc]; rfl
          have Hn : Hid (trimZ (t.extract 0 (t.size - 1)).data.toList = trimZ D.data.toList) := Lib.hid (by
            rw [take_str]; show trimZ (t.data.toList.take (t.size - 1)) = _
            rw [← Hl.out, hsn, if_pos hc])
          have Hz : Hid (((t.extract 0 (t.size - 1)).size : Int) = (t.size : Int) - 1 ∧ (t.extract 0 (t.size - 1)).size ≤ D.size ∧ (t.extract 0 (t.size - 1)).size < t.size) := Lib.hid (by
            have : (t.extract 0 (t.size - 1)).size = t.size - 1 := by simp
            omega)
          clear hlb hsn hc
          go_wp2_with fail
          go_round
          case rel => exact ⟨_, rfl, Hz.out.2.1, by rw [Hz.out.1]; go_num, Hn.out⟩
          case measure => exact Hz.out.2.2
        · have t1 : (((t[t.size - 1]'hlt).toNat : Int) == 48) = false := by rw [t48]; simp [hc]
          have Hn : Hid (trimZ D.data.toList = t.data.toList) := Lib.hid (by rw [← Hl.out, hsn, if_neg hc])
          have hte : t.data.toList ≠ [] := by rw [hlb]; simp
          obtain ⟨p1', p2'⟩ := str_full t hte
          have Hr : Hid (canonS s.data.toList = ⟨(t.data.toList ++ 101 :: Lib.itoa ((-(N : Int) - (x1.size : Int)) + ((D.size : Int) - (t.size : Int))) ++ nT false).toArray⟩) := Lib.hid (by
            rw [Hf.out.1, Hn.out, if_neg hte, ← Lib.size_eq])
          have hil := itoa_le ((-(N : Int) - (x1.size : Int)) + ((D.size : Int) - (t.size : Int))) (by omega) (by omega)
          have Hdec := Lib.hid (fun W => decimal_any ((-(N : Int) - (x1.size : Int)) + ((D.size : Int) - (t.size : Int))) W (by omega) (by omega))
          obtain ⟨r, hr⟩ : ∃ r : ByteArray, (⟨(Lib.itoa ((-(N : Int) - (x1.size : Int)) + ((D.size : Int) - (t.size : Int)))).toArray⟩ : ByteArray) = r := ⟨_, rfl⟩
          have hrl : r.data.toList = Lib.itoa ((-(N : Int) - (x1.size : Int)) + ((D.size : Int) - (t.size : Int))) := by rw [← hr]
          have hrs : r.size ≤ 21 := by rw [Lib.size_eq, hrl]; exact hil
          rw [← hrl] at Hr
          rw [hr] at Hdec
          clear hlb hsn hc hte hil hr hrl
          go_wp2_with fail
          refine (Hdec.out _).mono ?_
          rintro e w5 ⟨rfl, hb5⟩
          have Hb5 := Lib.hid (Hbx.out.trans (hb5.mono Hbx.out.size))
          clear hb5
          go_wp2_with fail
          go_ret2
          exact ⟨ret_str (by rw [Hr.out]; refine str_eq _ _ ?_; simp [nT]) (by rw [Hf.out.2]), Hb5.out⟩
      · have h00 : t.data.toList = [] := List.length_eq_zero_iff.1 (by rw [← Lib.size_eq]; omega)
        have Hr : Hid (canonS s.data.toList = ⟨([48] ++ nT false).toArray⟩) := Lib.hid (by
          rw [Hf.out.1, ← Hl.out, h00]; rfl)
        have hT := str_empty t _ rfl h00
        clear h00 h0
        subst hT
        go_wp2_with fail
        go_ret2
        exact ⟨ret_str (by rw [Hr.out]; refine str_eq _ _ ?_; simp [nT]) (by rw [Hf.out.2]), Hbx.out⟩

set_option maxHeartbeats 8000000 in
set_option maxRecDepth 100000 in
theorem rcanon_dec_true_true (s : ByteArray) (p : Parts) (w : World) (hs : s.size ≤ 140737488354000) (hp : ofL s.data.toList = some p) (d : Dec p) (hm : decide (p.sgn = [45]) = true) (hg : p.big = true) :
    Calls Tryz.prog 10 #[.string s] w fun e w' => e = .returned (.tuple #[.string (canonS s.data.toList), .int .i64 (okN s.data.toList)]) ∧ Below w.heap.size w w' := by
  have hpl := part_len _ _ hp
  rw [← Lib.size_eq, List.length_append] at hpl
  have hraw : partV p = rawV 10 ⟨p.whole.toArray⟩ p.dot ⟨p.frac.toArray⟩ p.exp true ⟨p.pow.toArray⟩ true := by rw [partV, d.base, hm, hg]; rfl
  have mw := run_mem 10 p.whole false d.whole
  have mf := run_mem 10 p.frac false d.frac
  have mp : ∀ c ∈ p.pow, valN c < 10 ∨ c = 95 := by
    cases hx : p.exp with
    | false => rw [(d.exp hx).2]; intro c hc; cases hc
    | true => exact run_mem 10 p.pow false (d.pow hx).1
  have hp9 : (aheadL (plainL p.pow)).length ≤ 9 := by
    cases hx : p.exp with
    | false => rw [(d.exp hx).2]; decide
    | true => exact (d.pow hx).2.2.1
  have hnum := num_small p.pow hp9
  have hpi : powI p = -(numL 0 p.pow : Int) := by
    rw [powI]
    rw [if_pos (of_decide_eq_true hm)]
  have f1 : canonS s.data.toList = ⟨(normDec (plainL p.whole ++ plainL p.frac) (plainL p.frac).length (-(numL 0 p.pow : Int)) ++ nT true).toArray⟩ ∧ okN s.data.toList = 0 := by
    rw [canonS, okN, hp]
    exact ⟨by show (⟨(canonL p).toArray⟩ : ByteArray) = _; rw [canonL, if_pos d.base, collect_plain _ mw, collect_plain _ mf, hpi, hg], rfl⟩
  rw [norm_ref] at f1
  have H := Lib.hid (of_any s w hs)
  rw [hp] at H
  have c1 := plain_le p.whole
  have c2 := plain_le p.frac
  have c3 : (aheadL (plainL p.whole ++ plainL p.frac)).length ≤ (plainL p.whole ++ plainL p.frac).length := (List.dropWhile_sublist _).length_le
  rw [List.length_append] at c3
  obtain ⟨a, ha⟩ : ∃ a : ByteArray, (⟨p.whole.toArray⟩ : ByteArray) = a := ⟨_, rfl⟩
  obtain ⟨f, hf⟩ : ∃ f : ByteArray, (⟨p.frac.toArray⟩ : ByteArray) = f := ⟨_, rfl⟩
  obtain ⟨pw, hpw⟩ : ∃ pw : ByteArray, (⟨p.pow.toArray⟩ : ByteArray) = pw := ⟨_, rfl⟩
  obtain ⟨a1, ha1⟩ : ∃ a1 : ByteArray, (⟨(plainL p.whole).toArray⟩ : ByteArray) = a1 := ⟨_, rfl⟩
  obtain ⟨x1, hx1⟩ : ∃ x1 : ByteArray, (⟨(plainL p.frac).toArray⟩ : ByteArray) = x1 := ⟨_, rfl⟩
  obtain ⟨p1, hp1⟩ : ∃ p1 : ByteArray, (⟨(plainL p.pow).toArray⟩ : ByteArray) = p1 := ⟨_, rfl⟩
  obtain ⟨p2, hp2⟩ : ∃ p2 : ByteArray, (⟨(aheadL (plainL p.pow)).toArray⟩ : ByteArray) = p2 := ⟨_, rfl⟩
  obtain ⟨D, hD⟩ : ∃ D : ByteArray, (⟨(aheadL (plainL p.whole ++ plainL p.frac)).toArray⟩ : ByteArray) = D := ⟨_, rfl⟩
  have l0 : a.data.toList = p.whole := by rw [← ha]
  have l1 : f.data.toList = p.frac := by rw [← hf]
  have l2 : pw.data.toList = p.pow := by rw [← hpw]
  have l3 : a1.data.toList = plainL p.whole := by rw [← ha1]
  have l4 : x1.data.toList = plainL p.frac := by rw [← hx1]
  have l5 : p1.data.toList = plainL p.pow := by rw [← hp1]
  have l6 : p2.data.toList = aheadL (plainL p.pow) := by rw [← hp2]
  have l7 : D.data.toList = aheadL (plainL p.whole ++ plainL p.frac) := by rw [← hD]
  have z0 : a.size ≤ s.size := by rw [Lib.size_eq, l0]; omega
  have z1 : f.size ≤ s.size := by rw [Lib.size_eq f, l1]; omega
  have z2 : pw.size ≤ s.size := by rw [Lib.size_eq pw, l2]; omega
  have z3 : a1.size ≤ s.size := by rw [Lib.size_eq a1, l3]; omega
  have z4 : x1.size ≤ s.size := by rw [Lib.size_eq x1, l4]; omega
  have z5 : p1.size ≤ s.size := by have := plain_le p.pow; rw [Lib.size_eq p1, l5]; omega
  have z6 : p2.size ≤ 9 := by rw [Lib.size_eq p2, l6]; exact hp9
  have z7 : D.size ≤ s.size := by rw [Lib.size_eq D, l7]; omega
  have lax : (a1 ++ x1).data.toList = plainL p.whole ++ plainL p.frac := by simp [l3, l4]
  have zax : (a1 ++ x1).size ≤ maxLen := by
    rw [Lib.size_eq, lax, List.length_append]; unfold maxLen; omega
  have hx1l : (plainL p.frac).length = x1.size := by rw [Lib.size_eq x1, l4]
  have hDl : (aheadL (plainL p.whole ++ plainL p.frac)).length = D.size := by rw [Lib.size_eq D, l7]
  rw [hx1l, hDl, ← l7] at f1
  have P1 := Lib.hid (fun W => plain_any pw W (by omega))
  rw [l2, hp1] at P1
  have P2 := Lib.hid (fun W => ahead_any p1 W (by unfold maxLen; omega))
  rw [l5, hp2] at P2
  have P3 := Lib.hid (fun W => number_any p2 W z6 (by rw [l6]; exact plain_dig _ mp))
  rw [l6, numL_ahead, numL_plain] at P3
  have hpa : plS a = a1 := by rw [plS, l0, ha1]
  have hpx : plS f = x1 := by rw [plS, l1, hx1]
  have KF := Lib.hid (fun B w W h => plain_keep B a f f w x1 W (by rw [l1, hx1]) h (by omega))
  have KA := Lib.hid (fun W => ahead_any (a1 ++ x1) W zax)
  rw [lax, hD] at KA
  rw [ha, hf, hpw] at hraw
  have Hraw := Lib.hid hraw
  have Hf := Lib.hid f1
  generalize p.dot = dt at *
  generalize p.exp = xx at *
  obtain ⟨N, hN⟩ : ∃ N : Nat, numL 0 p.pow = N := ⟨_, rfl⟩
  rw [hN] at P3 Hf hnum
  clear hraw f1 mw mf mp hp9 hpi hp d hm hg c1 c2 c3 hpl ha hf hpw ha1 hx1 hp1 hp2 hD l0 l1 l2 l3 l4 l5 l6 l7 lax zax hx1l hDl hN
  go_enter Tryz.func10, Tryz.ntmps10
  go_wp2_with fail
  refine H.out.mono ?_
  rintro e w1 ⟨hv, hb1⟩
  obtain rfl := (show e = .returned (.tuple #[partV p, .bool true]) from hv)
  clear hv
  rw [Hraw.out]
  unfold rawV
  go_wp2_with fail
  refine (P1.out _).mono ?_
  rintro e w2 ⟨rfl, hb2⟩
  have hz : w1.heap.size < w2.heap.size := by have := hb2.size; simp at this; omega
  have kb : Below w.heap.size w w2 := (hb1.alloc hb1.size _).trans (hb2.mono (hb1.alloc hb1.size _).size)
  obtain ⟨hc2, hf2⟩ := bcell hb2
  have k1 := hc2 w1.heap.size 1 (by simp)
  have k3 := hc2 w1.heap.size 3 (by simp)
  have k5 := hc2 w1.heap.size 5 (by simp)
  rw [World.cell?_alloc_at _ _ _ _ rfl] at k1 k3 k5
  clear hb1 hb2 hc2 hf2
  go_wp2_with fail
  refine (P2.out _).mono ?_
  rintro e w3 ⟨rfl, rfl⟩
  go_wp2_with fail
  refine (P3.out _).mono ?_
  rintro e w3 ⟨rfl, rfl⟩
  go_wp2_with fail
  refine (KF.out w1.heap.size w _ ⟨k1, k3, hz, kb⟩).mono ?_
  clear k1 k3 k5 kb
  rintro e w3 ⟨rfl, k1, k3, kz, kb⟩
  have KP := Lib.hid (fun x W h hx => plain_keep w1.heap.size a f x w (plS x) W rfl h hx)
  have za : a.size ≤ 140737488355328 := by omega
  have zf : f.size ≤ 140737488355328 := by omega
  rw [← hpa, ← hpx] at KA
  have zpa : (plS a).size ≤ 140737488354000 := by rw [hpa]; omega
  have zpx : (plS f).size ≤ 140737488354000 := by rw [hpx]; omega
  have hcat : ¬ 9223372036854775807 < (plS a).size + (plS f).size := by omega
  have hcat2 : (plS a).size + (plS f).size ≤ 9223372036854775807 := by omega
  have hcat3 : (plS a).size + (plS f).size ≤ maxLen := by unfold maxLen; omega
  clear hpa hpx
  go_upto_region 21 with fail
  go_cut [10] from 56 to 63 (fun c wx => c = .string D ∧ Below w.heap.size w wx)
  case first =>
    go_region_held3 (fun wx => wx.cell? ⟨w1.heap.size, 1, none⟩ = some (.string a) ∧ wx.cell? ⟨w1.heap.size, 3, none⟩ = some (.string f) ∧ w1.heap.size < wx.heap.size ∧ Below w.heap.size w wx)
      (first | exact ⟨k1, k3, kz, kb⟩ | exact ⟨k1, k3, kz, kb.drew⟩ | assumption)
      (first
      | (go_at_call 27; refine (KP.out _ _ ?_ ?_).mono ?_; (first | exact ⟨k1, k3, kz, kb⟩ | exact ⟨k1, k3, kz, kb.drew⟩ | assumption); (first | exact za | exact zf); rintro e wx ⟨rfl, k1, k3, kz, kb⟩)
      | (go_at_call 25; refine (KA.out _).mono ?_; rintro e wx ⟨rfl, rfl⟩))
    all_goals (go_wp2_with fail; go_meet; exact ⟨rfl, kb⟩)
  case rest =>
    obtain ⟨rfl, hbx⟩ := hcut
    have Hbx := Lib.hid hbx
    clear hbx k1 k3 kz kb
    go_wp2_with fail
    go_loop [9, 10] (fun pv dv => ∃ t : ByteArray, dv = .string t ∧ t.size ≤ D.size ∧ pv = .int .i64 ((-(N : Int) - (x1.size : Int)) + ((D.size : Int) - (t.size : Int))) ∧ trimZ t.data.toList = trimZ D.data.toList) (fun _ dv => lenS dv)
    case atStart => exact ⟨D, rfl, Nat.le_refl _, by rw [Int.sub_self, Int.add_zero], rfl⟩
    case round =>
      obtain ⟨t, rfl, ht, rfl, hl⟩ := hrel
      have Hl := Lib.hid hl; clear hl
      by_cases h0 : 0 < t.size
      · have hlb := last_byte t h0
        have hlt : t.size - 1 < t.size := by omega
        have h1 : 1 ≤ t.size := h0
        have hde : ¬ t = ByteArray.empty := by intro e; rw [e] at h0; exact absurd h0 (by decide)
        have hsn := trimZ_snoc (t.data.toList.take (t.size - 1)) (t[t.size - 1]'hlt)
        rw [← hlb] at hsn
        by_cases hc : t[t.size - 1]'hlt = 48
        · have t1 : (((t[t.size - 1]'hlt).toNat : Int) == 48) = true := by rw [t48, hc]; rfl
          have Hn : Hid (trimZ (t.extract 0 (t.size - 1)).data.toList = trimZ D.data.toList) := Lib.hid (by
            rw [take_str]; show trimZ (t.data.toList.take (t.size - 1)) = _
            rw [← Hl.out, hsn, if_pos hc])
          have Hz : Hid (((t.extract 0 (t.size - 1)).size : Int) = (t.size : Int) - 1 ∧ (t.extract 0 (t.size - 1)).size ≤ D.size ∧ (t.extract 0 (t.size - 1)).size < t.size) := Lib.hid (by
            have : (t.extract 0 (t.size - 1)).size = t.size - 1 := by simp
            omega)
          clear hlb hsn hc
          go_wp2_with fail
          go_round
          case rel => exact ⟨_, rfl, Hz.out.2.1, by rw [Hz.out.1]; go_num, Hn.out⟩
          case measure => exact Hz.out.2.2
        · have t1 : (((t[t.size - 1]'hlt).toNat : Int) == 48) = false := by rw [t48]; simp [hc]
          have Hn : Hid (trimZ D.data.toList = t.data.toList) := Lib.hid (by rw [← Hl.out, hsn, if_neg hc])
          have hte : t.data.toList ≠ [] := by rw [hlb]; simp
          obtain ⟨p1', p2'⟩ := str_full t hte
          have Hr : Hid (canonS s.data.toList = ⟨(t.data.toList ++ 101 :: Lib.itoa ((-(N : Int) - (x1.size : Int)) + ((D.size : Int) - (t.size : Int))) ++ nT true).toArray⟩) := Lib.hid (by
            rw [Hf.out.1, Hn.out, if_neg hte, ← Lib.size_eq])
          have hil := itoa_le ((-(N : Int) - (x1.size : Int)) + ((D.size : Int) - (t.size : Int))) (by omega) (by omega)
          have Hdec := Lib.hid (fun W => decimal_any ((-(N : Int) - (x1.size : Int)) + ((D.size : Int) - (t.size : Int))) W (by omega) (by omega))
          obtain ⟨r, hr⟩ : ∃ r : ByteArray, (⟨(Lib.itoa ((-(N : Int) - (x1.size : Int)) + ((D.size : Int) - (t.size : Int)))).toArray⟩ : ByteArray) = r := ⟨_, rfl⟩
          have hrl : r.data.toList = Lib.itoa ((-(N : Int) - (x1.size : Int)) + ((D.size : Int) - (t.size : Int))) := by rw [← hr]
          have hrs : r.size ≤ 21 := by rw [Lib.size_eq, hrl]; exact hil
          rw [← hrl] at Hr
          rw [hr] at Hdec
          clear hlb hsn hc hte hil hr hrl
          go_wp2_with fail
          refine (Hdec.out _).mono ?_
          rintro e w5 ⟨rfl, hb5⟩
          have Hb5 := Lib.hid (Hbx.out.trans (hb5.mono Hbx.out.size))
          clear hb5
          go_wp2_with fail
          go_ret2
          exact ⟨ret_str (by rw [Hr.out]; refine str_eq _ _ ?_; simp [nT]) (by rw [Hf.out.2]), Hb5.out⟩
      · have h00 : t.data.toList = [] := List.length_eq_zero_iff.1 (by rw [← Lib.size_eq]; omega)
        have Hr : Hid (canonS s.data.toList = ⟨([48] ++ nT true).toArray⟩) := Lib.hid (by
          rw [Hf.out.1, ← Hl.out, h00]; rfl)
        have hT := str_empty t _ rfl h00
        clear h00 h0
        subst hT
        go_wp2_with fail
        go_ret2
        exact ⟨ret_str (by rw [Hr.out]; refine str_eq _ _ ?_; simp [nT]) (by rw [Hf.out.2]), Hbx.out⟩

end Num
end Go.Proofs.YtinjaopgnlpncaaGreatDoor
