/-
  The document's own Quote, double quotes asked.
-/
import Derived.Test.YtddldddehgnobaaDoorStrRefQut
namespace Go.Proofs.YtddldddehgnobaaDoor
namespace Str
open Go.RowKit

set_option maxHeartbeats 8000000 in
set_option maxRecDepth 20000 in
theorem rquote_34 (s : ByteArray) (w : World) (hz : s.size ≤ 16777216) : Calls Tryd.prog 19 #[.string s, .bool false] w (QuoteR s false w) := by
  have hC := parts_any s w hz
  have HC := Lib.hid hC
  clear hC
  go_enter Tryd.func19, Tryd.ntmps19
  go_wp2_with fail
  refine HC.out.mono ?_
  rintro e w1 ⟨h, hb⟩
  have HB := Lib.hid hb
  clear hb
  rcases h with ⟨h1, rfl⟩ | ⟨ps, v, xs, h1, rfl, h3, h4⟩
  · have H1 := Lib.hid h1
    have hge : (0 : Int) ≤ ((litL s.data.toList).1 : Int) := Int.natCast_nonneg _
    clear h1
    go_wp2_with fail
    go_ret2
    refine ⟨?_, HB.out⟩
    have e1 : quoteL false s.data.toList = [] := by unfold quoteL; rw [H1.out]
    rw [e1, (lit_code _).1 H1.out]
    rfl
  · have H1 := Lib.hid h1
    have HO := Lib.hid h3
    have HP := Lib.hid h4
    have hne : ps.length ≤ 16777216 := by
      obtain ⟨_, q, _, hs, hr, _⟩ := lit_inv _ _ h1
      have h1 := parts_len ps (row_ne _ _ hr)
      have h2 : s.size = (bytesP ps).length + 2 := by rw [Lib.size_eq, hs]; simp
      omega
    have HRow : Hid (∀ p ∈ ps, partL p.1 = (p.1.length, some p.2)) := Lib.hid (by
      obtain ⟨_, q, _, hs, hr, _⟩ := lit_inv _ _ h1
      exact row_each ps _ hr)
    have HCnt : Hid (cnt 39 (bytesP ps) = sumIf 39 ps ∧ cnt 34 (bytesP ps) = sumIf 34 ps) := Lib.hid (by
      obtain ⟨_, q, _, hs, hr, _⟩ := lit_inv _ _ h1
      have hsh := row_shape _ _ hr
      exact ⟨cnt_row (q := 39) (o := 34) (by simp [IsQ]) _ hsh, cnt_row (q := 34) (o := 39) (by simp [IsQ]) _ hsh⟩)
    have HShape : Hid (∀ p ∈ ps, Shape p.1 p.2) := Lib.hid (by
      obtain ⟨_, q, _, hs, hr, _⟩ := lit_inv _ _ h1
      exact row_shape _ _ hr)
    have HS : Hid (∃ q0, s.data.toList = q0 :: (bytesP ps ++ [q0])) := Lib.hid (by
      obtain ⟨_, q, _, hs, hr, _⟩ := lit_inv _ _ h1
      exact ⟨q, hs⟩)
    have hbz : (bytesP ps).length ≤ 16777216 := by
      obtain ⟨_, q, _, hs, hr, _⟩ := lit_inv _ _ h1
      have h2 : s.size = (bytesP ps).length + 2 := by rw [Lib.size_eq, hs]; simp
      omega
    have HBZ := Lib.hid hbz
    clear h1 h3 h4 hbz
    have hv : ∃ ao cv, v = .slice ao ps.length cv := by
      rcases HO.out.2 with ⟨h1, h2⟩ | ⟨g, cap, _, h1, _⟩
      · exact ⟨none, 0, by rw [h1, h2]⟩
      · exact ⟨_, _, h1⟩
    obtain ⟨ao, cv, rfl⟩ := hv
    go_wp2_with fail
    go_loopw [10, 11, 12, 13] (fun a b iv _ wr => ∃ qs rs : List Piece, ps = qs ++ rs ∧ iv = .int .i64 qs.length ∧ a = .int .i64 (sumIf 34 qs) ∧ b = .int .i64 (sumIf 39 qs) ∧ Below w1.heap.size w1 wr) (fun _ _ iv _ _ => ps.length - (intOf iv).toNat)
    case atStart => exact ⟨[], ps, rfl, rfl, rfl, rfl, Below.refl _ _⟩
    case round =>
      obtain ⟨qs, rs, hps, rfl, rfl, rfl, hbel⟩ := hrel
      have HPS := Lib.hid hps
      have HBE := Lib.hid hbel
      have hlen : qs.length + rs.length = ps.length := by rw [hps]; simp
      have hs1 : sumIf 34 qs ≤ qs.length := sumIf_le _ _
      have hs2 : sumIf 39 qs ≤ qs.length := sumIf_le _ _
      clear hps hbel
      cases rs with
      | nil =>
        have hge : ps.length ≤ qs.length := by simp at hlen; omega
        have HE : Hid (ps = qs) := Lib.hid (by have := HPS.out; rwa [List.append_nil] at this)
        clear hlen
        by_cases hsw : (sumIf 39 qs : Int) < (sumIf 34 qs : Int)
        · have HPick : Hid (pick false (bytesP ps) = (39, 34)) := Lib.hid (by
            unfold pick
            rw [HCnt.out.1, HCnt.out.2, HE.out]
            rw [if_neg (by decide)]; exact if_pos (by omega))
          clear HPS HE
          obtain ⟨i0, hi, hz0, hz1, hz2⟩ := info_parts byte_info
          go_wp2_with fail
          try rw [show decide (qs.length < ps.length) = false from decide_eq_false (by omega)]
          clear hsw hge hs1 hs2
          go_loopw [14, 15, 16] (fun out iv _ wr2 => ∃ qs rs : List Piece, ps = qs ++ rs ∧ iv = .int .i64 qs.length ∧ OV w1.heap.size wr2 out (byteC (39 :: bytesP (rePs 39 34 qs))) 40000000 ∧ Below w1.heap.size w1 wr2) (fun _ iv _ _ => ps.length - (intOf iv).toNat)
          case atStart => exact ⟨[], ps, rfl, rfl, ⟨World.ownsRow_lit wr _ 1 HBE.out.size (by decide) rfl, by decide, by have := HBE.out.size; simp; omega⟩, HBE.out.alloc HBE.out.size _⟩
          case round =>
            obtain ⟨qs, rs, hps, rfl, hov, hbel⟩ := hrel
            have HPS := Lib.hid hps
            have HBE := Lib.hid hbel
            have HOV := Lib.hid hov
            have hlen : qs.length + rs.length = ps.length := by rw [hps]; simp
            clear hps hbel hov
            cases rs with
            | nil =>
              have hge : ps.length ≤ qs.length := by simp at hlen; omega
              have HE : Hid (ps = qs) := Lib.hid (by have := HPS.out; rwa [List.append_nil] at this)
              clear hlen
              go_wp2_with (first
                | (at_builtin; refine wpList_append_own _ rfl _ _ 59 rfl w1.heap.size 5 i0 (.int .u8 0) 1 1 Tryd.underlying59 hi hz0 hz1 hz2 rfl (by decide) _ _ _ rfl (HOV.out.1.alloc _) ⟨_, 0, none⟩ 1 1 [.int .u8 _] rfl rfl (cell_one_new _ _ _) (fun x hx => by simp at hx; subst hx; rfl) (by have := HOV.out.2.1; unfold maxLen; omega) (by have := HOV.out.2.1; omega) (by have := HOV.out.2.2; simp; omega) ?_; intro v' w' hown' hgrow' hnil'; have HBF := Lib.hid ((HBE.out.alloc HBE.out.size _).grown hgrow' (by have := HBE.out.size; simp; omega) (fun g hg => (HOV.out.1.lt g hg).1)); have HO2 := Lib.hid (ov_snoc hown' HOV.out.2.1 HBF.out.size); have hcv := ov_conv HO2.out (39 :: bytesP (rePs 39 34 qs) ++ [39]) (by simp [byteC]) (by simp); clear hown' hgrow' hnil'))
              go_ret2
              refine ⟨?_, HB.out.trans (HBF.out.mono HB.out.size)⟩
              rw [quoteL_of _ _ _ H1.out, (lit_code _).2 ps H1.out, HPick.out, HE.out]
              rfl
            | cons p rs =>
              have hlt : qs.length < ps.length := by simp at hlen; omega
              obtain ⟨b, n, c, ch, hx1, hx2, hx3, hx4, hx5, hx6, hx7⟩ := HP.out.at qs p rs HPS.out
              have hag : ∃ g, ao = some ⟨g, 0, none⟩ := by
                rcases HO.out.2 with ⟨h1, h2⟩ | ⟨g, cap, _, h1, _⟩
                · rw [h2] at hlt; omega
                · injection h1 with h1 _ _; exact ⟨g, h1⟩
              obtain ⟨g, rfl⟩ := hag
              have hO2 := own_below HO.out HBE.out
              have hc0 : wr.cell? ⟨g, qs.length * 4, none⟩ = some (.int .i64 ((1 + (bytesP qs).length : Nat) : Int)) := own_cell hO2 _ _ (by rw [Nat.mul_comm]; exact hx1)
              have hc1 : wr.cell? ⟨g, qs.length * 4 + 1, none⟩ = some (.int .i64 ((1 + (bytesP qs).length + p.1.length : Nat) : Int)) := own_cell hO2 _ _ (by rw [Nat.mul_comm]; exact hx2)
              have hc2 : wr.cell? ⟨g, qs.length * 4 + 2, none⟩ = some (.slice b n c) := own_cell hO2 _ _ (by rw [Nat.mul_comm]; exact hx3)
              have hc3 : wr.cell? ⟨g, qs.length * 4 + 3, none⟩ = some (.int .i64 ch) := own_cell hO2 _ _ (by rw [Nat.mul_comm]; exact hx4)
              have hX : (bytesP qs).length + p.1.length ≤ 16777216 := by
                have := HBZ.out
                rw [HPS.out, bytesP_app, bytesP_cons, List.length_append, List.length_append] at this
                omega
              have hge4 : qs.length * 4 + 4 ≤ 67108868 := by omega
              obtain ⟨X, hXX⟩ : ∃ X : Nat, 1 + (bytesP qs).length = X := ⟨_, rfl⟩
              obtain ⟨T, hT⟩ : ∃ T : Nat, X + p.1.length = T := ⟨_, rfl⟩
              rw [hXX] at hc0 hc1
              rw [hT] at hc1
              have HStep : Hid (ps = (qs ++ [p]) ++ rs) := Lib.hid (by rw [HPS.out]; simp)
              have HRe : Hid (bytesP (rePs 39 34 (qs ++ [p])) = bytesP (rePs 39 34 qs) ++ quoteP 39 34 p.1) := Lib.hid (by simp [rePs, bytesP])
              have HLen : Hid ((bytesP (rePs 39 34 (qs ++ [p]))).length ≤ 33554432) := Lib.hid (by
                have h1 := bytesRe_le 39 34 (qs ++ [p]) (fun p' hp' => shape_ne _ _ (HShape.out p' (by rw [HStep.out]; exact List.mem_append_left _ hp')))
                rw [bytesP_app, List.length_append, show bytesP [p] = p.1 by simp [bytesP]] at h1
                omega)
              have HSx : Hid (∃ q0, s.data.toList = q0 :: (bytesP (qs ++ p :: rs) ++ [q0])) := Lib.hid (by have := HS.out; rw [HPS.out] at this; exact this)
              obtain ⟨x, l, hxl⟩ := shape_head _ _ (HShape.out p (by rw [HPS.out]; simp))
              have hsz : X + p.1.length + (bytesP rs).length + 1 = s.size := by
                obtain ⟨q0, h⟩ := HSx.out
                rw [Lib.size_eq, h, ← hXX]
                simp only [List.length_cons, List.length_append, List.length_nil, bytesP_app, bytesP_cons]
                omega
              have hlp : 1 ≤ p.1.length := by rw [hxl]; simp
              have hXs : X < s.size := by omega
              have hXT : X ≤ T := by omega
              have hTs : T ≤ s.size := by omega
              have HXv : Hid (s[X]'hXs = x) := Lib.hid (by
                obtain ⟨q0, h⟩ := HSx.out
                exact ba_at s X x hXs (by rw [← hXX]; exact at_head s q0 qs p rs x l h hxl))
              have HEx : Hid ((s.extract X T).data.toList = p.1) := Lib.hid (by
                obtain ⟨q0, h⟩ := HSx.out
                rw [← hT, ← hXX]; exact ext_list s q0 qs p rs h)
              have hx256 : (x.toNat : Int) < 256 := by have := x.toNat_lt; omega
              by_cases e1 : p.1 = [92, 34]
              · obtain rfl : ch = 34 := hx7.2 e1
                have HQP : Hid (quoteP 39 34 p.1 = [34]) := Lib.hid (by rw [e1]; rfl)
                clear hx1 hx2 hx3 hx4 hx5 hx6 hx7 hlen hO2 hX e1 hxl hsz hlp hXX hT hx256
                go_wp2_with (first
                  | (at_builtin; refine wpList_append_own _ rfl _ _ 59 rfl w1.heap.size 5 i0 (.int .u8 0) 1 1 Tryd.underlying59 hi hz0 hz1 hz2 rfl (by decide) _ _ _ rfl ((HOV.out.1.alloc _).alloc _) ⟨wr.heap.size + 1, 0, none⟩ 1 1 [.int .u8 _] rfl rfl (cell_one_at _ _ _ _) (fun x hx => by simp at hx; subst hx; rfl) (by have := HOV.out.2.1; unfold maxLen; omega) (by have := HOV.out.2.1; omega) (by have := HOV.out.2.2; simp; omega) ?_; intro v' w' hown' hgrow' hnil'; have HBF := Lib.hid (((HBE.out.alloc HBE.out.size _).alloc (by have := HBE.out.size; simp; omega) _).grown hgrow' (by have := HBE.out.size; simp; omega) (fun g hg => (HOV.out.1.lt g hg).1)); have HO2 := Lib.hid hown'; clear hown' hgrow' hnil'))
                go_roundw
                case rel =>
                  exact ⟨qs ++ [p], rs, HStep.out, by rw [List.length_append]; simp, ov_of HO2.out rfl (by rw [HRe.out, HQP.out]; simp [byteC]) (by rw [byteC_len]; have := HLen.out; simp only [List.length_cons]; omega) HBF.out.size, HBF.out⟩
                case measure => simp [intOf]; omega
              have HNE := Lib.hid e1
              have d0 : (ch == 34) = false := beq_eq_false_iff_ne.2 (fun e => e1 (hx7.1 e))
              by_cases e2 : p.1 = [39]
              · have HQP : Hid (quoteP 39 34 p.1 = [92, 39]) := Lib.hid (by rw [e2]; rfl)
                have hx0 : x = 39 := by rw [e2] at hxl; injection hxl with h _; exact h.symm
                have t1 : (((s[X]'hXs).toNat : Int) == 39) = true := by rw [HXv.out, hx0]; rfl
                clear hx1 hx2 hx3 hx4 hx5 hx6 hx7 hlen hO2 hX e1 e2 hxl hsz hlp hXX hT hx256 hx0
                go_wp2_with (first
                  | (at_builtin; refine wpList_append_own _ rfl _ _ 59 rfl w1.heap.size 5 i0 (.int .u8 0) 1 1 Tryd.underlying59 hi hz0 hz1 hz2 rfl (by decide) _ _ _ rfl ((HOV.out.1.alloc _).alloc _) ⟨wr.heap.size + 1, 0, none⟩ 2 2 [.int .u8 _, .int .u8 _] rfl rfl (cell_two_at _ _ _ _ _) (fun x hx => by simp at hx; rcases hx with rfl | rfl <;> rfl) (by have := HOV.out.2.1; unfold maxLen; omega) (by have := HOV.out.2.1; omega) (by have := HOV.out.2.2; simp; omega) ?_; intro v' w' hown' hgrow' hnil'; have HBF := Lib.hid (((HBE.out.alloc HBE.out.size _).alloc (by have := HBE.out.size; simp; omega) _).grown hgrow' (by have := HBE.out.size; simp; omega) (fun g hg => (HOV.out.1.lt g hg).1)); have HO2 := Lib.hid hown'; clear hown' hgrow' hnil'))
                go_roundw
                case rel =>
                  exact ⟨qs ++ [p], rs, HStep.out, by rw [List.length_append]; simp, ov_of HO2.out rfl (by rw [HRe.out, HQP.out]; simp [byteC]) (by rw [byteC_len]; have := HLen.out; simp only [List.length_cons]; omega) HBF.out.size, HBF.out⟩
                case measure => simp [intOf]; omega
              · have HQP : Hid (quoteP 39 34 p.1 = p.1) := Lib.hid (by unfold quoteP; rw [if_neg e1, if_neg e2])
                have hx0 : x ≠ 39 := head_ne _ _ (HShape.out p (by rw [HPS.out]; simp)) 39 (by decide) e2 x l hxl
                have t1 : (((s[X]'hXs).toNat : Int) == 39) = false := by rw [HXv.out]; exact beq_eq_false_iff_ne.2 (fun e => hx0 (UInt8.toNat_inj.1 (Int.ofNat.inj e)))
                have hi1 : (X : Int) ≤ (T : Int) := by omega
                have hi2 : (T : Int) ≤ (s.size : Int) := by omega
                have HExs : Hid ((s.extract X T).size ≤ 16777216) := Lib.hid (by rw [Lib.size_eq, HEx.out]; omega)
                clear hx1 hx2 hx3 hx4 hx5 hx6 hx7 hlen hO2 hX e1 e2 hxl hsz hlp hXX hT hx256 hx0
                go_wp2_with (first
                  | (at_builtin; refine Lib.wpList_append_own_string _ rfl _ _ 59 9 rfl w1.heap.size 5 i0 Tryd.underlying59 Tryd.underlying9 hi hz0 hz1 hz2 _ _ _ rfl (HOV.out.1.alloc _) (s.extract X T) rfl (by have := HOV.out.2.1; have := HExs.out; unfold maxLen; omega) (by have := HOV.out.2.1; have := HExs.out; omega) (by have := HOV.out.2.2; simp; omega) ?_; intro v' w' hown' hgrow' hnil'; have HBF := Lib.hid ((HBE.out.alloc HBE.out.size _).grown hgrow' (by have := HBE.out.size; simp; omega) (fun g hg => (HOV.out.1.lt g hg).1)); have HO2 := Lib.hid hown'; clear hown' hgrow' hnil'))
                go_roundw
                case rel =>
                  exact ⟨qs ++ [p], rs, HStep.out, by rw [List.length_append]; simp, ov_of HO2.out (by rw [strCells_is, HEx.out, byteC_len, Lib.size_eq, HEx.out]) (by rw [HRe.out, HQP.out, strCells_is, HEx.out]; simp [byteC]) (by rw [byteC_len]; have := HLen.out; simp only [List.length_cons]; omega) HBF.out.size, HBF.out⟩
                case measure => simp [intOf]; omega
        · have HPick : Hid (pick false (bytesP ps) = (34, 39)) := Lib.hid (by
            unfold pick
            rw [HCnt.out.1, HCnt.out.2, HE.out]
            rw [if_neg (by decide)]; exact if_neg (by omega))
          clear HPS HE
          obtain ⟨i0, hi, hz0, hz1, hz2⟩ := info_parts byte_info
          go_wp2_with fail
          try rw [show decide (qs.length < ps.length) = false from decide_eq_false (by omega)]
          clear hsw hge hs1 hs2
          go_loopw [14, 15, 16] (fun out iv _ wr2 => ∃ qs rs : List Piece, ps = qs ++ rs ∧ iv = .int .i64 qs.length ∧ OV w1.heap.size wr2 out (byteC (34 :: bytesP (rePs 34 39 qs))) 40000000 ∧ Below w1.heap.size w1 wr2) (fun _ iv _ _ => ps.length - (intOf iv).toNat)
          case atStart => exact ⟨[], ps, rfl, rfl, ⟨World.ownsRow_lit wr _ 1 HBE.out.size (by decide) rfl, by decide, by have := HBE.out.size; simp; omega⟩, HBE.out.alloc HBE.out.size _⟩
          case round =>
            obtain ⟨qs, rs, hps, rfl, hov, hbel⟩ := hrel
            have HPS := Lib.hid hps
            have HBE := Lib.hid hbel
            have HOV := Lib.hid hov
            have hlen : qs.length + rs.length = ps.length := by rw [hps]; simp
            clear hps hbel hov
            cases rs with
            | nil =>
              have hge : ps.length ≤ qs.length := by simp at hlen; omega
              have HE : Hid (ps = qs) := Lib.hid (by have := HPS.out; rwa [List.append_nil] at this)
              clear hlen
              go_wp2_with (first
                | (at_builtin; refine wpList_append_own _ rfl _ _ 59 rfl w1.heap.size 5 i0 (.int .u8 0) 1 1 Tryd.underlying59 hi hz0 hz1 hz2 rfl (by decide) _ _ _ rfl (HOV.out.1.alloc _) ⟨_, 0, none⟩ 1 1 [.int .u8 _] rfl rfl (cell_one_new _ _ _) (fun x hx => by simp at hx; subst hx; rfl) (by have := HOV.out.2.1; unfold maxLen; omega) (by have := HOV.out.2.1; omega) (by have := HOV.out.2.2; simp; omega) ?_; intro v' w' hown' hgrow' hnil'; have HBF := Lib.hid ((HBE.out.alloc HBE.out.size _).grown hgrow' (by have := HBE.out.size; simp; omega) (fun g hg => (HOV.out.1.lt g hg).1)); have HO2 := Lib.hid (ov_snoc hown' HOV.out.2.1 HBF.out.size); have hcv := ov_conv HO2.out (34 :: bytesP (rePs 34 39 qs) ++ [34]) (by simp [byteC]) (by simp); clear hown' hgrow' hnil'))
              go_ret2
              refine ⟨?_, HB.out.trans (HBF.out.mono HB.out.size)⟩
              rw [quoteL_of _ _ _ H1.out, (lit_code _).2 ps H1.out, HPick.out, HE.out]
              rfl
            | cons p rs =>
              have hlt : qs.length < ps.length := by simp at hlen; omega
              obtain ⟨b, n, c, ch, hx1, hx2, hx3, hx4, hx5, hx6, hx7⟩ := HP.out.at qs p rs HPS.out
              have hag : ∃ g, ao = some ⟨g, 0, none⟩ := by
                rcases HO.out.2 with ⟨h1, h2⟩ | ⟨g, cap, _, h1, _⟩
                · rw [h2] at hlt; omega
                · injection h1 with h1 _ _; exact ⟨g, h1⟩
              obtain ⟨g, rfl⟩ := hag
              have hO2 := own_below HO.out HBE.out
              have hc0 : wr.cell? ⟨g, qs.length * 4, none⟩ = some (.int .i64 ((1 + (bytesP qs).length : Nat) : Int)) := own_cell hO2 _ _ (by rw [Nat.mul_comm]; exact hx1)
              have hc1 : wr.cell? ⟨g, qs.length * 4 + 1, none⟩ = some (.int .i64 ((1 + (bytesP qs).length + p.1.length : Nat) : Int)) := own_cell hO2 _ _ (by rw [Nat.mul_comm]; exact hx2)
              have hc2 : wr.cell? ⟨g, qs.length * 4 + 2, none⟩ = some (.slice b n c) := own_cell hO2 _ _ (by rw [Nat.mul_comm]; exact hx3)
              have hc3 : wr.cell? ⟨g, qs.length * 4 + 3, none⟩ = some (.int .i64 ch) := own_cell hO2 _ _ (by rw [Nat.mul_comm]; exact hx4)
              have hX : (bytesP qs).length + p.1.length ≤ 16777216 := by
                have := HBZ.out
                rw [HPS.out, bytesP_app, bytesP_cons, List.length_append, List.length_append] at this
                omega
              have hge4 : qs.length * 4 + 4 ≤ 67108868 := by omega
              obtain ⟨X, hXX⟩ : ∃ X : Nat, 1 + (bytesP qs).length = X := ⟨_, rfl⟩
              obtain ⟨T, hT⟩ : ∃ T : Nat, X + p.1.length = T := ⟨_, rfl⟩
              rw [hXX] at hc0 hc1
              rw [hT] at hc1
              have HStep : Hid (ps = (qs ++ [p]) ++ rs) := Lib.hid (by rw [HPS.out]; simp)
              have HRe : Hid (bytesP (rePs 34 39 (qs ++ [p])) = bytesP (rePs 34 39 qs) ++ quoteP 34 39 p.1) := Lib.hid (by simp [rePs, bytesP])
              have HLen : Hid ((bytesP (rePs 34 39 (qs ++ [p]))).length ≤ 33554432) := Lib.hid (by
                have h1 := bytesRe_le 34 39 (qs ++ [p]) (fun p' hp' => shape_ne _ _ (HShape.out p' (by rw [HStep.out]; exact List.mem_append_left _ hp')))
                rw [bytesP_app, List.length_append, show bytesP [p] = p.1 by simp [bytesP]] at h1
                omega)
              have HSx : Hid (∃ q0, s.data.toList = q0 :: (bytesP (qs ++ p :: rs) ++ [q0])) := Lib.hid (by have := HS.out; rw [HPS.out] at this; exact this)
              obtain ⟨x, l, hxl⟩ := shape_head _ _ (HShape.out p (by rw [HPS.out]; simp))
              have hsz : X + p.1.length + (bytesP rs).length + 1 = s.size := by
                obtain ⟨q0, h⟩ := HSx.out
                rw [Lib.size_eq, h, ← hXX]
                simp only [List.length_cons, List.length_append, List.length_nil, bytesP_app, bytesP_cons]
                omega
              have hlp : 1 ≤ p.1.length := by rw [hxl]; simp
              have hXs : X < s.size := by omega
              have hXT : X ≤ T := by omega
              have hTs : T ≤ s.size := by omega
              have HXv : Hid (s[X]'hXs = x) := Lib.hid (by
                obtain ⟨q0, h⟩ := HSx.out
                exact ba_at s X x hXs (by rw [← hXX]; exact at_head s q0 qs p rs x l h hxl))
              have HEx : Hid ((s.extract X T).data.toList = p.1) := Lib.hid (by
                obtain ⟨q0, h⟩ := HSx.out
                rw [← hT, ← hXX]; exact ext_list s q0 qs p rs h)
              have hx256 : (x.toNat : Int) < 256 := by have := x.toNat_lt; omega
              by_cases e1 : p.1 = [92, 39]
              · obtain rfl : ch = 39 := hx6.2 e1
                have HQP : Hid (quoteP 34 39 p.1 = [39]) := Lib.hid (by rw [e1]; rfl)
                clear hx1 hx2 hx3 hx4 hx5 hx6 hx7 hlen hO2 hX e1 hxl hsz hlp hXX hT hx256
                go_wp2_with (first
                  | (at_builtin; refine wpList_append_own _ rfl _ _ 59 rfl w1.heap.size 5 i0 (.int .u8 0) 1 1 Tryd.underlying59 hi hz0 hz1 hz2 rfl (by decide) _ _ _ rfl ((HOV.out.1.alloc _).alloc _) ⟨wr.heap.size + 1, 0, none⟩ 1 1 [.int .u8 _] rfl rfl (cell_one_at _ _ _ _) (fun x hx => by simp at hx; subst hx; rfl) (by have := HOV.out.2.1; unfold maxLen; omega) (by have := HOV.out.2.1; omega) (by have := HOV.out.2.2; simp; omega) ?_; intro v' w' hown' hgrow' hnil'; have HBF := Lib.hid (((HBE.out.alloc HBE.out.size _).alloc (by have := HBE.out.size; simp; omega) _).grown hgrow' (by have := HBE.out.size; simp; omega) (fun g hg => (HOV.out.1.lt g hg).1)); have HO2 := Lib.hid hown'; clear hown' hgrow' hnil'))
                go_roundw
                case rel =>
                  exact ⟨qs ++ [p], rs, HStep.out, by rw [List.length_append]; simp, ov_of HO2.out rfl (by rw [HRe.out, HQP.out]; simp [byteC]) (by rw [byteC_len]; have := HLen.out; simp only [List.length_cons]; omega) HBF.out.size, HBF.out⟩
                case measure => simp [intOf]; omega
              have HNE := Lib.hid e1
              have d0 : (ch == 39) = false := beq_eq_false_iff_ne.2 (fun e => e1 (hx6.1 e))
              by_cases e2 : p.1 = [34]
              · have HQP : Hid (quoteP 34 39 p.1 = [92, 34]) := Lib.hid (by rw [e2]; rfl)
                have hx0 : x = 34 := by rw [e2] at hxl; injection hxl with h _; exact h.symm
                have t1 : (((s[X]'hXs).toNat : Int) == 34) = true := by rw [HXv.out, hx0]; rfl
                clear hx1 hx2 hx3 hx4 hx5 hx6 hx7 hlen hO2 hX e1 e2 hxl hsz hlp hXX hT hx256 hx0
                go_wp2_with (first
                  | (at_builtin; refine wpList_append_own _ rfl _ _ 59 rfl w1.heap.size 5 i0 (.int .u8 0) 1 1 Tryd.underlying59 hi hz0 hz1 hz2 rfl (by decide) _ _ _ rfl ((HOV.out.1.alloc _).alloc _) ⟨wr.heap.size + 1, 0, none⟩ 2 2 [.int .u8 _, .int .u8 _] rfl rfl (cell_two_at _ _ _ _ _) (fun x hx => by simp at hx; rcases hx with rfl | rfl <;> rfl) (by have := HOV.out.2.1; unfold maxLen; omega) (by have := HOV.out.2.1; omega) (by have := HOV.out.2.2; simp; omega) ?_; intro v' w' hown' hgrow' hnil'; have HBF := Lib.hid (((HBE.out.alloc HBE.out.size _).alloc (by have := HBE.out.size; simp; omega) _).grown hgrow' (by have := HBE.out.size; simp; omega) (fun g hg => (HOV.out.1.lt g hg).1)); have HO2 := Lib.hid hown'; clear hown' hgrow' hnil'))
                go_roundw
                case rel =>
                  exact ⟨qs ++ [p], rs, HStep.out, by rw [List.length_append]; simp, ov_of HO2.out rfl (by rw [HRe.out, HQP.out]; simp [byteC]) (by rw [byteC_len]; have := HLen.out; simp only [List.length_cons]; omega) HBF.out.size, HBF.out⟩
                case measure => simp [intOf]; omega
              · have HQP : Hid (quoteP 34 39 p.1 = p.1) := Lib.hid (by unfold quoteP; rw [if_neg e1, if_neg e2])
                have hx0 : x ≠ 34 := head_ne _ _ (HShape.out p (by rw [HPS.out]; simp)) 34 (by decide) e2 x l hxl
                have t1 : (((s[X]'hXs).toNat : Int) == 34) = false := by rw [HXv.out]; exact beq_eq_false_iff_ne.2 (fun e => hx0 (UInt8.toNat_inj.1 (Int.ofNat.inj e)))
                have hi1 : (X : Int) ≤ (T : Int) := by omega
                have hi2 : (T : Int) ≤ (s.size : Int) := by omega
                have HExs : Hid ((s.extract X T).size ≤ 16777216) := Lib.hid (by rw [Lib.size_eq, HEx.out]; omega)
                clear hx1 hx2 hx3 hx4 hx5 hx6 hx7 hlen hO2 hX e1 e2 hxl hsz hlp hXX hT hx256 hx0
                go_wp2_with (first
                  | (at_builtin; refine Lib.wpList_append_own_string _ rfl _ _ 59 9 rfl w1.heap.size 5 i0 Tryd.underlying59 Tryd.underlying9 hi hz0 hz1 hz2 _ _ _ rfl (HOV.out.1.alloc _) (s.extract X T) rfl (by have := HOV.out.2.1; have := HExs.out; unfold maxLen; omega) (by have := HOV.out.2.1; have := HExs.out; omega) (by have := HOV.out.2.2; simp; omega) ?_; intro v' w' hown' hgrow' hnil'; have HBF := Lib.hid ((HBE.out.alloc HBE.out.size _).grown hgrow' (by have := HBE.out.size; simp; omega) (fun g hg => (HOV.out.1.lt g hg).1)); have HO2 := Lib.hid hown'; clear hown' hgrow' hnil'))
                go_roundw
                case rel =>
                  exact ⟨qs ++ [p], rs, HStep.out, by rw [List.length_append]; simp, ov_of HO2.out (by rw [strCells_is, HEx.out, byteC_len, Lib.size_eq, HEx.out]) (by rw [HRe.out, HQP.out, strCells_is, HEx.out]; simp [byteC]) (by rw [byteC_len]; have := HLen.out; simp only [List.length_cons]; omega) HBF.out.size, HBF.out⟩
                case measure => simp [intOf]; omega
      | cons p rs =>
        have hlt : qs.length < ps.length := by simp at hlen; omega
        obtain ⟨b, n, c, ch, hx1, hx2, hx3, hx4, hx5, hx6, hx7⟩ := HP.out.at qs p rs HPS.out
        have hag : ∃ g, ao = some ⟨g, 0, none⟩ := by
          rcases HO.out.2 with ⟨h1, h2⟩ | ⟨g, cap, _, h1, _⟩
          · rw [h2] at hlt; omega
          · injection h1 with h1 _ _; exact ⟨g, h1⟩
        obtain ⟨g, rfl⟩ := hag
        have hO2 := own_below HO.out HBE.out
        have hc0 : wr.cell? ⟨g, qs.length * 4, none⟩ = some (.int .i64 ((1 + (bytesP qs).length : Nat) : Int)) := own_cell hO2 _ _ (by rw [Nat.mul_comm]; exact hx1)
        have hc1 : wr.cell? ⟨g, qs.length * 4 + 1, none⟩ = some (.int .i64 ((1 + (bytesP qs).length + p.1.length : Nat) : Int)) := own_cell hO2 _ _ (by rw [Nat.mul_comm]; exact hx2)
        have hc2 : wr.cell? ⟨g, qs.length * 4 + 2, none⟩ = some (.slice b n c) := own_cell hO2 _ _ (by rw [Nat.mul_comm]; exact hx3)
        have hc3 : wr.cell? ⟨g, qs.length * 4 + 3, none⟩ = some (.int .i64 ch) := own_cell hO2 _ _ (by rw [Nat.mul_comm]; exact hx4)
        have hfacts := facts_34 p (HRow.out p (by rw [HPS.out]; simp)) ch hx7 hx6
        have hI := hx5.keep HBE.out
        have hX : (bytesP qs).length + p.1.length ≤ 16777216 := by
          have := HBZ.out
          rw [HPS.out, bytesP_app, bytesP_cons, List.length_append, List.length_append] at this
          omega
        have hsum : sumIf 34 (qs ++ [p]) = sumIf 34 qs + oneIf 34 p.1 ∧ sumIf 39 (qs ++ [p]) = sumIf 39 qs + oneIf 39 p.1 := by rw [sumIf_app, sumIf_app]; exact ⟨rfl, rfl⟩
        have hn : n = (uOf p.2).length := by
          rcases hI with ⟨h1, h2⟩ | ⟨_, _, _, _, h1, _⟩
          · injection h1 with _ h1 _; rw [h1, h2]; rfl
          · injection h1
        have hu0 : ∀ u, uOf p.2 = [u] → ∃ g', b = some ⟨g', 0, none⟩ ∧ wr.cell? ⟨g', 0, none⟩ = some (.int .i64 u) := fun u hu => by
          rcases hI with ⟨_, h2⟩ | ⟨g', _, cs, _, h1, h2, h3⟩
          · rw [h2] at hu; cases hu
          · injection h1 with h1 _ _
            exact ⟨g', h1, by rw [blk_cell h2]; exact h3 0 u (by rw [hu]; rfl)⟩
        obtain ⟨X, hXX⟩ : ∃ X : Nat, 1 + (bytesP qs).length = X := ⟨_, rfl⟩
        obtain ⟨L, hL⟩ : ∃ L, p.1.length = L := ⟨_, rfl⟩
        rw [hXX] at hc0 hc1
        rw [hL] at hc1 hX hfacts
        have hXL : X + L ≤ 16777217 := by omega
        have hw1 : IntKind.i64.wrap ((X : Int) + 1) = (X : Int) + 1 := IntWalk.i64_in _ (by omega)
        have HSum := Lib.hid hsum
        have HStep : Hid (ps = (qs ++ [p]) ++ rs) := Lib.hid (by rw [HPS.out]; simp)
        clear hx1 hx2 hx3 hx4 hx5 hx6 hx7 hlen hO2 hI hsum hX hXX hL
        rcases hfacts with ⟨f1, f2, f3, f4, f5, f6⟩ | ⟨f1, f2, f3, f4, f5, f6⟩ | ⟨f1, f2, f3, f4⟩ | ⟨f1, f2, f3, f4⟩ | ⟨f1, f2, f3, f4, f5⟩ | ⟨f1, f2, f3, f4, f5, f6⟩ | ⟨f1, ⟨u, f2, f7, f8⟩, f3, f4, f5, f6⟩
        · subst f1
          rw [show ((X + 1 : Nat) : Int) = (X : Int) + 1 by omega] at hc1
          rw [f2] at hn
          obtain ⟨g', rfl, hcu⟩ := hu0 _ f2
          obtain rfl : n = 1 := hn
          have d1 : (ch == 34) = false := beq_eq_false_iff_ne.2 f3
          have d2 : (ch == 39) = false := beq_eq_false_iff_ne.2 f4
          have HA := Lib.hid (f5)
          have HA2 := Lib.hid (f6)
          clear hu0 hXL
          clear f2 f3 f4 f5 f6
          go_wp2_with fail
          go_quiet (fail)
          go_wp2_with fail
          go_roundw
          case rel => exact ⟨qs ++ [p], rs, HStep.out, by rw [List.length_append]; simp, by rw [HSum.out.1, HA.out]; simp, by rw [HSum.out.2, HA2.out]; simp, below_drewN HBE.out _⟩
          case measure => simp [intOf]; omega
        · subst f1
          rw [show ((X + 1 : Nat) : Int) = (X : Int) + 1 by omega] at hc1
          rw [f2] at hn
          obtain ⟨g', rfl, hcu⟩ := hu0 _ f2
          obtain rfl : n = 1 := hn
          have d1 : (ch == 34) = false := beq_eq_false_iff_ne.2 f3
          have d2 : (ch == 39) = false := beq_eq_false_iff_ne.2 f4
          have HA := Lib.hid (f5)
          have HA2 := Lib.hid (f6)
          clear hu0 hXL
          clear f2 f3 f4 f5 f6
          go_wp2_with fail
          go_quiet (fail)
          go_wp2_with fail
          go_roundw
          case rel => exact ⟨qs ++ [p], rs, HStep.out, by rw [List.length_append]; simp, by rw [HSum.out.1, HA.out]; simp, by rw [HSum.out.2, HA2.out]; simp, below_drewN HBE.out _⟩
          case measure => simp [intOf]; omega
        · obtain ⟨T, hT⟩ : ∃ T : Nat, X + L = T := ⟨_, rfl⟩
          rw [hT] at hc1
          have t0 : ((T : Int) == (X : Int) + 1) = false := beq_eq_false_iff_ne.2 (by omega)
          subst f2
          have HA := Lib.hid (f3)
          have HA2 := Lib.hid (f4)
          clear hu0 hXL hn
          clear f1 f3 f4 hT
          go_wp2_with fail
          go_quiet (fail)
          go_wp2_with fail
          go_roundw
          case rel => exact ⟨qs ++ [p], rs, HStep.out, by rw [List.length_append]; simp, by rw [HSum.out.1, HA.out]; simp, by rw [HSum.out.2, HA2.out]; simp, below_drewN HBE.out _⟩
          case measure => simp [intOf]; omega
        · obtain ⟨T, hT⟩ : ∃ T : Nat, X + L = T := ⟨_, rfl⟩
          rw [hT] at hc1
          have t0 : ((T : Int) == (X : Int) + 1) = false := beq_eq_false_iff_ne.2 (by omega)
          subst f2
          have HA := Lib.hid (f3)
          have HA2 := Lib.hid (f4)
          clear hu0 hXL hn
          clear f1 f3 f4 hT
          go_wp2_with fail
          go_quiet (fail)
          go_wp2_with fail
          go_roundw
          case rel => exact ⟨qs ++ [p], rs, HStep.out, by rw [List.length_append]; simp, by rw [HSum.out.1, HA.out]; simp, by rw [HSum.out.2, HA2.out]; simp, below_drewN HBE.out _⟩
          case measure => simp [intOf]; omega
        · obtain ⟨T, hT⟩ : ∃ T : Nat, X + L = T := ⟨_, rfl⟩
          rw [hT] at hc1
          have t0 : ((T : Int) == (X : Int) + 1) = false := beq_eq_false_iff_ne.2 (by omega)
          have d1 : (ch == 34) = false := beq_eq_false_iff_ne.2 f2
          have d2 : (ch == 39) = false := beq_eq_false_iff_ne.2 f3
          have HA := Lib.hid (f4)
          have HA2 := Lib.hid (f5)
          clear hu0 hXL hn
          clear f1 f2 f3 f4 f5 hT
          go_wp2_with fail
          go_quiet (fail)
          go_wp2_with fail
          go_roundw
          case rel => exact ⟨qs ++ [p], rs, HStep.out, by rw [List.length_append]; simp, by rw [HSum.out.1, HA.out]; simp, by rw [HSum.out.2, HA2.out]; simp, below_drewN HBE.out _⟩
          case measure => simp [intOf]; omega
        · subst f1
          rw [show ((X + 1 : Nat) : Int) = (X : Int) + 1 by omega] at hc1
          have n0 : ((n : Int) == 1) = false := beq_eq_false_iff_ne.2 (by omega)
          have d1 : (ch == 34) = false := beq_eq_false_iff_ne.2 f3
          have d2 : (ch == 39) = false := beq_eq_false_iff_ne.2 f4
          have HA := Lib.hid (f5)
          have HA2 := Lib.hid (f6)
          clear hu0 hXL hn
          clear f2 f3 f4 f5 f6
          go_wp2_with fail
          go_quiet (fail)
          go_wp2_with fail
          go_roundw
          case rel => exact ⟨qs ++ [p], rs, HStep.out, by rw [List.length_append]; simp, by rw [HSum.out.1, HA.out]; simp, by rw [HSum.out.2, HA2.out]; simp, below_drewN HBE.out _⟩
          case measure => simp [intOf]; omega
        · subst f1
          rw [show ((X + 1 : Nat) : Int) = (X : Int) + 1 by omega] at hc1
          rw [f2] at hn
          obtain ⟨g', rfl, hcu⟩ := hu0 _ f2
          obtain rfl : n = 1 := hn
          have u1 : (u == 34) = false := beq_eq_false_iff_ne.2 f7
          have u2 : (u == 39) = false := beq_eq_false_iff_ne.2 f8
          have d1 : (ch == 34) = false := beq_eq_false_iff_ne.2 f3
          have d2 : (ch == 39) = false := beq_eq_false_iff_ne.2 f4
          have HA := Lib.hid (f5)
          have HA2 := Lib.hid (f6)
          clear hu0 hXL
          clear f2 f3 f4 f5 f6 f7 f8
          go_wp2_with fail
          go_quiet (fail)
          go_wp2_with fail
          go_roundw
          case rel => exact ⟨qs ++ [p], rs, HStep.out, by rw [List.length_append]; simp, by rw [HSum.out.1, HA.out]; simp, by rw [HSum.out.2, HA2.out]; simp, below_drewN HBE.out _⟩
          case measure => simp [intOf]; omega
end Str
end Go.Proofs.YtddldddehgnobaaDoor
