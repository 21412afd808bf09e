/-
  The law 'LexComments': comments are told in their row.
-/
import Derived.Test.YtfnilkhccomemaaDoorLexComT
namespace Go.Proofs.YtfnilkhccomemaaDoor
namespace Lex
open Go.RowKit
open Str (lenL runeL)

theorem dec_any (k : Nat) (hk : k < 20) (D : ByteArray) (hD : Str.ofL (digL k) = D) (w : World) :
    Calls Tryd.prog 18 #[.int .i64 (k : Nat)] w fun e w' => e = .returned (.string D) ∧ Below w.heap.size w w' := by
  subst hD
  exact Num.decimal_any (k : Nat) w (by omega) (by omega)

set_option maxHeartbeats 16000000 in
set_option maxRecDepth 20000 in
theorem law_comments (a0 : Option Addr) (len0 cap0 : Nat) (w : World) (hp : ∀ k, k < len0 → ∃ x z, a0 = some x ∧ w.cell? (x.add k) = some (.int .i64 z) ∧ x.block < w.heap.size) (hT : Tabs w.heap.size w) :
    Calls Tryd.prog 10 #[.slice a0 len0 cap0] w fun e w' => e = .returned (.bool true) ∧ Below w.heap.size w w' := by
  obtain ⟨i0, ihi, iz0, iz1, iz2⟩ := info_parts intInfo
  obtain ⟨s0, shi, sz0, sz1, sz2⟩ := info_parts strInfo
  have HT := Lib.hid hT
  have HP := Lib.hid hp
  clear hT hp
  go_enter Tryd.func10, Tryd.ntmps10
  go_wp2_with fail
  refine (awake_any w HT.out).mono ?_
  rintro e w0 ⟨rfl, hb0⟩
  have HB0 := Lib.hid hb0
  clear hb0
  go_wp2_with fail
  go_loopw [3, 4, 5, 6, 7] (fun s vk vt b i wr => ∃ (k : Nat) (S : ByteArray) (e : Bool) (K : List Key), k ≤ 20 ∧ k ≤ len0 ∧ s = .string S ∧ b = .bool e ∧ i = .int .i64 k ∧ Wro k S e K ∧ wr.ownsRow w.heap.size 3 1 vk K.length (kindsV K) ∧ wr.ownsRow w.heap.size 9 1 vt K.length (textsV K) ∧ Below w.heap.size w wr) (fun _ _ _ _ i _ => 20 - (intOf i).toNat)
  case atStart => exact ⟨0, _, false, [], by omega, by omega, rfl, rfl, rfl, Wro.start, World.ownsRow_nil _ _ _ _, World.ownsRow_nil _ _ _ _, HB0.out⟩
  case round =>
    obtain ⟨k, S, e, K, hk, hkl, rfl, rfl, rfl, hch, hok, hot, hbel⟩ := hrel
    have HC := Lib.hid hch
    have HB := Lib.hid hbel
    have HOK := Lib.hid hok
    have HOT := Lib.hid hot
    obtain ⟨hS, hu⟩ := hch.le
    have HU : Hid (K.length ≤ 20) := Lib.hid (by omega)
    clear hch hbel hok hot hu
    by_cases hmore : k < len0 ∧ k < 20
    · obtain ⟨hlt, h20⟩ := hmore
      obtain ⟨x, z, rfl, hcell, hx⟩ := HP.out k hlt
      have hcell' : wr.cell? (x.add k) = some (.int .i64 z) := by rw [HB.out.cell (p := x.add k) (by unfold Addr.add; split <;> exact hx)]; exact hcell
      clear hcell hx
      obtain ⟨D, hD⟩ : ∃ D, Str.ofL (digL k) = D := ⟨_, rfl⟩
      obtain ⟨hdig, hdl⟩ := dig_all k h20
      have hDl : D.data.toList = digL k := by rw [← hD]; simp [Str.ofL]
      have hDs : D.size ≤ 2 := by rw [Lib.size_eq, hDl]; exact hdl
      have HD := Lib.hid hD
      have HDl := Lib.hid hDl
      have HDg := Lib.hid hdig
      have HDs := Lib.hid hdl
      clear hD hDl hdig hdl
      by_cases r0 : (IntKind.u64.wrap z).tmod 4 = 0
      · go_wp2_with fail
        go_roundw
        case rel => exact ⟨k + 1, _, e, K, by omega, by omega, rfl, rfl, rfl, (by
          have h := HC.out.add (S' := S ++ ⟨#[32]⟩) (g := e) said_blank (by simp) (by decide) (by decide) (by simp)
          rw [List.append_nil] at h
          exact h), HOK.out, HOT.out, HB.out⟩
        case measure => simp [intOf]; omega
      by_cases r1 : (IntKind.u64.wrap z).tmod 4 = 1
      · go_wp2_with fail
        refine (dec_any k h20 D HD.out wr).mono ?_
        rintro e1 w1 ⟨rfl, hb1⟩
        have HOK1 := Lib.hid (owns_on HOK.out hb1)
        have HOT1 := Lib.hid (owns_on HOT.out hb1)
        have HB1 := Lib.hid (bel_trans HB.out hb1)
        clear hb1 hcell'
        go_wp2_with (at_builtin; refine wpList_append_own _ rfl _ _ 36 rfl w.heap.size 3 i0 (.int .i64 0) 1 8 Tryd.underlying36 ihi iz0 iz1 iz2 rfl (by decide) _ K.length (kindsV K) rfl (HOK1.out.alloc _) ⟨w1.heap.size, 0, none⟩ 1 1 [.int .i64 _] rfl rfl (cell_one_new _ _ _) (fun x hx => by simp at hx; subst hx; rfl) (by have := HU.out; unfold maxLen; omega) (by have := HU.out; omega) (by have := HB1.out.size; simp; omega) ?_; intro v' w' hown' hgrow' hnil'; have HOK1' := Lib.hid hown'; have HOT1' := Lib.hid (World.ownsRow.kept (HOT1.out.alloc _) hgrow' (rows_apart HOT1.out HOK1.out (by decide))); have HB1' := Lib.hid ((HB1.out.alloc HB1.out.size _).grown hgrow' (by have := HB1.out.size; simp; omega) (fun g hg => (HOK1.out.lt g hg).1)); clear hown' hgrow' hnil')
        refine (dec_any k h20 D HD.out _).mono ?_
        rintro e3 w3 ⟨rfl, hb3⟩
        have HOK3 := Lib.hid (owns_on HOK1'.out hb3)
        have HOT3 := Lib.hid (owns_on HOT1'.out hb3)
        have HB3 := Lib.hid (bel_trans HB1'.out hb3)
        clear hb3
        go_wp2_with (at_builtin; refine wpList_append_own _ rfl _ _ 33 rfl w.heap.size 9 s0 (.string ⟨#[]⟩) 1 16 Tryd.underlying33 shi sz0 sz1 sz2 rfl (by decide) _ K.length (textsV K) rfl (HOT3.out.alloc _) ⟨w3.heap.size, 0, none⟩ 1 1 [.string _] rfl rfl (cell_one_new _ _ _) (fun x hx => by simp at hx; subst hx; rfl) (by have := HU.out; unfold maxLen; omega) (by have := HU.out; omega) (by have := HB3.out.size; simp; omega) ?_; intro v' w' hown' hgrow' hnil'; have HOT3' := Lib.hid hown'; have HOK3' := Lib.hid (World.ownsRow.kept (HOK3.out.alloc _) hgrow' (rows_apart HOK3.out HOT3.out (by decide))); have HB3' := Lib.hid ((HB3.out.alloc HB3.out.size _).grown hgrow' (by have := HB3.out.size; simp; omega) (fun g hg => (HOT3.out.lt g hg).1)); clear hown' hgrow' hnil')
        go_roundw
        case rel => exact ⟨k + 1, _, _, K ++ [(1, 47 :: 47 :: (digL k ++ [32]))], by omega, by omega, rfl, rfl, rfl,
          HC.out.add (said_line (digL k) HDg.out) (by simp [HDl.out]) (by have := HDs.out; simp only [List.length_cons, List.length_append, List.length_nil]; omega) (by simp) (by simp),
          (by have h := HOK3'.out; simpa [kindsV] using h),
          (by
            have h := HOT3'.out
            rw [show ((⟨#[47, 47]⟩ ++ D) ++ ⟨#[32]⟩ : ByteArray) = Str.ofL (47 :: 47 :: (digL k ++ [32])) from by apply ByteArray.ext; apply Array.toList_inj.1; simp [Str.ofL, HDl.out]] at h
            simpa [textsV] using h), HB3'.out⟩
        case measure => simp [intOf]; omega
      by_cases r2 : (IntKind.u64.wrap z).tmod 4 = 2
      · go_wp2_with fail
        refine (dec_any k h20 D HD.out wr).mono ?_
        rintro e1 w1 ⟨rfl, hb1⟩
        have HOK1 := Lib.hid (owns_on HOK.out hb1)
        have HOT1 := Lib.hid (owns_on HOT.out hb1)
        have HB1 := Lib.hid (bel_trans HB.out hb1)
        clear hb1 hcell'
        go_wp2_with (at_builtin; refine wpList_append_own _ rfl _ _ 36 rfl w.heap.size 3 i0 (.int .i64 0) 1 8 Tryd.underlying36 ihi iz0 iz1 iz2 rfl (by decide) _ K.length (kindsV K) rfl (HOK1.out.alloc _) ⟨w1.heap.size, 0, none⟩ 1 1 [.int .i64 _] rfl rfl (cell_one_new _ _ _) (fun x hx => by simp at hx; subst hx; rfl) (by have := HU.out; unfold maxLen; omega) (by have := HU.out; omega) (by have := HB1.out.size; simp; omega) ?_; intro v' w' hown' hgrow' hnil'; have HOK1' := Lib.hid hown'; have HOT1' := Lib.hid (World.ownsRow.kept (HOT1.out.alloc _) hgrow' (rows_apart HOT1.out HOK1.out (by decide))); have HB1' := Lib.hid ((HB1.out.alloc HB1.out.size _).grown hgrow' (by have := HB1.out.size; simp; omega) (fun g hg => (HOK1.out.lt g hg).1)); clear hown' hgrow' hnil')
        refine (dec_any k h20 D HD.out _).mono ?_
        rintro e3 w3 ⟨rfl, hb3⟩
        have HOK3 := Lib.hid (owns_on HOK1'.out hb3)
        have HOT3 := Lib.hid (owns_on HOT1'.out hb3)
        have HB3 := Lib.hid (bel_trans HB1'.out hb3)
        clear hb3
        go_wp2_with (at_builtin; refine wpList_append_own _ rfl _ _ 33 rfl w.heap.size 9 s0 (.string ⟨#[]⟩) 1 16 Tryd.underlying33 shi sz0 sz1 sz2 rfl (by decide) _ K.length (textsV K) rfl (HOT3.out.alloc _) ⟨w3.heap.size, 0, none⟩ 1 1 [.string _] rfl rfl (cell_one_new _ _ _) (fun x hx => by simp at hx; subst hx; rfl) (by have := HU.out; unfold maxLen; omega) (by have := HU.out; omega) (by have := HB3.out.size; simp; omega) ?_; intro v' w' hown' hgrow' hnil'; have HOT3' := Lib.hid hown'; have HOK3' := Lib.hid (World.ownsRow.kept (HOK3.out.alloc _) hgrow' (rows_apart HOK3.out HOT3.out (by decide))); have HB3' := Lib.hid ((HB3.out.alloc HB3.out.size _).grown hgrow' (by have := HB3.out.size; simp; omega) (fun g hg => (HOT3.out.lt g hg).1)); clear hown' hgrow' hnil')
        go_roundw
        case rel => exact ⟨k + 1, _, _, K ++ [(2, 47 :: 42 :: (digL k ++ [42, 42, 47]))], by omega, by omega, rfl, rfl, rfl,
          HC.out.add (said_dig (digL k) HDg.out) (by simp [HDl.out]) (by have := HDs.out; simp only [List.length_cons, List.length_append, List.length_nil]; omega) (by simp) (by simp),
          (by have h := HOK3'.out; simpa [kindsV] using h),
          (by
            have h := HOT3'.out
            rw [show ((⟨#[47, 42]⟩ ++ D) ++ ⟨#[42, 42, 47]⟩ : ByteArray) = Str.ofL (47 :: 42 :: (digL k ++ [42, 42, 47])) from by apply ByteArray.ext; apply Array.toList_inj.1; simp [Str.ofL, HDl.out]] at h
            simpa [textsV] using h), HB3'.out⟩
        case measure => simp [intOf]; omega
      · go_wp2_with first | (at_builtin; refine wpList_append_own _ rfl _ _ 36 rfl w.heap.size 3 i0 (.int .i64 0) 1 8 Tryd.underlying36 ihi iz0 iz1 iz2 rfl (by decide) _ K.length (kindsV K) rfl (HOK.out.alloc _) ⟨wr.heap.size, 0, none⟩ 1 1 [.int .i64 _] rfl rfl (cell_one_new _ _ _) (fun x hx => by simp at hx; subst hx; rfl) (by have := HU.out; unfold maxLen; omega) (by have := HU.out; omega) (by have := HB.out.size; simp; omega) ?_; intro v' w' hown' hgrow' hnil'; have HOK' := Lib.hid hown'; have HOT' := Lib.hid (World.ownsRow.kept (HOT.out.alloc _) hgrow' (rows_apart HOT.out HOK.out (by decide))); have HB' := Lib.hid ((HB.out.alloc HB.out.size _).grown hgrow' (by have := HB.out.size; simp; omega) (fun g hg => (HOK.out.lt g hg).1)); clear hown' hgrow' hnil') | (at_builtin; refine wpList_append_own _ rfl _ _ 33 rfl w.heap.size 9 s0 (.string ⟨#[]⟩) 1 16 Tryd.underlying33 shi sz0 sz1 sz2 rfl (by decide) _ K.length (textsV K) rfl (HOT'.out.alloc _) ⟨w'.heap.size, 0, none⟩ 1 1 [.string _] rfl rfl (cell_one_new _ _ _) (fun x hx => by simp at hx; subst hx; rfl) (by have := HU.out; unfold maxLen; omega) (by have := HU.out; omega) (by have := HB'.out.size; simp; omega) ?_; intro v'' w'' hown' hgrow' hnil'; have HOT'' := Lib.hid hown'; have HOK'' := Lib.hid (World.ownsRow.kept (HOK'.out.alloc _) hgrow' (rows_apart HOK'.out HOT'.out (by decide))); have HB'' := Lib.hid ((HB'.out.alloc HB'.out.size _).grown hgrow' (by have := HB'.out.size; simp; omega) (fun g hg => (HOT'.out.lt g hg).1)); clear hown' hgrow' hnil')
        go_roundw
        case rel => exact ⟨k + 1, _, _, K ++ [(2, [47, 42, 10, 47, 42, 47])], by omega, by omega, rfl, rfl, rfl,
          HC.out.add said_turn (by simp) (by decide) (by decide) (by simp),
          (by have h := HOK''.out; simpa [kindsV] using h),
          (by have h := HOT''.out; simpa [textsV, Str.ofL] using h), HB''.out⟩
        case measure => simp [intOf]; omega
    · have hh : (k < len0 ∧ ¬ k < 20) ∨ ¬ k < len0 := by omega
      obtain ⟨kk, cs, hans, hkeys⟩ := wro_ans HC.out
      have hsz : (S ++ ⟨#[59]⟩ : ByteArray).size ≤ 4194304 := by rw [cat2_size, show (⟨#[59]⟩ : ByteArray).size = 1 from rfl]; omega
      have HSz := Lib.hid hsz
      have hlen : cs.length = K.length := by rw [← hkeys, List.length_map]
      have HA := Lib.hid hans
      have HTok : Hid (tokV (S ++ ⟨#[59]⟩) ⟨0, [], kk, [59], [], e, cs⟩ = .agg #[.int .i64 kk, .string ⟨#[59]⟩, .int .i64 (atS (S ++ ⟨#[59]⟩) [59] : Nat), .int .i64 (atS (S ++ ⟨#[59]⟩) [] : Nat), .bool e]) := Lib.hid (tok_ok rfl (by rfl) rfl rfl)
      have HN := Lib.hid hlen
      have HKs := Lib.hid hkeys
      obtain ⟨nc, hnc⟩ : ∃ n, K.length = n := ⟨_, rfl⟩
      rw [hnc] at HN HU HOK HOT
      have HKn := Lib.hid hnc
      obtain ⟨F, hF⟩ : ∃ F, atS (S ++ ⟨#[59]⟩) [59] = F := ⟨_, rfl⟩
      obtain ⟨T, hT⟩ : ∃ T, atS (S ++ ⟨#[59]⟩) [] = T := ⟨_, rfl⟩
      rw [hF, hT] at HTok
      obtain ⟨ak, capk, rfl⟩ := owns_form HOK.out
      obtain ⟨at', capt, rfl⟩ := owns_form HOT.out
      have HTr := Lib.hid (HT.out.below HB.out)
      clear hans hkeys hlen hnc hF hT HC hsz hkl
      rcases hh with ⟨h1, h2⟩ | h1
      all_goals
        go_wp2_with fail
        clear hS hk
        generalize (S ++ ⟨#[59]⟩ : ByteArray) = U at *
        refine (next_gen U 1 1 _ _ 0 0 nc HA.out HTok.out (place_ok rfl) rfl HN.out _ HSz.out HTr.out).mono ?_
        rintro e2 w2 ⟨ao, cap, rfl, hr2, hb2⟩
        have HB2 := Lib.hid (bel_alloc (bel_trans HB.out hb2) (.cells #[.int .i64 kk, .string ⟨#[59]⟩, .int .i64 (F : Nat), .int .i64 (T : Nat), .bool e] 24))
        have HK2 := Lib.hid ((owns_on HOK.out hb2).alloc (.cells #[.int .i64 kk, .string ⟨#[59]⟩, .int .i64 (F : Nat), .int .i64 (T : Nat), .bool e] 24))
        have HT2 := Lib.hid ((owns_on HOT.out hb2).alloc (.cells #[.int .i64 kk, .string ⟨#[59]⟩, .int .i64 (F : Nat), .int .i64 (T : Nat), .bool e] 24))
        have HR2 := Lib.hid (hr2.alloc (.cells #[.int .i64 kk, .string ⟨#[59]⟩, .int .i64 (F : Nat), .int .i64 (T : Nat), .bool e] 24))
        obtain ⟨⟨c0, c1, c2, c3, c4⟩, f0, f1, f2, f3, f4⟩ := five_cells (tok_new w2 #[.int .i64 kk, .string ⟨#[59]⟩, .int .i64 (F : Nat), .int .i64 (T : Nat), .bool e] 24)
        clear hb2 hr2 h1
        go_wp2_with fail
        refine (num_any _ _).mono ?_
        rintro e3 w3 ⟨rfl, rfl⟩
        go_wp2_with fail
        generalize hw : w2.alloc _ = w5 at *
        clear hw c0 c1 c2 c3 c4 f0 f1 f2 f3 f4
        go_loopw [12] (fun i wr => ∃ j : Nat, j ≤ nc ∧ i = .int .i64 j ∧ Below w5.heap.size w5 wr) (fun i _ => nc - (intOf i).toNat)
        case atStart => exact ⟨0, Nat.zero_le _, rfl, Below.refl _ _⟩
        case round =>
          obtain ⟨j, hj, rfl, hbr⟩ := hrel
          have HBr := Lib.hid hbr
          clear hbr
          by_cases hjn : j < nc
          · obtain ⟨gc, cap1, hv1, _, _⟩ := HR2.out.form (by omega)
            obtain ⟨gk, cap2, hv2, _, _⟩ := HK2.out.form (by omega)
            obtain ⟨gt, cap3, hv3, _, _⟩ := HT2.out.form (by omega)
            injection hv1 with p1 _ q1
            injection hv2 with p2 _ q2
            injection hv3 with p3 _ q3
            subst p1 p2 p3 q1 q2 q3
            obtain ⟨c, hcj⟩ : ∃ c, cs[j]? = some c := ⟨_, List.getElem?_eq_getElem (by rw [HN.out]; exact hjn)⟩
            have hKj : K[j]? = some (keyC c) := by rw [← HKs.out, List.getElem?_map, hcj]; rfl
            obtain ⟨Y, hY⟩ : ∃ Y, Str.ofL (upTo c.fr c.to) = Y := ⟨_, rfl⟩
            have x0 : wr.cell? ⟨gc, j * 4, none⟩ = some (.int .i64 (c.kind : Nat)) := cel_on (by rw [Nat.mul_comm]; exact owns_cell HR2.out (g := gc) rfl (row_cat _ cs j c 0 _ hcj rfl)) HBr.out
            have x1 : wr.cell? ⟨gc, j * 4 + 1, none⟩ = some (.string Y) := cel_on (by rw [Nat.mul_comm, ← hY]; exact owns_cell HR2.out (g := gc) rfl (row_cat _ cs j c 1 _ hcj rfl)) HBr.out
            have y0 : wr.cell? ⟨gk, j, none⟩ = some (.int .i64 (c.kind : Nat)) := cel_on (owns_cell HK2.out (g := gk) rfl (by unfold kindsV; rw [List.getElem?_map, hKj]; rfl)) HBr.out
            have y1 : wr.cell? ⟨gt, j, none⟩ = some (.string Y) := cel_on (owns_cell HT2.out (g := gt) rfl (by unfold textsV; rw [List.getElem?_map, hKj, ← hY]; rfl)) HBr.out
            have hn20 : nc ≤ 20 := HU.out
            clear hcj hKj hY
            go_wp2_with fail
            go_quiet (fail)
            generalize hw6 : World.drewN _ _ = w6
            have HB6 : Hid (Below w5.heap.size w5 w6) := Lib.hid (hw6 ▸ below_drewN HBr.out _)
            clear hw6
            go_wp2_with fail
            go_roundw
            case rel => exact ⟨j + 1, by omega, by simp, HB6.out⟩
            case measure => simp [intOf]; omega
          · go_wp2_with fail
            go_ret
            exact ⟨rfl, bel_trans HB2.out HBr.out⟩

end Lex
end Go.Proofs.YtfnilkhccomemaaDoor
