/-
  The law on a text that is cut anywhere: the walk.
-/
import Derived.Test.YtpolgmjikelmiaaUniAwake
import Derived.Test.YtpolgmjikelmiaaUniCutPlain
import Derived.OpenShut
namespace Go.Proofs.Ytpolgmjikelmiaa
namespace Uni
open Go.RowKit

theorem info_rune : (Try.prog.info? 21).map (fun i => (i.zero, i.size, i.bytes)) = some (some (.int .i32 0), 1, 4) := by kernel_rfl

theorem own_string {w : World} {B n : Nat} {v : Value} {zs : List Int} (h : w.ownsRow B 21 1 v n (zs.map (Value.int .i32))) :
    (convert 36 9 v).run Try.prog w = .ok (.string (runesBytes zs)) w := by
  have hl : zs.length = n := by have := h.1; simpa using this
  rcases h.2 with ⟨rfl, rfl⟩ | ⟨g, cap, cur, rfl, _, hg, _, _, _, htake⟩
  · obtain rfl : zs = [] := List.length_eq_zero_iff.1 hl
    exact run_convert_runes_nil w _ _ 21 0 0 Try.underlying36 Try.underlying21 Try.underlying9
  · have hc : ∀ j, j < zs.length → w.cell? ((⟨g, 0, none⟩ : Addr).add j) = some (.int .i32 (zs.getD j 0)) := by
      intro j hj
      have := h.cellAt j (by omega)
      rw [show (⟨g, 0, none⟩ : Addr).add j = ⟨g, j, none⟩ from by simp [Addr.add]; omega, this]
      simp [hj, List.getD]
    have := run_convert_runes (P := Try.prog) w 36 9 21 (some ⟨g, 0, none⟩ : Option Addr).get! n cap zs (by omega) Try.underlying36 Try.underlying21 Try.underlying9 hc
    rw [show zs.take n = zs from by rw [← hl]; exact List.take_length] at this
    exact this

theorem runes_size (zs : List Int) (h : zs.length ≤ 50) : (runesBytes zs).size ≤ 200 := by
  have := runesBytes_size_le zs; omega

theorem mod_plane (x : Int) : 0 ≤ (IntKind.u64.wrap x).tmod 1114112 ∧ (IntKind.u64.wrap x).tmod 1114112 < 1114112 := by
  have h : 0 ≤ IntKind.u64.wrap x := by rw [IntKind.wrap_u64]; omega
  rw [Int.tmod_eq_emod_of_nonneg h]
  exact ⟨Int.emod_nonneg _ (by omega), Int.emod_lt_of_pos _ (by omega)⟩

theorem mod_cut (x : Int) (n : Nat) : ∃ k : Nat, k ≤ n ∧ (IntKind.u64.wrap x).tmod ((n : Int) + 1) = k := by
  have h : 0 ≤ IntKind.u64.wrap x := by rw [IntKind.wrap_u64]; omega
  have h1 := Int.emod_nonneg (IntKind.u64.wrap x) (by omega : ((n : Int) + 1) ≠ 0)
  have h2 := Int.emod_lt_of_pos (IntKind.u64.wrap x) (by omega : 0 < ((n : Int) + 1))
  refine ⟨((IntKind.u64.wrap x) % ((n : Int) + 1)).toNat, by omega, ?_⟩
  rw [Int.tmod_eq_emod_of_nonneg h]
  omega

theorem valid_low (m : Int) (h0 : 0 ≤ m) (h : m < 55296) : Utf8.valid m = true := by simp [Utf8.valid]; omega
theorem valid_high (m : Int) (h0 : 57343 < m) (h : m < 1114112) : Utf8.valid m = true := by simp [Utf8.valid]; omega

theorem mem_snoc {P : Int → Prop} {zs : List Int} {m : Int} (h : ∀ z ∈ zs, P z) (hm : P m) : ∀ z ∈ zs ++ [m], P z := by
  intro z hz
  rcases List.mem_append.1 hz with h1 | h1
  · exact h z h1
  · rw [List.mem_singleton.1 h1]; exact hm


set_option maxHeartbeats 4000000 in
set_option maxRecDepth 100000 in
theorem unicuts_some (b off len cap : Nat) (z : List Int) (a : Int) (w : World) (hl : len ≤ z.length) (hm : len ≤ maxLen)
    (hc : ∀ j, j < z.length → w.cell? ⟨b, off + j, none⟩ = some (.int .i64 (z.getD j 0))) (hbw : 0 < len → b < w.heap.size) :
    Calls Try.prog 9 #[.slice (some ⟨b, off, none⟩) len cap, .int .i64 a] w fun e w' => e = .returned (.bool true) ∧ Below w.heap.size w w' := by
  unfold maxLen at hm
  obtain ⟨i0, hi, hz0, hz1, hz2⟩ := info_parts info_rune
  go_enter Try.func9, Try.ntmps9
  go_wp2_with fail
  refine (awake_any w).mono ?_
  rintro e w1 ⟨rfl, hb1⟩
  go_wp2_with fail
  go_loopw [5, 6, 7] (fun v i _ wr => ∃ (k : Nat) (zs : List Int), k ≤ len ∧ k ≤ 50 ∧ i = .int .i64 k ∧ zs.length = k ∧ (∀ x ∈ zs, Utf8.valid x = true) ∧ wr.ownsRow w.heap.size 21 1 v k (zs.map (Value.int .i32)) ∧ Below w.heap.size w wr) (fun _ i _ _ => len - (intOf i).toNat)
  case atStart => exact ⟨0, [], by omega, by omega, rfl, rfl, by simp, World.ownsRow_nil _ _ _ _, hb1⟩
  case round =>
    obtain ⟨k, zs, hk, hk50, rfl, hzl, hzv, hown, hnx⟩ := hrel
    have Hz := Lib.hid hzv
    have Hl := Lib.hid hzl
    clear hzv hzl
    by_cases hlt : k < len
    · by_cases hlt2 : k < 50
      · have hcx : wr.cell? ⟨b, off + k, none⟩ = some (.int .i64 (z.getD k 0)) := (hnx.cell (hbw (by omega))).trans (hc k (by omega))
        have hmod := mod_plane (z.getD k 0)
        generalize z.getD k 0 = q at hcx hmod
        clear hc hb1
        generalize hm' : (IntKind.u64.wrap q).tmod 1114112 = m at hmod
        obtain ⟨m0, m1⟩ := hmod
        by_cases s1 : 55296 ≤ m
        · by_cases s2 : m ≤ 57343
          · go_wp2_with (at_builtin; refine wpList_append_own _ rfl _ _ 36 rfl w.heap.size 21 i0 (.int .i32 0) 1 4 Try.underlying36 hi hz0 hz1 hz2 rfl (by decide) _ _ _ rfl (hown.alloc _) ⟨wr.heap.size, 0, none⟩ 1 1 [.int .i32 (120)] rfl rfl ?c1a ?c2a ?c3a ?c4a ?c5a ?_)
            case c1a =>
              intro j u hj
              match j, hj with
              | 0, hj => simp at hj; subst hj; simp [Addr.add]
            case c2a => first | rfl | (intro u hu; simp at hu; subst hu; rfl)
            case c3a => unfold maxLen; omega
            case c4a => omega
            case c5a => have := hnx.size; simp; omega
            intro v' w2 hown' hgrow _
            have hnx2 : Below w.heap.size w w2 := (hnx.alloc hnx.size _).grown hgrow (by have := hnx.size; simp; omega) (fun x hx => (hown.lt x hx).1)
            have Hv := Lib.hid (mem_snoc (m := 120) (P := fun x => Utf8.valid x = true) Hz.out (by decide))
            clear hgrow hown
            go_wp2_with fail
            go_roundw
            case rel => exact ⟨k + 1, zs ++ [120], by omega, by omega, by go_num, by simp [Hl.out], Hv.out, by simpa using hown', hnx2⟩
            case measure => simp [intOf]; omega

          · go_wp2_with (at_builtin; refine wpList_append_own _ rfl _ _ 36 rfl w.heap.size 21 i0 (.int .i32 0) 1 4 Try.underlying36 hi hz0 hz1 hz2 rfl (by decide) _ _ _ rfl (hown.alloc _) ⟨wr.heap.size, 0, none⟩ 1 1 [.int .i32 (m)] rfl rfl ?c1b ?c2b ?c3b ?c4b ?c5b ?_)
            case c2b => first | rfl | (intro u hu; simp at hu; subst hu; rfl)
            case c3b => unfold maxLen; omega
            case c4b => omega
            case c5b => have := hnx.size; simp; omega
            intro v' w2 hown' hgrow _
            have hnx2 : Below w.heap.size w w2 := (hnx.alloc hnx.size _).grown hgrow (by have := hnx.size; simp; omega) (fun x hx => (hown.lt x hx).1)
            have Hv := Lib.hid (mem_snoc (m := m) (P := fun x => Utf8.valid x = true) Hz.out (valid_high m (by omega) m1))
            clear hgrow hown
            go_wp2_with fail
            go_roundw
            case rel => exact ⟨k + 1, zs ++ [m], by omega, by omega, by go_num, by simp [Hl.out], Hv.out, by simpa using hown', hnx2⟩
            case measure => simp [intOf]; omega

        · go_wp2_with (at_builtin; refine wpList_append_own _ rfl _ _ 36 rfl w.heap.size 21 i0 (.int .i32 0) 1 4 Try.underlying36 hi hz0 hz1 hz2 rfl (by decide) _ _ _ rfl (hown.alloc _) ⟨wr.heap.size, 0, none⟩ 1 1 [.int .i32 (m)] rfl rfl ?c1d ?c2d ?c3d ?c4d ?c5d ?_)
          case c2d => first | rfl | (intro u hu; simp at hu; subst hu; rfl)
          case c3d => unfold maxLen; omega
          case c4d => omega
          case c5d => have := hnx.size; simp; omega
          intro v' w2 hown' hgrow _
          have hnx2 : Below w.heap.size w w2 := (hnx.alloc hnx.size _).grown hgrow (by have := hnx.size; simp; omega) (fun x hx => (hown.lt x hx).1)
          have Hv := Lib.hid (mem_snoc (m := m) (P := fun x => Utf8.valid x = true) Hz.out (valid_low m m0 (by omega)))
          clear hgrow hown
          go_wp2_with fail
          go_roundw
          case rel => exact ⟨k + 1, zs ++ [m], by omega, by omega, by go_num, by simp [Hl.out], Hv.out, by simpa using hown', hnx2⟩
          case measure => simp [intOf]; omega

      · have hzl := Hl.out
        have hcv := own_string hown
        have hsz := runes_size zs (by omega)
        have Hg := Lib.hid (runes_good zs Hz.out)
        clear hown Hz Hl hc hb1
        generalize runesBytes zs = s at hcv hsz Hg
        have Hc := Lib.hid (code_none s Hg.out)
        go_wp2_with fail
        refine (valid_any s wr (by unfold maxLen; omega)).mono ?_
        rintro e w3 ⟨rfl, hb3⟩
        rw [Hc.out.1, Hc.out.2]
        have hc3 := hnx.trans (hb3.mono hnx.size)
        obtain ⟨c, hc1, hmod⟩ := mod_cut a s.size
        go_wp2_with fail
        refine (valid_any (s.extract 0 c) w3 (by simp [maxLen]; omega)).mono ?_
        rintro e w4 ⟨rfl, hb4⟩
        have hc4 := hc3.trans (hb4.mono hc3.size)
        have hg := Hg.out
        clear hcv hb3 hc3 hnx Hg
        go_wp2
        clear hmod
        go_loopw [14, 15] (fun v _ wx => ∃ x p : Nat, v = .int .i64 x ∧ Begin s c x p ∧ wx.heap[w4.heap.size]? = some (.stringIter s p) ∧ Below w.heap.size w wx) (fun _ _ wx => s.size - wx.iterPos w4.heap.size)
        case atStart => exact ⟨0, 0, rfl, begin_start s c hg, World.iter_heap w4 s 0, hc4.alloc hc4.size _⟩
        case round =>
          obtain ⟨x, p, rfl, hbg, hk, hwx⟩ := hrel
          clear hg
          have Hbg := Lib.hid hbg
          have hxc : x ≤ c := hbg.1
          have hps : p ≤ s.size := hbg.2.2.2.1
          clear hbg
          have Hk := Lib.hid hk
          have Hp := Lib.hid (iterPos_of hk)
          by_cases hlt : p < s.size
          · have hn := fun ty => Lib.run_next_any_at (P := Try.prog) wr w4.heap.size s p ty hk hlt
            clear hk
            have hp := step_pos s p
            have Hit := Lib.hid (Lib.iterAt_heap wr w4.heap.size s p (p + (Utf8.decode s p).2) Hk.out)
            have Hbi := below_iterAt hwx w4.heap.size hc4.size s (p + (Utf8.decode s p).2)
            have Hp3 := Lib.hid (iterPos_of Hit.out)
            have hd := decode_le s p
            by_cases hpc : p ≤ c
            · have Hnew := Lib.hid (begin_near s c x p hc1 Hbg.out hlt hpc)
              go_wp2_with fail
              go_roundw
              case rel => exact ⟨p, p + (Utf8.decode s p).2, rfl, Hnew.out, Hit.out, Hbi⟩
              case measure => rw [Hp3.out, Hp.out]; omega
            · have Hnew := Lib.hid (begin_far s c x p Hbg.out hlt hpc)
              go_wp2_with fail
              go_roundw
              case rel => exact ⟨x, p + (Utf8.decode s p).2, rfl, Hnew.out, Hit.out, Hbi⟩
              case measure => rw [Hp3.out, Hp.out]; omega
          · obtain rfl : p = s.size := by omega
            have hn := fun ty => Lib.run_next_end_at (P := Try.prog) wr w4.heap.size s s.size ty hk hlt
            clear hk
            by_cases hcs : c = s.size
            · subst hcs
              have Hx : Hid (badCode s = 0) := Lib.hid Hc.out.1
              go_wp2_with fail
              refine (num_any _ wr).mono ?_
              rintro e w5 ⟨rfl, rfl⟩
              go_wp2_with fail
              refine (num_any _ wr).mono ?_
              rintro e w5 ⟨rfl, rfl⟩
              rw [Hx.out]
              go_wp2_with fail
              go_ret
              exact ⟨rfl, hwx⟩
            · have hcs1 : ((c : Int) == (s.size : Int)) = false := beq_eq_false_iff_ne.2 (by omega)
              by_cases hxe : x = c
              · subst hxe
                have Hx : Hid (badCode (s.extract 0 x) = 0) := Lib.hid (code_none _ (begin_end_at s x s.size hc1 Hbg.out)).1
                clear hcs
                go_wp2_with fail
                refine (num_any _ wr).mono ?_
                rintro e w5 ⟨rfl, rfl⟩
                go_wp2_with fail
                refine (num_any _ wr).mono ?_
                rintro e w5 ⟨rfl, rfl⟩
                rw [Hx.out]
                go_wp2_with fail
                go_ret
                exact ⟨rfl, hwx⟩
              · have hxe1 : ((x : Int) == (c : Int)) = false := beq_eq_false_iff_ne.2 (by omega)
                have Hx := Lib.hid (code_some _ x (begin_end_in s c x (by omega) Hbg.out hxe))
                clear hcs hxe
                go_wp2_with fail
                refine (num_any _ wr).mono ?_
                rintro e w5 ⟨rfl, rfl⟩
                go_wp2_with fail
                refine (num_any _ wr).mono ?_
                rintro e w5 ⟨rfl, rfl⟩
                rw [Hx.out.1]
                go_wp2_with fail
                go_ret
                exact ⟨ret_bool (by rw [Hx.out.2.1]; simp), hwx⟩
    · have hzl := Hl.out
      have hcv := own_string hown
      have hsz := runes_size zs (by omega)
      have Hg := Lib.hid (runes_good zs Hz.out)
      clear hown Hz Hl hc hb1
      generalize runesBytes zs = s at hcv hsz Hg
      have Hc := Lib.hid (code_none s Hg.out)
      go_wp2_with fail
      refine (valid_any s wr (by unfold maxLen; omega)).mono ?_
      rintro e w3 ⟨rfl, hb3⟩
      rw [Hc.out.1, Hc.out.2]
      have hc3 := hnx.trans (hb3.mono hnx.size)
      obtain ⟨c, hc1, hmod⟩ := mod_cut a s.size
      go_wp2_with fail
      refine (valid_any (s.extract 0 c) w3 (by simp [maxLen]; omega)).mono ?_
      rintro e w4 ⟨rfl, hb4⟩
      have hc4 := hc3.trans (hb4.mono hc3.size)
      have hg := Hg.out
      clear hcv hb3 hc3 hnx Hg
      go_wp2
      clear hmod
      go_loopw [14, 15] (fun v _ wx => ∃ x p : Nat, v = .int .i64 x ∧ Begin s c x p ∧ wx.heap[w4.heap.size]? = some (.stringIter s p) ∧ Below w.heap.size w wx) (fun _ _ wx => s.size - wx.iterPos w4.heap.size)
      case atStart => exact ⟨0, 0, rfl, begin_start s c hg, World.iter_heap w4 s 0, hc4.alloc hc4.size _⟩
      case round =>
        obtain ⟨x, p, rfl, hbg, hk, hwx⟩ := hrel
        clear hg
        have Hbg := Lib.hid hbg
        have hxc : x ≤ c := hbg.1
        have hps : p ≤ s.size := hbg.2.2.2.1
        clear hbg
        have Hk := Lib.hid hk
        have Hp := Lib.hid (iterPos_of hk)
        by_cases hlt : p < s.size
        · have hn := fun ty => Lib.run_next_any_at (P := Try.prog) wr w4.heap.size s p ty hk hlt
          clear hk
          have hp := step_pos s p
          have Hit := Lib.hid (Lib.iterAt_heap wr w4.heap.size s p (p + (Utf8.decode s p).2) Hk.out)
          have Hbi := below_iterAt hwx w4.heap.size hc4.size s (p + (Utf8.decode s p).2)
          have Hp3 := Lib.hid (iterPos_of Hit.out)
          have hd := decode_le s p
          by_cases hpc : p ≤ c
          · have Hnew := Lib.hid (begin_near s c x p hc1 Hbg.out hlt hpc)
            go_wp2_with fail
            go_roundw
            case rel => exact ⟨p, p + (Utf8.decode s p).2, rfl, Hnew.out, Hit.out, Hbi⟩
            case measure => rw [Hp3.out, Hp.out]; omega
          · have Hnew := Lib.hid (begin_far s c x p Hbg.out hlt hpc)
            go_wp2_with fail
            go_roundw
            case rel => exact ⟨x, p + (Utf8.decode s p).2, rfl, Hnew.out, Hit.out, Hbi⟩
            case measure => rw [Hp3.out, Hp.out]; omega
        · obtain rfl : p = s.size := by omega
          have hn := fun ty => Lib.run_next_end_at (P := Try.prog) wr w4.heap.size s s.size ty hk hlt
          clear hk
          by_cases hcs : c = s.size
          · subst hcs
            have Hx : Hid (badCode s = 0) := Lib.hid Hc.out.1
            go_wp2_with fail
            refine (num_any _ wr).mono ?_
            rintro e w5 ⟨rfl, rfl⟩
            go_wp2_with fail
            refine (num_any _ wr).mono ?_
            rintro e w5 ⟨rfl, rfl⟩
            rw [Hx.out]
            go_wp2_with fail
            go_ret
            exact ⟨rfl, hwx⟩
          · have hcs1 : ((c : Int) == (s.size : Int)) = false := beq_eq_false_iff_ne.2 (by omega)
            by_cases hxe : x = c
            · subst hxe
              have Hx : Hid (badCode (s.extract 0 x) = 0) := Lib.hid (code_none _ (begin_end_at s x s.size hc1 Hbg.out)).1
              clear hcs
              go_wp2_with fail
              refine (num_any _ wr).mono ?_
              rintro e w5 ⟨rfl, rfl⟩
              go_wp2_with fail
              refine (num_any _ wr).mono ?_
              rintro e w5 ⟨rfl, rfl⟩
              rw [Hx.out]
              go_wp2_with fail
              go_ret
              exact ⟨rfl, hwx⟩
            · have hxe1 : ((x : Int) == (c : Int)) = false := beq_eq_false_iff_ne.2 (by omega)
              have Hx := Lib.hid (code_some _ x (begin_end_in s c x (by omega) Hbg.out hxe))
              clear hcs hxe
              go_wp2_with fail
              refine (num_any _ wr).mono ?_
              rintro e w5 ⟨rfl, rfl⟩
              go_wp2_with fail
              refine (num_any _ wr).mono ?_
              rintro e w5 ⟨rfl, rfl⟩
              rw [Hx.out.1]
              go_wp2_with fail
              go_ret
              exact ⟨ret_bool (by rw [Hx.out.2.1]; simp), hwx⟩

set_option maxHeartbeats 4000000 in
set_option maxRecDepth 100000 in
theorem unicuts_none (a0 : Option Addr) (cap : Nat) (a : Int) (w : World) :
    Calls Try.prog 9 #[.slice a0 0 cap, .int .i64 a] w fun e w' => e = .returned (.bool true) ∧ Below w.heap.size w w' := by
  go_enter Try.func9, Try.ntmps9
  go_wp2_with fail
  refine (awake_any w).mono ?_
  rintro e w1 ⟨rfl, hb1⟩
  go_wp2_with fail
  go_loopw [5, 6, 7] (fun v i _ wr => i = .int .i64 0 ∧ wr.ownsRow w.heap.size 21 1 v 0 (([] : List Int).map (Value.int .i32)) ∧ Below w.heap.size w wr) (fun _ i _ _ => 0)
  case atStart => exact ⟨rfl, World.ownsRow_nil _ _ _ _, hb1⟩
  case round =>
    obtain ⟨rfl, hown, hnx⟩ := hrel
    have hcv := own_string hown
    have hsz := runes_size [] (by decide)
    have Hg := Lib.hid (runes_good [] (by simp))
    clear hown hb1
    generalize runesBytes [] = s at hcv hsz Hg
    have Hc := Lib.hid (code_none s Hg.out)
    go_wp2_with fail
    refine (valid_any s wr (by unfold maxLen; omega)).mono ?_
    rintro e w3 ⟨rfl, hb3⟩
    rw [Hc.out.1, Hc.out.2]
    have hc3 := hnx.trans (hb3.mono hnx.size)
    obtain ⟨c, hc1, hmod⟩ := mod_cut a s.size
    go_wp2_with fail
    refine (valid_any (s.extract 0 c) w3 (by simp [maxLen]; omega)).mono ?_
    rintro e w4 ⟨rfl, hb4⟩
    have hc4 := hc3.trans (hb4.mono hc3.size)
    have hg := Hg.out
    clear hcv hb3 hc3 hnx Hg
    go_wp2
    clear hmod
    go_loopw [14, 15] (fun v _ wx => ∃ x p : Nat, v = .int .i64 x ∧ Begin s c x p ∧ wx.heap[w4.heap.size]? = some (.stringIter s p) ∧ Below w.heap.size w wx) (fun _ _ wx => s.size - wx.iterPos w4.heap.size)
    case atStart => exact ⟨0, 0, rfl, begin_start s c hg, World.iter_heap w4 s 0, hc4.alloc hc4.size _⟩
    case round =>
      obtain ⟨x, p, rfl, hbg, hk, hwx⟩ := hrel
      clear hg
      have Hbg := Lib.hid hbg
      have hxc : x ≤ c := hbg.1
      have hps : p ≤ s.size := hbg.2.2.2.1
      clear hbg
      have Hk := Lib.hid hk
      have Hp := Lib.hid (iterPos_of hk)
      by_cases hlt : p < s.size
      · have hn := fun ty => Lib.run_next_any_at (P := Try.prog) wr w4.heap.size s p ty hk hlt
        clear hk
        have hp := step_pos s p
        have Hit := Lib.hid (Lib.iterAt_heap wr w4.heap.size s p (p + (Utf8.decode s p).2) Hk.out)
        have Hbi := below_iterAt hwx w4.heap.size hc4.size s (p + (Utf8.decode s p).2)
        have Hp3 := Lib.hid (iterPos_of Hit.out)
        have hd := decode_le s p
        by_cases hpc : p ≤ c
        · have Hnew := Lib.hid (begin_near s c x p hc1 Hbg.out hlt hpc)
          go_wp2_with fail
          go_roundw
          case rel => exact ⟨p, p + (Utf8.decode s p).2, rfl, Hnew.out, Hit.out, Hbi⟩
          case measure => rw [Hp3.out, Hp.out]; omega
        · have Hnew := Lib.hid (begin_far s c x p Hbg.out hlt hpc)
          go_wp2_with fail
          go_roundw
          case rel => exact ⟨x, p + (Utf8.decode s p).2, rfl, Hnew.out, Hit.out, Hbi⟩
          case measure => rw [Hp3.out, Hp.out]; omega
      · obtain rfl : p = s.size := by omega
        have hn := fun ty => Lib.run_next_end_at (P := Try.prog) wr w4.heap.size s s.size ty hk hlt
        clear hk
        by_cases hcs : c = s.size
        · subst hcs
          have Hx : Hid (badCode s = 0) := Lib.hid Hc.out.1
          go_wp2_with fail
          refine (num_any _ wr).mono ?_
          rintro e w5 ⟨rfl, rfl⟩
          go_wp2_with fail
          refine (num_any _ wr).mono ?_
          rintro e w5 ⟨rfl, rfl⟩
          rw [Hx.out]
          go_wp2_with fail
          go_ret
          exact ⟨rfl, hwx⟩
        · have hcs1 : ((c : Int) == (s.size : Int)) = false := beq_eq_false_iff_ne.2 (by omega)
          by_cases hxe : x = c
          · subst hxe
            have Hx : Hid (badCode (s.extract 0 x) = 0) := Lib.hid (code_none _ (begin_end_at s x s.size hc1 Hbg.out)).1
            clear hcs
            go_wp2_with fail
            refine (num_any _ wr).mono ?_
            rintro e w5 ⟨rfl, rfl⟩
            go_wp2_with fail
            refine (num_any _ wr).mono ?_
            rintro e w5 ⟨rfl, rfl⟩
            rw [Hx.out]
            go_wp2_with fail
            go_ret
            exact ⟨rfl, hwx⟩
          · have hxe1 : ((x : Int) == (c : Int)) = false := beq_eq_false_iff_ne.2 (by omega)
            have Hx := Lib.hid (code_some _ x (begin_end_in s c x (by omega) Hbg.out hxe))
            clear hcs hxe
            go_wp2_with fail
            refine (num_any _ wr).mono ?_
            rintro e w5 ⟨rfl, rfl⟩
            go_wp2_with fail
            refine (num_any _ wr).mono ?_
            rintro e w5 ⟨rfl, rfl⟩
            rw [Hx.out.1]
            go_wp2_with fail
            go_ret
            exact ⟨ret_bool (by rw [Hx.out.2.1]; simp), hwx⟩

/-- A slice of numbers that came in, or none. -/
theorem unicuts_any (a0 : Option Addr) (len cap : Nat) (z : List Int) (a : Int) (w : World)
    (h : (a0 = none ∧ len = 0 ∧ cap = 0 ∧ z = []) ∨ ∃ x, a0 = some x ∧ len ≤ cap ∧ cap ≤ maxLen ∧ z.length = cap ∧ (∀ i, i < z.length → w.cell? (x.add i) = some (.int .i64 (z.getD i 0))) ∧ ∀ n ∈ z, (Lit.int .i64 n).wf = true) :
    Calls Try.prog 9 #[.slice a0 len cap, .int .i64 a] w fun e w' => e = .returned (.bool true) ∧ Below w.heap.size w w' := by
  rcases h with ⟨rfl, rfl, rfl, rfl⟩ | ⟨x, rfl, h1, h2, h3, h4, _⟩
  · exact unicuts_none none 0 a w
  · by_cases h0 : len = 0
    · subst h0
      exact unicuts_none (some x) cap a w
    · obtain ⟨b, off, rfl, hc⟩ := ints_at h4 (by omega)
      refine unicuts_some b off len cap z a w (by omega) (by omega) hc fun _ => ?_
      have := hc 0 (by omega)
      exact World.block_lt_of_cell? w _ this

end Uni
end Go.Proofs.Ytpolgmjikelmiaa
