/-
  The document's own Check; its All.
-/
import Derived.Test.YtddldddehgnobaaDoorStrParts
import Derived.Laws.AppendOwnNone
namespace Go.Proofs.YtddldddehgnobaaDoor
namespace Str
open Go.RowKit

set_option maxHeartbeats 1000000 in
theorem rcheck_any (s : ByteArray) (w : World) (hz : s.size ≤ 16777216) : Calls Tryd.prog 11 #[.string s] w (Checked s w) := by
  have hC := parts_any s w hz
  have HC := Lib.hid hC
  clear hC
  go_enter Tryd.func11, Tryd.ntmps11
  go_wp2_with fail
  refine HC.out.mono ?_
  rintro e w1 ⟨h, hb⟩
  have HB := Lib.hid hb
  clear hb
  rcases h with ⟨h1, rfl⟩ | ⟨ps, v, xs, h1, rfl, h3, h4⟩
  · have H1 := Lib.hid h1
    clear h1
    go_wp2_with fail
    go_ret2
    exact ⟨by unfold codeL; rw [H1.out]; rfl, HB.out⟩
  · have H1 : Hid (litL s.data.toList = (0, some ps)) := Lib.hid (lit_inv _ _ h1).1
    clear h1 h3 h4
    go_wp2_with fail
    go_ret2
    exact ⟨by rw [H1.out]; rfl, HB.out⟩

theorem own_mono {B B' : Nat} {e : TypeId} {k : Nat} {v : Value} {n : Nat} {xs : List Value} {w : World} (h : w.ownsRow B e k v n xs) (hB : B' ≤ B) : w.ownsRow B' e k v n xs := by
  refine ⟨h.1, ?_⟩
  rcases h.2 with h1 | ⟨g, cap, cur, h1, h2, h3⟩
  · exact Or.inl h1
  · exact Or.inr ⟨g, cap, cur, h1, Nat.le_trans hB h2, h3⟩

/-- A part's four cells, by its number. -/
theorem PartsAt.at {w : World} : ∀ {xs : List Value} {i : Nat} {ps : List Piece}, PartsAt w xs i ps → ∀ qs p rs, ps = qs ++ p :: rs →
    ∃ (b : Option Addr) (n c : Nat) (ch : Int), xs[4 * qs.length]? = some (.int .i64 ((i + (bytesP qs).length : Nat) : Int)) ∧ xs[4 * qs.length + 1]? = some (.int .i64 ((i + (bytesP qs).length + p.1.length : Nat) : Int)) ∧
      xs[4 * qs.length + 2]? = some (.slice b n c) ∧ xs[4 * qs.length + 3]? = some (.int .i64 ch) ∧ IntsAt w (.slice b n c) (uOf p.2) ∧ (ch = 39 ↔ p.1 = [92, 39]) ∧ (ch = 34 ↔ p.1 = [92, 34])
  | _, i, _, h, [], p, rs, e => by
    subst e
    obtain ⟨b, n, c, ch, rest, e1, e2, e3, e4, _⟩ := h
    subst e1
    exact ⟨b, n, c, ch, by simp [bytesP], by simp [bytesP], by simp, by simp, e2, e3, e4⟩
  | _, i, _, h, q :: qs, p, rs, e => by
    subst e
    obtain ⟨_, _, _, _, rest, e1, _, _, _, e5⟩ := h
    subst e1
    obtain ⟨b, n, c, ch, h1, h2, h3, h4, h5, h6, h7⟩ := PartsAt.at e5 qs p rs rfl
    refine ⟨b, n, c, ch, ?_, ?_, ?_, ?_, h5, h6, h7⟩
    · rw [bytesP_cons, List.length_append, ← Nat.add_assoc, ← h1, List.length_cons, show 4 * (qs.length + 1) = 4 * qs.length + 4 by omega]; simp
    · rw [bytesP_cons, List.length_append, ← Nat.add_assoc, ← h2, List.length_cons, show 4 * (qs.length + 1) + 1 = 4 * qs.length + 1 + 4 by omega]; simp
    · rw [← h3, List.length_cons, show 4 * (qs.length + 1) + 2 = 4 * qs.length + 2 + 4 by omega]; simp
    · rw [← h4, List.length_cons, show 4 * (qs.length + 1) + 3 = 4 * qs.length + 3 + 4 by omega]; simp
/-- A row's cell. -/
theorem own_cell {B : Nat} {e : TypeId} {g cap n : Nat} {xs : List Value} {w : World} (h : w.ownsRow B e 4 (.slice (some ⟨g, 0, none⟩) n cap) n xs) (j : Nat) (u : Value) (hj : xs[j]? = some u) : w.cell? ⟨g, j, none⟩ = some u := by
  have := h.cellAt j (by rw [← h.1]; exact (List.getElem?_eq_some_iff.1 hj).1)
  rw [this, hj]

theorem addr_add (g j : Nat) : (⟨g, 0, none⟩ : Addr).add j = ⟨g, j, none⟩ := by
  by_cases h : j = 0
  · subst h; simp [Addr.add]
  · simp [Addr.add, h]
theorem parts_len (ps : List Piece) (h : ∀ p ∈ ps, p.1 ≠ []) : ps.length ≤ (bytesP ps).length := by
  induction ps with
  | nil => exact Nat.le_refl _
  | cons p ps ih =>
    have h2 := ih (fun p' hp' => h p' (List.mem_cons_of_mem _ hp'))
    have h3 := pos_of_ne (h p (List.mem_cons_self ..))
    rw [bytesP_cons, List.length_append, List.length_cons]; omega

set_option maxHeartbeats 4000000 in
set_option maxRecDepth 20000 in
theorem all_ok (s : ByteArray) (w : World) (hz : s.size ≤ 16777216) : Calls Tryd.prog 15 #[.string s] w (UnitsR s w) := by
  have hC := parts_any s w hz
  have HC := Lib.hid hC
  clear hC
  go_enter Tryd.func15, Tryd.ntmps15
  go_wp2_with fail
  refine HC.out.mono ?_
  rintro e w1 ⟨h, hb⟩
  have HB := Lib.hid hb
  clear hb
  rcases h with ⟨h1, rfl⟩ | ⟨ps, v, xs, h1, rfl, h3, h4⟩
  · have H1 := Lib.hid h1
    clear h1
    go_wp2_with fail
    go_ret2
    exact ⟨Or.inl ⟨H1.out, rfl⟩, HB.out⟩
  · have H1 := Lib.hid h1
    have HO := Lib.hid h3
    have HP := Lib.hid h4
    clear h1 h3 h4
    go_wp2_with fail
    have hne : ps.length ≤ 16777216 := by
      obtain ⟨_, q, _, hs, hr, _⟩ := lit_inv _ _ H1.out
      have h1 := parts_len ps (row_ne _ _ hr)
      have h2 : s.size = (bytesP ps).length + 2 := by rw [Lib.size_eq, hs]; simp
      omega
    have hus : (usL ps).length ≤ 33554432 := by
      obtain ⟨_, q, _, hs, hr, _⟩ := lit_inv _ _ H1.out
      have h1 := usL_len ps (row_ne _ _ hr)
      have h2 : s.size = (bytesP ps).length + 2 := by rw [Lib.size_eq, hs]; simp
      omega
    have HUS := Lib.hid hus
    clear hus
    obtain ⟨i0, hi, hz0, hz1, hz2⟩ := info_parts int_info
    have hv : ∃ ao cv, v = .slice ao ps.length cv := by
      rcases HO.out.2 with ⟨h1, h2⟩ | ⟨g, cap, _, h1, _⟩
      · exact ⟨none, 0, by rw [h1, h2]⟩
      · exact ⟨_, _, h1⟩
    obtain ⟨ao, cv, rfl⟩ := hv
    go_loopw [6, 7] (fun out iv wr => ∃ qs rs : List Piece, ps = qs ++ rs ∧ iv = .int .i64 qs.length ∧ wr.ownsRow w1.heap.size 3 1 out (usL qs).length ((usL qs).map (Value.int .i64)) ∧ Below w1.heap.size w1 wr) (fun _ iv _ => ps.length - (intOf iv).toNat)
    case atStart => exact ⟨[], ps, rfl, rfl, World.ownsRow_nil _ _ _ _, Below.refl _ _⟩
    case round =>
      obtain ⟨qs, rs, hps, rfl, hown, hbel⟩ := hrel
      have HPS := Lib.hid hps
      have HOU := Lib.hid hown
      have HBE := Lib.hid hbel
      have hlen : qs.length + rs.length = ps.length := by rw [hps]; simp
      clear hps hown hbel
      cases rs with
      | nil =>
        have hge : ps.length ≤ qs.length := by simp at hlen; omega
        clear hlen
        go_wp2_with fail
        go_ret2
        have e : ps = qs := by have := HPS.out; rwa [List.append_nil] at this
        exact ⟨Or.inr ⟨ps, _, H1.out, rfl, by rw [e]; exact own_mono HOU.out HB.out.size⟩, HB.out.trans (HBE.out.mono HB.out.size)⟩
      | cons p rs =>
        have hlt : qs.length < ps.length := by simp at hlen; omega
        obtain ⟨b, n, c, ch, _, _, hx3, _, hx5, _, _⟩ := HP.out.at qs p rs HPS.out
        have hag : ∃ g, ao = some ⟨g, 0, none⟩ := by
          rcases HO.out.2 with ⟨h1, h2⟩ | ⟨g, cap, _, h1, _⟩
          · rw [h2] at hlt; omega
          · injection h1 with h1 _ _; exact ⟨g, h1⟩
        obtain ⟨g, rfl⟩ := hag
        have hcell : wr.cell? ⟨g, qs.length * 4 + 2, none⟩ = some (.slice b n c) := own_cell (own_below HO.out HBE.out) _ _ (by rw [Nat.mul_comm]; exact hx3)
        have hul : (usL qs).length + 2 ≤ 67108864 := by
          have := HUS.out
          rw [HPS.out, usL_app, List.length_append] at this
          omega
        have hI := hx5.keep HBE.out
        have e1 : usL (qs ++ [p]) = usL qs ++ uOf p.2 := by simp [usL]
        have HE1 := Lib.hid e1
        have hul2 := uOf_len p.2
        clear hx3 hx5 hlen e1
        rcases hI with ⟨hI1, hI2⟩ | ⟨g', c', cs, fr, hI1, hI2, hI3⟩
        · injection hI1 with hb hn hc
          subst hb; subst hn; subst hc
          have HU0 := Lib.hid hI2
          clear hI2
          go_wp2_with (first
            | (at_builtin; refine wpList_append_own_none rfl _ _ 30 rfl w1.heap.size 3 i0 1 Tryd.underlying30 hi _ (usL qs).length ((usL qs).map (Value.int .i64)) rfl HOU.out rfl ?_))
          go_roundw
          case rel =>
            refine ⟨qs ++ [p], rs, by rw [HPS.out]; simp, by rw [List.length_append]; simp, ?_, HBE.out⟩
            rw [HE1.out, HU0.out, List.append_nil]; exact HOU.out
          case measure => simp [intOf]; omega
        · injection hI1 with hb hn hc
          subst hb; subst hn; subst hc
          have hcells : ∀ j u, ((uOf p.2).map (Value.int .i64))[j]? = some u → wr.cell? ((⟨g', 0, none⟩ : Addr).add j) = some u := by
            intro j u hj
            rw [List.getElem?_map] at hj
            cases hu : (uOf p.2)[j]? with
            | none => rw [hu] at hj; cases hj
            | some z =>
              rw [hu] at hj
              injection hj with hj
              subst hj
              have := hI3 j z hu
              rw [addr_add, blk_cell hI2]; exact this
          have HCells := Lib.hid hcells
          clear hI2 hI3 hcells
          obtain ⟨N, hN⟩ : ∃ N, (uOf p.2).length = N := ⟨_, rfl⟩
          have HN := Lib.hid hN
          rw [hN] at hcell hul2
          clear hN
          go_wp2_with (first
            | (at_builtin; refine wpList_append_own _ rfl _ _ 30 rfl w1.heap.size 3 i0 (.int .i64 0) 1 8 Tryd.underlying30 hi hz0 hz1 hz2 rfl (by decide) _ (usL qs).length ((usL qs).map (Value.int .i64)) rfl HOU.out ⟨g', 0, none⟩ N c ((uOf p.2).map (Value.int .i64)) rfl (by rw [List.length_map, HN.out, Nat.mul_one]) HCells.out (by intro x hx; obtain ⟨z, _, rfl⟩ := List.mem_map.1 hx; rfl) (by unfold maxLen; omega) (by omega) HBE.out.size ?_; intro v' w3 hown' hgrow3 hnil3; have HG3 := Lib.hid hgrow3; have HO3 := Lib.hid hown'; clear hown' hgrow3 hnil3))
          go_roundw
          case rel =>
            refine ⟨qs ++ [p], rs, by rw [HPS.out]; simp, by rw [List.length_append]; simp, ?_, HBE.out.grown HG3.out HBE.out.size (fun g hg => (HOU.out.lt g hg).1)⟩
            rw [HE1.out, List.length_append, HN.out, List.map_append]; exact HO3.out
          case measure => simp [intOf]; omega

end Str
end Go.Proofs.YtddldddehgnobaaDoor
