/-
  The walk of the law StrEscapes.
-/
import Derived.Test.YtddldddehgnobaaDoorStrLawC
import Derived.Test.YtddldddehgnobaaDoorStrLawD
namespace Go.Proofs.YtddldddehgnobaaDoor
namespace Str
open Go.RowKit

/-- What is written, part by part: a round's. -/
def chunks : List (List Piece) := [[([97], 97)], [([92, 110], 10)], [([92, 120, 55, 102], 127)], [([92, 117, 48, 48, 69, 57], 233)], [([92, 117, 123, 49, 70, 54, 48, 48, 125], 128512)], [([240, 159, 152, 128], 128512)], [([92, 10], -1)], [([92, 39], 39)], [([92, 34], 34)], [([92, 113], 113)], [([92, 48], 0), ([122], 122)], [([226, 128, 168], 8232)]]
theorem chunk_row (c : List Piece) (hc : c ∈ chunks) (m : List UInt8) : Row c m := by
  simp only [chunks, List.mem_cons, List.not_mem_nil, or_false] at hc
  rcases hc with rfl | rfl | rfl | rfl | rfl | rfl | rfl | rfl | rfl | rfl | rfl | rfl
  · exact ⟨by decide +kernel, ⟨fun e => by simp at e, fun e => by simp at e⟩, trivial⟩
  · exact ⟨by decide +kernel, ⟨fun e => by simp at e, fun e => by simp at e⟩, trivial⟩
  · exact ⟨by decide +kernel, ⟨fun e => by simp at e, fun e => by simp at e⟩, trivial⟩
  · exact ⟨by decide +kernel, ⟨fun e => by simp at e, fun e => by simp at e⟩, trivial⟩
  · exact ⟨by decide +kernel, ⟨fun e => by simp at e, fun e => by simp at e⟩, trivial⟩
  · exact ⟨by decide +kernel, ⟨fun e => by simp at e, fun e => by simp at e⟩, trivial⟩
  · exact ⟨by decide +kernel, ⟨fun e => by simp at e, fun e => by simp at e⟩, trivial⟩
  · exact ⟨by decide +kernel, ⟨fun e => by simp at e, fun e => by simp at e⟩, trivial⟩
  · exact ⟨by decide +kernel, ⟨fun e => by simp at e, fun e => by simp at e⟩, trivial⟩
  · exact ⟨by decide +kernel, ⟨fun e => by simp at e, fun e => by simp at e⟩, trivial⟩
  · exact ⟨by decide +kernel, ⟨fun _ => rfl, fun e => by simp at e⟩, by decide +kernel, ⟨fun e => by simp at e, fun e => by simp at e⟩, trivial⟩
  · exact ⟨by decide +kernel, ⟨fun e => by simp at e, fun e => by simp at e⟩, trivial⟩
theorem chunk_free : ∀ c ∈ chunks, ∀ p ∈ c, ¬ p.1.head? = some 39 ∧ ¬ p.1.head? = some 34 := by decide +kernel
theorem chunk_len : ∀ c ∈ chunks, (bytesP c).length ≤ 9 ∧ (usL c).length ≤ 2 := by decide +kernel
theorem chunks_row (m : List UInt8) : ∀ cs : List (List Piece), (∀ c ∈ cs, c ∈ chunks) → Row cs.flatten m
  | [], _ => trivial
  | c :: cs, h => by
    rw [List.flatten_cons]
    exact row_app m c cs.flatten (chunk_row c (h c (List.mem_cons_self ..)) _) (chunks_row m cs (fun c' hc' => h c' (List.mem_cons_of_mem _ hc')))
theorem chunks_len : ∀ cs : List (List Piece), (∀ c ∈ cs, c ∈ chunks) → (bytesP cs.flatten).length ≤ 9 * cs.length ∧ (usL cs.flatten).length ≤ 2 * cs.length
  | [], _ => ⟨Nat.le_refl _, Nat.le_refl _⟩
  | c :: cs, h => by
    have h1 := chunk_len c (h c (List.mem_cons_self ..))
    have h2 := chunks_len cs (fun c' hc' => h c' (List.mem_cons_of_mem _ hc'))
    rw [List.flatten_cons, bytesP_app, usL_app, List.length_append, List.length_append, List.length_cons]
    omega

/-- What is written so far, and what it stands for. -/
def Esc (k : Nat) (S : ByteArray) (us : List Int) : Prop := ∃ cs : List (List Piece), cs.length = k ∧ (∀ c ∈ cs, c ∈ chunks) ∧ S.data.toList = bytesP cs.flatten ∧ us = usL cs.flatten
theorem Esc.start : Esc 0 ⟨#[]⟩ [] := ⟨[], rfl, (fun _ hp => nomatch hp), rfl, rfl⟩
theorem Esc.add {k : Nat} {S : ByteArray} {us : List Int} (h : Esc k S us) (c : List Piece) (hc : c ∈ chunks) (b : List UInt8) (l : List Int) (e1 : bytesP c = b) (e2 : usL c = l) : Esc (k + 1) (S ++ ⟨b.toArray⟩) (us ++ l) := by
  obtain ⟨cs, h1, h2, h3, h4⟩ := h
  refine ⟨cs ++ [c], by simp [h1], fun c' hc' => ?_, ?_, ?_⟩
  · rcases List.mem_append.1 hc' with h' | h'
    · exact h2 c' h'
    · rw [List.mem_singleton.1 h']; exact hc
  · rw [List.flatten_append, bytesP_app, List.flatten_singleton, e1, ← h3]; simp
  · rw [List.flatten_append, usL_app, List.flatten_singleton, e2, ← h4]
theorem Esc.le {k : Nat} {S : ByteArray} {us : List Int} (h : Esc k S us) : S.size ≤ 9 * k ∧ us.length ≤ 2 * k := by
  obtain ⟨cs, h1, h2, h3, h4⟩ := h
  have := chunks_len cs h2
  rw [Lib.size_eq, h3, h4]
  omega
theorem Esc.units {k : Nat} {S : ByteArray} {us : List Int} (h : Esc k S us) (hk : k ≤ 40) (q : UInt8) (hq : q = 39 ∨ q = 34) (W : World) (hT : Tabs W) :
    Calls Tryd.prog 14 #[.string ((⟨#[q]⟩ ++ S) ++ ⟨#[q]⟩)] W fun e w' => ∃ v, e = .returned (.tuple #[v, .int .i64 0]) ∧ w'.ownsRow W.heap.size 3 1 v us.length (us.map (Value.int .i64)) ∧ Below W.heap.size W w' := by
  have hle := h.le.1
  obtain ⟨cs, h1, h2, h3, h4⟩ := h
  have hl : ((⟨#[q]⟩ ++ S) ++ ⟨#[q]⟩ : ByteArray).data.toList = q :: (S.data.toList ++ [q]) := by simp
  have hz : ((⟨#[q]⟩ ++ S) ++ ⟨#[q]⟩ : ByteArray).size ≤ 16777216 := by
    have h4 := Lib.size_eq S
    rw [Lib.size_eq, hl]
    simp only [List.length_cons, List.length_append, List.length_nil]
    omega
  have hlit := lit_of q hq cs.flatten (chunks_row _ cs h2) (fun p hp => by
    obtain ⟨c, hc, hp'⟩ := List.mem_flatten.1 hp
    have := chunk_free c (h2 c hc) p hp'
    rcases hq with rfl | rfl
    · exact this.1
    · exact this.2)
  rw [← h3, ← hl] at hlit
  rw [h4]
  exact units_some _ W hz hT _ (by rw [hlit])

set_option maxHeartbeats 8000000 in
set_option maxRecDepth 20000 in
theorem escapes_39 (a0 : Option Addr) (len0 cap0 : Nat) (w : World) (hp : ∀ k, k < len0 → ∃ x z, a0 = some x ∧ w.cell? (x.add k) = some (.int .i64 z) ∧ x.block < w.heap.size) (hT : Tabs w) :
    Calls Tryd.prog 8 #[.slice a0 len0 cap0, .bool true] w fun e w' => e = .returned (.bool true) ∧ Below w.heap.size w w' := by
  obtain ⟨i0, hi, hz0, hz1, hz2⟩ := info_parts int_info
  have HT := Lib.hid hT
  have HP := Lib.hid hp
  have h2 : 2 ≤ w.heap.size := hT.1
  clear hT hp
  go_enter Tryd.func8, Tryd.ntmps8
  go_wp2_with fail
  refine (awake_any w HT.out).mono ?_
  rintro e w0 ⟨rfl, hb0⟩
  have HB0 := Lib.hid hb0
  clear hb0
  go_wp2_with fail
  go_loopw [6, 7, 8, 9] (fun s v i _ wr => ∃ (k : Nat) (S : ByteArray) (us : List Int), k ≤ 40 ∧ k ≤ len0 ∧ s = .string S ∧ i = .int .i64 k ∧ Esc k S us ∧ wr.ownsRow w.heap.size 3 1 v us.length (us.map (Value.int .i64)) ∧ Below w.heap.size w wr) (fun _ _ i _ _ => 40 - (intOf i).toNat)
  case atStart => exact ⟨0, ⟨#[]⟩, [], by omega, by omega, rfl, rfl, Esc.start, World.ownsRow_nil _ _ _ _, HB0.out⟩
  case round =>
    obtain ⟨k, S, us, hk, hkl, rfl, rfl, hch, hown, hbel⟩ := hrel
    have HC := Lib.hid hch
    have HB := Lib.hid hbel
    have HO := Lib.hid hown
    obtain ⟨hS, hu⟩ := hch.le
    have HU : Hid (us.length ≤ 80) := Lib.hid (by omega)
    clear hch hbel hown hu
    by_cases hlt : k < len0
    · by_cases h40 : k < 40
      · obtain ⟨x, z, rfl, hcell, hx⟩ := HP.out k hlt
        have hcell' : wr.cell? (x.add k) = some (.int .i64 z) := by rw [HB.out.cell (p := x.add k) (by unfold Addr.add; split <;> exact hx)]; exact hcell
        clear hcell hx
        by_cases r0 : (IntKind.u64.wrap z).tmod 12 = 0
        · go_wp2_with (first | (at_builtin; refine wpList_append_own _ rfl _ _ 30 rfl w.heap.size 3 i0 (.int .i64 0) 1 8 Tryd.underlying30 hi hz0 hz1 hz2 rfl (by decide) _ us.length (us.map (Value.int .i64)) rfl (HO.out.alloc _) ⟨wr.heap.size, 0, none⟩ 1 1 [.int .i64 _] rfl rfl (cell_one_new _ _ _) (fun x hx => by simp at hx; subst hx; rfl) (by have := HU.out; unfold maxLen; omega) (by have := HU.out; omega) (by have := HB.out.size; simp; omega) ?_; intro v' w3 hown' hgrow' hnil'; have HO' := Lib.hid hown'; have HB' := Lib.hid ((HB.out.alloc HB.out.size _).grown hgrow' (by have := HB.out.size; simp; omega) (fun g hg => (HO.out.lt g hg).1)); clear hown' hgrow' hnil'))
          go_roundw
          case rel => exact ⟨k + 1, _, us ++ [97], by omega, by omega, rfl, rfl, HC.out.add [([97], 97)] (by decide +kernel) [97] [97] (by decide +kernel) (by decide +kernel), (by rw [List.map_append, List.length_append]; exact HO'.out), HB'.out⟩
          case measure => simp [intOf]; omega
        by_cases r1 : (IntKind.u64.wrap z).tmod 12 = 1
        · go_wp2_with (first | (at_builtin; refine wpList_append_own _ rfl _ _ 30 rfl w.heap.size 3 i0 (.int .i64 0) 1 8 Tryd.underlying30 hi hz0 hz1 hz2 rfl (by decide) _ us.length (us.map (Value.int .i64)) rfl (HO.out.alloc _) ⟨wr.heap.size, 0, none⟩ 1 1 [.int .i64 _] rfl rfl (cell_one_new _ _ _) (fun x hx => by simp at hx; subst hx; rfl) (by have := HU.out; unfold maxLen; omega) (by have := HU.out; omega) (by have := HB.out.size; simp; omega) ?_; intro v' w3 hown' hgrow' hnil'; have HO' := Lib.hid hown'; have HB' := Lib.hid ((HB.out.alloc HB.out.size _).grown hgrow' (by have := HB.out.size; simp; omega) (fun g hg => (HO.out.lt g hg).1)); clear hown' hgrow' hnil'))
          go_roundw
          case rel => exact ⟨k + 1, _, us ++ [10], by omega, by omega, rfl, rfl, HC.out.add [([92, 110], 10)] (by decide +kernel) [92, 110] [10] (by decide +kernel) (by decide +kernel), (by rw [List.map_append, List.length_append]; exact HO'.out), HB'.out⟩
          case measure => simp [intOf]; omega
        by_cases r2 : (IntKind.u64.wrap z).tmod 12 = 2
        · go_wp2_with (first | (at_builtin; refine wpList_append_own _ rfl _ _ 30 rfl w.heap.size 3 i0 (.int .i64 0) 1 8 Tryd.underlying30 hi hz0 hz1 hz2 rfl (by decide) _ us.length (us.map (Value.int .i64)) rfl (HO.out.alloc _) ⟨wr.heap.size, 0, none⟩ 1 1 [.int .i64 _] rfl rfl (cell_one_new _ _ _) (fun x hx => by simp at hx; subst hx; rfl) (by have := HU.out; unfold maxLen; omega) (by have := HU.out; omega) (by have := HB.out.size; simp; omega) ?_; intro v' w3 hown' hgrow' hnil'; have HO' := Lib.hid hown'; have HB' := Lib.hid ((HB.out.alloc HB.out.size _).grown hgrow' (by have := HB.out.size; simp; omega) (fun g hg => (HO.out.lt g hg).1)); clear hown' hgrow' hnil'))
          go_roundw
          case rel => exact ⟨k + 1, _, us ++ [127], by omega, by omega, rfl, rfl, HC.out.add [([92, 120, 55, 102], 127)] (by decide +kernel) [92, 120, 55, 102] [127] (by decide +kernel) (by decide +kernel), (by rw [List.map_append, List.length_append]; exact HO'.out), HB'.out⟩
          case measure => simp [intOf]; omega
        by_cases r3 : (IntKind.u64.wrap z).tmod 12 = 3
        · go_wp2_with (first | (at_builtin; refine wpList_append_own _ rfl _ _ 30 rfl w.heap.size 3 i0 (.int .i64 0) 1 8 Tryd.underlying30 hi hz0 hz1 hz2 rfl (by decide) _ us.length (us.map (Value.int .i64)) rfl (HO.out.alloc _) ⟨wr.heap.size, 0, none⟩ 1 1 [.int .i64 _] rfl rfl (cell_one_new _ _ _) (fun x hx => by simp at hx; subst hx; rfl) (by have := HU.out; unfold maxLen; omega) (by have := HU.out; omega) (by have := HB.out.size; simp; omega) ?_; intro v' w3 hown' hgrow' hnil'; have HO' := Lib.hid hown'; have HB' := Lib.hid ((HB.out.alloc HB.out.size _).grown hgrow' (by have := HB.out.size; simp; omega) (fun g hg => (HO.out.lt g hg).1)); clear hown' hgrow' hnil'))
          go_roundw
          case rel => exact ⟨k + 1, _, us ++ [233], by omega, by omega, rfl, rfl, HC.out.add [([92, 117, 48, 48, 69, 57], 233)] (by decide +kernel) [92, 117, 48, 48, 69, 57] [233] (by decide +kernel) (by decide +kernel), (by rw [List.map_append, List.length_append]; exact HO'.out), HB'.out⟩
          case measure => simp [intOf]; omega
        by_cases r4 : (IntKind.u64.wrap z).tmod 12 = 4
        · go_wp2_with (first | (at_builtin; refine wpList_append_own _ rfl _ _ 30 rfl w.heap.size 3 i0 (.int .i64 0) 1 8 Tryd.underlying30 hi hz0 hz1 hz2 rfl (by decide) _ us.length (us.map (Value.int .i64)) rfl (HO.out.alloc _) ⟨wr.heap.size, 0, none⟩ 2 2 [.int .i64 _, .int .i64 _] rfl rfl (cell_two_new _ _ _ _) (fun x hx => by simp at hx; rcases hx with rfl | rfl <;> rfl) (by have := HU.out; unfold maxLen; omega) (by have := HU.out; omega) (by have := HB.out.size; simp; omega) ?_; intro v' w3 hown' hgrow' hnil'; have HO' := Lib.hid hown'; have HB' := Lib.hid ((HB.out.alloc HB.out.size _).grown hgrow' (by have := HB.out.size; simp; omega) (fun g hg => (HO.out.lt g hg).1)); clear hown' hgrow' hnil'))
          go_roundw
          case rel => exact ⟨k + 1, _, us ++ [55357, 56832], by omega, by omega, rfl, rfl, HC.out.add [([92, 117, 123, 49, 70, 54, 48, 48, 125], 128512)] (by decide +kernel) [92, 117, 123, 49, 70, 54, 48, 48, 125] [55357, 56832] (by decide +kernel) (by decide +kernel), (by rw [List.map_append, List.length_append]; exact HO'.out), HB'.out⟩
          case measure => simp [intOf]; omega
        by_cases r5 : (IntKind.u64.wrap z).tmod 12 = 5
        · go_wp2_with (first | (at_builtin; refine wpList_append_own _ rfl _ _ 30 rfl w.heap.size 3 i0 (.int .i64 0) 1 8 Tryd.underlying30 hi hz0 hz1 hz2 rfl (by decide) _ us.length (us.map (Value.int .i64)) rfl (HO.out.alloc _) ⟨wr.heap.size, 0, none⟩ 2 2 [.int .i64 _, .int .i64 _] rfl rfl (cell_two_new _ _ _ _) (fun x hx => by simp at hx; rcases hx with rfl | rfl <;> rfl) (by have := HU.out; unfold maxLen; omega) (by have := HU.out; omega) (by have := HB.out.size; simp; omega) ?_; intro v' w3 hown' hgrow' hnil'; have HO' := Lib.hid hown'; have HB' := Lib.hid ((HB.out.alloc HB.out.size _).grown hgrow' (by have := HB.out.size; simp; omega) (fun g hg => (HO.out.lt g hg).1)); clear hown' hgrow' hnil'))
          go_roundw
          case rel => exact ⟨k + 1, _, us ++ [55357, 56832], by omega, by omega, rfl, rfl, HC.out.add [([240, 159, 152, 128], 128512)] (by decide +kernel) [240, 159, 152, 128] [55357, 56832] (by decide +kernel) (by decide +kernel), (by rw [List.map_append, List.length_append]; exact HO'.out), HB'.out⟩
          case measure => simp [intOf]; omega
        by_cases r6 : (IntKind.u64.wrap z).tmod 12 = 6
        · go_wp2_with fail
          go_roundw
          case rel => exact ⟨k + 1, _, us, by omega, by omega, rfl, rfl, (by have h := HC.out.add [([92, 10], -1)] (by decide +kernel) [92, 10] [] (by decide +kernel) (by decide +kernel); rw [List.append_nil] at h; exact h), HO.out, HB.out⟩
          case measure => simp [intOf]; omega
        by_cases r7 : (IntKind.u64.wrap z).tmod 12 = 7
        · go_wp2_with (first | (at_builtin; refine wpList_append_own _ rfl _ _ 30 rfl w.heap.size 3 i0 (.int .i64 0) 1 8 Tryd.underlying30 hi hz0 hz1 hz2 rfl (by decide) _ us.length (us.map (Value.int .i64)) rfl (HO.out.alloc _) ⟨wr.heap.size, 0, none⟩ 1 1 [.int .i64 _] rfl rfl (cell_one_new _ _ _) (fun x hx => by simp at hx; subst hx; rfl) (by have := HU.out; unfold maxLen; omega) (by have := HU.out; omega) (by have := HB.out.size; simp; omega) ?_; intro v' w3 hown' hgrow' hnil'; have HO' := Lib.hid hown'; have HB' := Lib.hid ((HB.out.alloc HB.out.size _).grown hgrow' (by have := HB.out.size; simp; omega) (fun g hg => (HO.out.lt g hg).1)); clear hown' hgrow' hnil'))
          go_roundw
          case rel => exact ⟨k + 1, _, us ++ [39], by omega, by omega, rfl, rfl, HC.out.add [([92, 39], 39)] (by decide +kernel) [92, 39] [39] (by decide +kernel) (by decide +kernel), (by rw [List.map_append, List.length_append]; exact HO'.out), HB'.out⟩
          case measure => simp [intOf]; omega
        by_cases r8 : (IntKind.u64.wrap z).tmod 12 = 8
        · go_wp2_with (first | (at_builtin; refine wpList_append_own _ rfl _ _ 30 rfl w.heap.size 3 i0 (.int .i64 0) 1 8 Tryd.underlying30 hi hz0 hz1 hz2 rfl (by decide) _ us.length (us.map (Value.int .i64)) rfl (HO.out.alloc _) ⟨wr.heap.size, 0, none⟩ 1 1 [.int .i64 _] rfl rfl (cell_one_new _ _ _) (fun x hx => by simp at hx; subst hx; rfl) (by have := HU.out; unfold maxLen; omega) (by have := HU.out; omega) (by have := HB.out.size; simp; omega) ?_; intro v' w3 hown' hgrow' hnil'; have HO' := Lib.hid hown'; have HB' := Lib.hid ((HB.out.alloc HB.out.size _).grown hgrow' (by have := HB.out.size; simp; omega) (fun g hg => (HO.out.lt g hg).1)); clear hown' hgrow' hnil'))
          go_roundw
          case rel => exact ⟨k + 1, _, us ++ [34], by omega, by omega, rfl, rfl, HC.out.add [([92, 34], 34)] (by decide +kernel) [92, 34] [34] (by decide +kernel) (by decide +kernel), (by rw [List.map_append, List.length_append]; exact HO'.out), HB'.out⟩
          case measure => simp [intOf]; omega
        by_cases r9 : (IntKind.u64.wrap z).tmod 12 = 9
        · go_wp2_with (first | (at_builtin; refine wpList_append_own _ rfl _ _ 30 rfl w.heap.size 3 i0 (.int .i64 0) 1 8 Tryd.underlying30 hi hz0 hz1 hz2 rfl (by decide) _ us.length (us.map (Value.int .i64)) rfl (HO.out.alloc _) ⟨wr.heap.size, 0, none⟩ 1 1 [.int .i64 _] rfl rfl (cell_one_new _ _ _) (fun x hx => by simp at hx; subst hx; rfl) (by have := HU.out; unfold maxLen; omega) (by have := HU.out; omega) (by have := HB.out.size; simp; omega) ?_; intro v' w3 hown' hgrow' hnil'; have HO' := Lib.hid hown'; have HB' := Lib.hid ((HB.out.alloc HB.out.size _).grown hgrow' (by have := HB.out.size; simp; omega) (fun g hg => (HO.out.lt g hg).1)); clear hown' hgrow' hnil'))
          go_roundw
          case rel => exact ⟨k + 1, _, us ++ [113], by omega, by omega, rfl, rfl, HC.out.add [([92, 113], 113)] (by decide +kernel) [92, 113] [113] (by decide +kernel) (by decide +kernel), (by rw [List.map_append, List.length_append]; exact HO'.out), HB'.out⟩
          case measure => simp [intOf]; omega
        by_cases r10 : (IntKind.u64.wrap z).tmod 12 = 10
        · go_wp2_with (first | (at_builtin; refine wpList_append_own _ rfl _ _ 30 rfl w.heap.size 3 i0 (.int .i64 0) 1 8 Tryd.underlying30 hi hz0 hz1 hz2 rfl (by decide) _ us.length (us.map (Value.int .i64)) rfl (HO.out.alloc _) ⟨wr.heap.size, 0, none⟩ 2 2 [.int .i64 _, .int .i64 _] rfl rfl (cell_two_new _ _ _ _) (fun x hx => by simp at hx; rcases hx with rfl | rfl <;> rfl) (by have := HU.out; unfold maxLen; omega) (by have := HU.out; omega) (by have := HB.out.size; simp; omega) ?_; intro v' w3 hown' hgrow' hnil'; have HO' := Lib.hid hown'; have HB' := Lib.hid ((HB.out.alloc HB.out.size _).grown hgrow' (by have := HB.out.size; simp; omega) (fun g hg => (HO.out.lt g hg).1)); clear hown' hgrow' hnil'))
          go_roundw
          case rel => exact ⟨k + 1, _, us ++ [0, 122], by omega, by omega, rfl, rfl, HC.out.add [([92, 48], 0), ([122], 122)] (by decide +kernel) [92, 48, 122] [0, 122] (by decide +kernel) (by decide +kernel), (by rw [List.map_append, List.length_append]; exact HO'.out), HB'.out⟩
          case measure => simp [intOf]; omega
        · go_wp2_with (first | (at_builtin; refine wpList_append_own _ rfl _ _ 30 rfl w.heap.size 3 i0 (.int .i64 0) 1 8 Tryd.underlying30 hi hz0 hz1 hz2 rfl (by decide) _ us.length (us.map (Value.int .i64)) rfl (HO.out.alloc _) ⟨wr.heap.size, 0, none⟩ 1 1 [.int .i64 _] rfl rfl (cell_one_new _ _ _) (fun x hx => by simp at hx; subst hx; rfl) (by have := HU.out; unfold maxLen; omega) (by have := HU.out; omega) (by have := HB.out.size; simp; omega) ?_; intro v' w3 hown' hgrow' hnil'; have HO' := Lib.hid hown'; have HB' := Lib.hid ((HB.out.alloc HB.out.size _).grown hgrow' (by have := HB.out.size; simp; omega) (fun g hg => (HO.out.lt g hg).1)); clear hown' hgrow' hnil'))
          go_roundw
          case rel => exact ⟨k + 1, _, us ++ [8232], by omega, by omega, rfl, rfl, HC.out.add [([226, 128, 168], 8232)] (by decide +kernel) [226, 128, 168] [8232] (by decide +kernel) (by decide +kernel), (by rw [List.map_append, List.length_append]; exact HO'.out), HB'.out⟩
          case measure => simp [intOf]; omega
      · have HQ := Lib.hid (HC.out.units hk 39 (by decide) wr (HT.out.below HB.out h2))
        go_wp2_with fail
        refine HQ.out.mono ?_
        rintro e w1 ⟨v1, rfl, ho1, hb1⟩
        have HB1 := Lib.hid (HB.out.trans (hb1.mono HB.out.size))
        have HI1 := Lib.hid (ints_of_own ho1)
        have HI2 := Lib.hid (ints_of_own (own_below HO.out hb1))
        clear ho1 hb1
        go_wp2_with fail
        refine (num_any 0 w1).mono ?_
        rintro e w2 ⟨rfl, rfl⟩
        go_wp2_with fail
        refine (same_any _ _ us w1 HI1.out HI2.out (by have := HU.out; omega)).mono ?_
        rintro e w2 ⟨rfl, hb2⟩
        have HB2 := Lib.hid (HB1.out.trans (hb2.mono HB1.out.size))
        clear hb2
        go_wp2_with fail
        go_ret
        exact ⟨rfl, HB2.out⟩
    · have HQ := Lib.hid (HC.out.units hk 39 (by decide) wr (HT.out.below HB.out h2))
      go_wp2_with fail
      refine HQ.out.mono ?_
      rintro e w1 ⟨v1, rfl, ho1, hb1⟩
      have HB1 := Lib.hid (HB.out.trans (hb1.mono HB.out.size))
      have HI1 := Lib.hid (ints_of_own ho1)
      have HI2 := Lib.hid (ints_of_own (own_below HO.out hb1))
      clear ho1 hb1
      go_wp2_with fail
      refine (num_any 0 w1).mono ?_
      rintro e w2 ⟨rfl, rfl⟩
      go_wp2_with fail
      refine (same_any _ _ us w1 HI1.out HI2.out (by have := HU.out; omega)).mono ?_
      rintro e w2 ⟨rfl, hb2⟩
      have HB2 := Lib.hid (HB1.out.trans (hb2.mono HB1.out.size))
      clear hb2
      go_wp2_with fail
      go_ret
      exact ⟨rfl, HB2.out⟩

set_option maxHeartbeats 8000000 in
set_option maxRecDepth 20000 in
theorem escapes_34 (a0 : Option Addr) (len0 cap0 : Nat) (w : World) (hp : ∀ k, k < len0 → ∃ x z, a0 = some x ∧ w.cell? (x.add k) = some (.int .i64 z) ∧ x.block < w.heap.size) (hT : Tabs w) :
    Calls Tryd.prog 8 #[.slice a0 len0 cap0, .bool false] w fun e w' => e = .returned (.bool true) ∧ Below w.heap.size w w' := by
  obtain ⟨i0, hi, hz0, hz1, hz2⟩ := info_parts int_info
  have HT := Lib.hid hT
  have HP := Lib.hid hp
  have h2 : 2 ≤ w.heap.size := hT.1
  clear hT hp
  go_enter Tryd.func8, Tryd.ntmps8
  go_wp2_with fail
  refine (awake_any w HT.out).mono ?_
  rintro e w0 ⟨rfl, hb0⟩
  have HB0 := Lib.hid hb0
  clear hb0
  go_wp2_with fail
  go_loopw [6, 7, 8, 9] (fun s v i _ wr => ∃ (k : Nat) (S : ByteArray) (us : List Int), k ≤ 40 ∧ k ≤ len0 ∧ s = .string S ∧ i = .int .i64 k ∧ Esc k S us ∧ wr.ownsRow w.heap.size 3 1 v us.length (us.map (Value.int .i64)) ∧ Below w.heap.size w wr) (fun _ _ i _ _ => 40 - (intOf i).toNat)
  case atStart => exact ⟨0, ⟨#[]⟩, [], by omega, by omega, rfl, rfl, Esc.start, World.ownsRow_nil _ _ _ _, HB0.out⟩
  case round =>
    obtain ⟨k, S, us, hk, hkl, rfl, rfl, hch, hown, hbel⟩ := hrel
    have HC := Lib.hid hch
    have HB := Lib.hid hbel
    have HO := Lib.hid hown
    obtain ⟨hS, hu⟩ := hch.le
    have HU : Hid (us.length ≤ 80) := Lib.hid (by omega)
    clear hch hbel hown hu
    by_cases hlt : k < len0
    · by_cases h40 : k < 40
      · obtain ⟨x, z, rfl, hcell, hx⟩ := HP.out k hlt
        have hcell' : wr.cell? (x.add k) = some (.int .i64 z) := by rw [HB.out.cell (p := x.add k) (by unfold Addr.add; split <;> exact hx)]; exact hcell
        clear hcell hx
        by_cases r0 : (IntKind.u64.wrap z).tmod 12 = 0
        · go_wp2_with (first | (at_builtin; refine wpList_append_own _ rfl _ _ 30 rfl w.heap.size 3 i0 (.int .i64 0) 1 8 Tryd.underlying30 hi hz0 hz1 hz2 rfl (by decide) _ us.length (us.map (Value.int .i64)) rfl (HO.out.alloc _) ⟨wr.heap.size, 0, none⟩ 1 1 [.int .i64 _] rfl rfl (cell_one_new _ _ _) (fun x hx => by simp at hx; subst hx; rfl) (by have := HU.out; unfold maxLen; omega) (by have := HU.out; omega) (by have := HB.out.size; simp; omega) ?_; intro v' w3 hown' hgrow' hnil'; have HO' := Lib.hid hown'; have HB' := Lib.hid ((HB.out.alloc HB.out.size _).grown hgrow' (by have := HB.out.size; simp; omega) (fun g hg => (HO.out.lt g hg).1)); clear hown' hgrow' hnil'))
          go_roundw
          case rel => exact ⟨k + 1, _, us ++ [97], by omega, by omega, rfl, rfl, HC.out.add [([97], 97)] (by decide +kernel) [97] [97] (by decide +kernel) (by decide +kernel), (by rw [List.map_append, List.length_append]; exact HO'.out), HB'.out⟩
          case measure => simp [intOf]; omega
        by_cases r1 : (IntKind.u64.wrap z).tmod 12 = 1
        · go_wp2_with (first | (at_builtin; refine wpList_append_own _ rfl _ _ 30 rfl w.heap.size 3 i0 (.int .i64 0) 1 8 Tryd.underlying30 hi hz0 hz1 hz2 rfl (by decide) _ us.length (us.map (Value.int .i64)) rfl (HO.out.alloc _) ⟨wr.heap.size, 0, none⟩ 1 1 [.int .i64 _] rfl rfl (cell_one_new _ _ _) (fun x hx => by simp at hx; subst hx; rfl) (by have := HU.out; unfold maxLen; omega) (by have := HU.out; omega) (by have := HB.out.size; simp; omega) ?_; intro v' w3 hown' hgrow' hnil'; have HO' := Lib.hid hown'; have HB' := Lib.hid ((HB.out.alloc HB.out.size _).grown hgrow' (by have := HB.out.size; simp; omega) (fun g hg => (HO.out.lt g hg).1)); clear hown' hgrow' hnil'))
          go_roundw
          case rel => exact ⟨k + 1, _, us ++ [10], by omega, by omega, rfl, rfl, HC.out.add [([92, 110], 10)] (by decide +kernel) [92, 110] [10] (by decide +kernel) (by decide +kernel), (by rw [List.map_append, List.length_append]; exact HO'.out), HB'.out⟩
          case measure => simp [intOf]; omega
        by_cases r2 : (IntKind.u64.wrap z).tmod 12 = 2
        · go_wp2_with (first | (at_builtin; refine wpList_append_own _ rfl _ _ 30 rfl w.heap.size 3 i0 (.int .i64 0) 1 8 Tryd.underlying30 hi hz0 hz1 hz2 rfl (by decide) _ us.length (us.map (Value.int .i64)) rfl (HO.out.alloc _) ⟨wr.heap.size, 0, none⟩ 1 1 [.int .i64 _] rfl rfl (cell_one_new _ _ _) (fun x hx => by simp at hx; subst hx; rfl) (by have := HU.out; unfold maxLen; omega) (by have := HU.out; omega) (by have := HB.out.size; simp; omega) ?_; intro v' w3 hown' hgrow' hnil'; have HO' := Lib.hid hown'; have HB' := Lib.hid ((HB.out.alloc HB.out.size _).grown hgrow' (by have := HB.out.size; simp; omega) (fun g hg => (HO.out.lt g hg).1)); clear hown' hgrow' hnil'))
          go_roundw
          case rel => exact ⟨k + 1, _, us ++ [127], by omega, by omega, rfl, rfl, HC.out.add [([92, 120, 55, 102], 127)] (by decide +kernel) [92, 120, 55, 102] [127] (by decide +kernel) (by decide +kernel), (by rw [List.map_append, List.length_append]; exact HO'.out), HB'.out⟩
          case measure => simp [intOf]; omega
        by_cases r3 : (IntKind.u64.wrap z).tmod 12 = 3
        · go_wp2_with (first | (at_builtin; refine wpList_append_own _ rfl _ _ 30 rfl w.heap.size 3 i0 (.int .i64 0) 1 8 Tryd.underlying30 hi hz0 hz1 hz2 rfl (by decide) _ us.length (us.map (Value.int .i64)) rfl (HO.out.alloc _) ⟨wr.heap.size, 0, none⟩ 1 1 [.int .i64 _] rfl rfl (cell_one_new _ _ _) (fun x hx => by simp at hx; subst hx; rfl) (by have := HU.out; unfold maxLen; omega) (by have := HU.out; omega) (by have := HB.out.size; simp; omega) ?_; intro v' w3 hown' hgrow' hnil'; have HO' := Lib.hid hown'; have HB' := Lib.hid ((HB.out.alloc HB.out.size _).grown hgrow' (by have := HB.out.size; simp; omega) (fun g hg => (HO.out.lt g hg).1)); clear hown' hgrow' hnil'))
          go_roundw
          case rel => exact ⟨k + 1, _, us ++ [233], by omega, by omega, rfl, rfl, HC.out.add [([92, 117, 48, 48, 69, 57], 233)] (by decide +kernel) [92, 117, 48, 48, 69, 57] [233] (by decide +kernel) (by decide +kernel), (by rw [List.map_append, List.length_append]; exact HO'.out), HB'.out⟩
          case measure => simp [intOf]; omega
        by_cases r4 : (IntKind.u64.wrap z).tmod 12 = 4
        · go_wp2_with (first | (at_builtin; refine wpList_append_own _ rfl _ _ 30 rfl w.heap.size 3 i0 (.int .i64 0) 1 8 Tryd.underlying30 hi hz0 hz1 hz2 rfl (by decide) _ us.length (us.map (Value.int .i64)) rfl (HO.out.alloc _) ⟨wr.heap.size, 0, none⟩ 2 2 [.int .i64 _, .int .i64 _] rfl rfl (cell_two_new _ _ _ _) (fun x hx => by simp at hx; rcases hx with rfl | rfl <;> rfl) (by have := HU.out; unfold maxLen; omega) (by have := HU.out; omega) (by have := HB.out.size; simp; omega) ?_; intro v' w3 hown' hgrow' hnil'; have HO' := Lib.hid hown'; have HB' := Lib.hid ((HB.out.alloc HB.out.size _).grown hgrow' (by have := HB.out.size; simp; omega) (fun g hg => (HO.out.lt g hg).1)); clear hown' hgrow' hnil'))
          go_roundw
          case rel => exact ⟨k + 1, _, us ++ [55357, 56832], by omega, by omega, rfl, rfl, HC.out.add [([92, 117, 123, 49, 70, 54, 48, 48, 125], 128512)] (by decide +kernel) [92, 117, 123, 49, 70, 54, 48, 48, 125] [55357, 56832] (by decide +kernel) (by decide +kernel), (by rw [List.map_append, List.length_append]; exact HO'.out), HB'.out⟩
          case measure => simp [intOf]; omega
        by_cases r5 : (IntKind.u64.wrap z).tmod 12 = 5
        · go_wp2_with (first | (at_builtin; refine wpList_append_own _ rfl _ _ 30 rfl w.heap.size 3 i0 (.int .i64 0) 1 8 Tryd.underlying30 hi hz0 hz1 hz2 rfl (by decide) _ us.length (us.map (Value.int .i64)) rfl (HO.out.alloc _) ⟨wr.heap.size, 0, none⟩ 2 2 [.int .i64 _, .int .i64 _] rfl rfl (cell_two_new _ _ _ _) (fun x hx => by simp at hx; rcases hx with rfl | rfl <;> rfl) (by have := HU.out; unfold maxLen; omega) (by have := HU.out; omega) (by have := HB.out.size; simp; omega) ?_; intro v' w3 hown' hgrow' hnil'; have HO' := Lib.hid hown'; have HB' := Lib.hid ((HB.out.alloc HB.out.size _).grown hgrow' (by have := HB.out.size; simp; omega) (fun g hg => (HO.out.lt g hg).1)); clear hown' hgrow' hnil'))
          go_roundw
          case rel => exact ⟨k + 1, _, us ++ [55357, 56832], by omega, by omega, rfl, rfl, HC.out.add [([240, 159, 152, 128], 128512)] (by decide +kernel) [240, 159, 152, 128] [55357, 56832] (by decide +kernel) (by decide +kernel), (by rw [List.map_append, List.length_append]; exact HO'.out), HB'.out⟩
          case measure => simp [intOf]; omega
        by_cases r6 : (IntKind.u64.wrap z).tmod 12 = 6
        · go_wp2_with fail
          go_roundw
          case rel => exact ⟨k + 1, _, us, by omega, by omega, rfl, rfl, (by have h := HC.out.add [([92, 10], -1)] (by decide +kernel) [92, 10] [] (by decide +kernel) (by decide +kernel); rw [List.append_nil] at h; exact h), HO.out, HB.out⟩
          case measure => simp [intOf]; omega
        by_cases r7 : (IntKind.u64.wrap z).tmod 12 = 7
        · go_wp2_with (first | (at_builtin; refine wpList_append_own _ rfl _ _ 30 rfl w.heap.size 3 i0 (.int .i64 0) 1 8 Tryd.underlying30 hi hz0 hz1 hz2 rfl (by decide) _ us.length (us.map (Value.int .i64)) rfl (HO.out.alloc _) ⟨wr.heap.size, 0, none⟩ 1 1 [.int .i64 _] rfl rfl (cell_one_new _ _ _) (fun x hx => by simp at hx; subst hx; rfl) (by have := HU.out; unfold maxLen; omega) (by have := HU.out; omega) (by have := HB.out.size; simp; omega) ?_; intro v' w3 hown' hgrow' hnil'; have HO' := Lib.hid hown'; have HB' := Lib.hid ((HB.out.alloc HB.out.size _).grown hgrow' (by have := HB.out.size; simp; omega) (fun g hg => (HO.out.lt g hg).1)); clear hown' hgrow' hnil'))
          go_roundw
          case rel => exact ⟨k + 1, _, us ++ [39], by omega, by omega, rfl, rfl, HC.out.add [([92, 39], 39)] (by decide +kernel) [92, 39] [39] (by decide +kernel) (by decide +kernel), (by rw [List.map_append, List.length_append]; exact HO'.out), HB'.out⟩
          case measure => simp [intOf]; omega
        by_cases r8 : (IntKind.u64.wrap z).tmod 12 = 8
        · go_wp2_with (first | (at_builtin; refine wpList_append_own _ rfl _ _ 30 rfl w.heap.size 3 i0 (.int .i64 0) 1 8 Tryd.underlying30 hi hz0 hz1 hz2 rfl (by decide) _ us.length (us.map (Value.int .i64)) rfl (HO.out.alloc _) ⟨wr.heap.size, 0, none⟩ 1 1 [.int .i64 _] rfl rfl (cell_one_new _ _ _) (fun x hx => by simp at hx; subst hx; rfl) (by have := HU.out; unfold maxLen; omega) (by have := HU.out; omega) (by have := HB.out.size; simp; omega) ?_; intro v' w3 hown' hgrow' hnil'; have HO' := Lib.hid hown'; have HB' := Lib.hid ((HB.out.alloc HB.out.size _).grown hgrow' (by have := HB.out.size; simp; omega) (fun g hg => (HO.out.lt g hg).1)); clear hown' hgrow' hnil'))
          go_roundw
          case rel => exact ⟨k + 1, _, us ++ [34], by omega, by omega, rfl, rfl, HC.out.add [([92, 34], 34)] (by decide +kernel) [92, 34] [34] (by decide +kernel) (by decide +kernel), (by rw [List.map_append, List.length_append]; exact HO'.out), HB'.out⟩
          case measure => simp [intOf]; omega
        by_cases r9 : (IntKind.u64.wrap z).tmod 12 = 9
        · go_wp2_with (first | (at_builtin; refine wpList_append_own _ rfl _ _ 30 rfl w.heap.size 3 i0 (.int .i64 0) 1 8 Tryd.underlying30 hi hz0 hz1 hz2 rfl (by decide) _ us.length (us.map (Value.int .i64)) rfl (HO.out.alloc _) ⟨wr.heap.size, 0, none⟩ 1 1 [.int .i64 _] rfl rfl (cell_one_new _ _ _) (fun x hx => by simp at hx; subst hx; rfl) (by have := HU.out; unfold maxLen; omega) (by have := HU.out; omega) (by have := HB.out.size; simp; omega) ?_; intro v' w3 hown' hgrow' hnil'; have HO' := Lib.hid hown'; have HB' := Lib.hid ((HB.out.alloc HB.out.size _).grown hgrow' (by have := HB.out.size; simp; omega) (fun g hg => (HO.out.lt g hg).1)); clear hown' hgrow' hnil'))
          go_roundw
          case rel => exact ⟨k + 1, _, us ++ [113], by omega, by omega, rfl, rfl, HC.out.add [([92, 113], 113)] (by decide +kernel) [92, 113] [113] (by decide +kernel) (by decide +kernel), (by rw [List.map_append, List.length_append]; exact HO'.out), HB'.out⟩
          case measure => simp [intOf]; omega
        by_cases r10 : (IntKind.u64.wrap z).tmod 12 = 10
        · go_wp2_with (first | (at_builtin; refine wpList_append_own _ rfl _ _ 30 rfl w.heap.size 3 i0 (.int .i64 0) 1 8 Tryd.underlying30 hi hz0 hz1 hz2 rfl (by decide) _ us.length (us.map (Value.int .i64)) rfl (HO.out.alloc _) ⟨wr.heap.size, 0, none⟩ 2 2 [.int .i64 _, .int .i64 _] rfl rfl (cell_two_new _ _ _ _) (fun x hx => by simp at hx; rcases hx with rfl | rfl <;> rfl) (by have := HU.out; unfold maxLen; omega) (by have := HU.out; omega) (by have := HB.out.size; simp; omega) ?_; intro v' w3 hown' hgrow' hnil'; have HO' := Lib.hid hown'; have HB' := Lib.hid ((HB.out.alloc HB.out.size _).grown hgrow' (by have := HB.out.size; simp; omega) (fun g hg => (HO.out.lt g hg).1)); clear hown' hgrow' hnil'))
          go_roundw
          case rel => exact ⟨k + 1, _, us ++ [0, 122], by omega, by omega, rfl, rfl, HC.out.add [([92, 48], 0), ([122], 122)] (by decide +kernel) [92, 48, 122] [0, 122] (by decide +kernel) (by decide +kernel), (by rw [List.map_append, List.length_append]; exact HO'.out), HB'.out⟩
          case measure => simp [intOf]; omega
        · go_wp2_with (first | (at_builtin; refine wpList_append_own _ rfl _ _ 30 rfl w.heap.size 3 i0 (.int .i64 0) 1 8 Tryd.underlying30 hi hz0 hz1 hz2 rfl (by decide) _ us.length (us.map (Value.int .i64)) rfl (HO.out.alloc _) ⟨wr.heap.size, 0, none⟩ 1 1 [.int .i64 _] rfl rfl (cell_one_new _ _ _) (fun x hx => by simp at hx; subst hx; rfl) (by have := HU.out; unfold maxLen; omega) (by have := HU.out; omega) (by have := HB.out.size; simp; omega) ?_; intro v' w3 hown' hgrow' hnil'; have HO' := Lib.hid hown'; have HB' := Lib.hid ((HB.out.alloc HB.out.size _).grown hgrow' (by have := HB.out.size; simp; omega) (fun g hg => (HO.out.lt g hg).1)); clear hown' hgrow' hnil'))
          go_roundw
          case rel => exact ⟨k + 1, _, us ++ [8232], by omega, by omega, rfl, rfl, HC.out.add [([226, 128, 168], 8232)] (by decide +kernel) [226, 128, 168] [8232] (by decide +kernel) (by decide +kernel), (by rw [List.map_append, List.length_append]; exact HO'.out), HB'.out⟩
          case measure => simp [intOf]; omega
      · have HQ := Lib.hid (HC.out.units hk 34 (by decide) wr (HT.out.below HB.out h2))
        go_wp2_with fail
        refine HQ.out.mono ?_
        rintro e w1 ⟨v1, rfl, ho1, hb1⟩
        have HB1 := Lib.hid (HB.out.trans (hb1.mono HB.out.size))
        have HI1 := Lib.hid (ints_of_own ho1)
        have HI2 := Lib.hid (ints_of_own (own_below HO.out hb1))
        clear ho1 hb1
        go_wp2_with fail
        refine (num_any 0 w1).mono ?_
        rintro e w2 ⟨rfl, rfl⟩
        go_wp2_with fail
        refine (same_any _ _ us w1 HI1.out HI2.out (by have := HU.out; omega)).mono ?_
        rintro e w2 ⟨rfl, hb2⟩
        have HB2 := Lib.hid (HB1.out.trans (hb2.mono HB1.out.size))
        clear hb2
        go_wp2_with fail
        go_ret
        exact ⟨rfl, HB2.out⟩
    · have HQ := Lib.hid (HC.out.units hk 34 (by decide) wr (HT.out.below HB.out h2))
      go_wp2_with fail
      refine HQ.out.mono ?_
      rintro e w1 ⟨v1, rfl, ho1, hb1⟩
      have HB1 := Lib.hid (HB.out.trans (hb1.mono HB.out.size))
      have HI1 := Lib.hid (ints_of_own ho1)
      have HI2 := Lib.hid (ints_of_own (own_below HO.out hb1))
      clear ho1 hb1
      go_wp2_with fail
      refine (num_any 0 w1).mono ?_
      rintro e w2 ⟨rfl, rfl⟩
      go_wp2_with fail
      refine (same_any _ _ us w1 HI1.out HI2.out (by have := HU.out; omega)).mono ?_
      rintro e w2 ⟨rfl, hb2⟩
      have HB2 := Lib.hid (HB1.out.trans (hb2.mono HB1.out.size))
      clear hb2
      go_wp2_with fail
      go_ret
      exact ⟨rfl, HB2.out⟩

theorem escapes_law (a0 : Option Addr) (len0 cap0 : Nat) (single : Bool) (w : World) (hp : ∀ k, k < len0 → ∃ x z, a0 = some x ∧ w.cell? (x.add k) = some (.int .i64 z) ∧ x.block < w.heap.size) (hT : Tabs w) :
    Calls Tryd.prog 8 #[.slice a0 len0 cap0, .bool single] w fun e w' => e = .returned (.bool true) ∧ Below w.heap.size w w' := by
  cases single
  · exact escapes_34 a0 len0 cap0 w hp hT
  · exact escapes_39 a0 len0 cap0 w hp hT

end Str
end Go.Proofs.YtddldddehgnobaaDoor
