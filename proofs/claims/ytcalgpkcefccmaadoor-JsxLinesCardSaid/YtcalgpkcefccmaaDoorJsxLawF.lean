/-
  Lines show what stands on them.
-/
import Derived.Test.YtcalgpkcefccmaaDoorJsxAwake
import Derived.Test.YtcalgpkcefccmaaDoorLexDec
namespace Go.Proofs.YtcalgpkcefccmaaDoor
namespace Jsx
open Go.RowKit

def pcL : Nat → List UInt8
  | 0 => [97, 32, 32, 98]
  | 1 => [32, 32, 99, 9]
  | 2 => [32, 9, 32]
  | _ => []
def trL : Nat → List UInt8
  | 0 => [97, 32, 32, 98]
  | 1 => [99]
  | _ => []
def tailT : List Nat → List UInt8
  | [] => []
  | k :: t => 10 :: (pcL k ++ 13 :: tailT t)
def bodyT : List Nat → List UInt8
  | [] => []
  | k :: t => pcL k ++ 13 :: tailT t
def keptP : List Nat → List (List UInt8)
  | [] => []
  | k :: t => if trL k = [] then keptP t else trL k :: keptP t
theorem pc_free : ∀ k : Nat, ∀ c ∈ pcL k, endB c = false
  | 0 => by decide
  | 1 => by decide
  | 2 => by decide
  | _ + 3 => fun _ h => absurd h List.not_mem_nil
theorem pc_tr : ∀ k : Nat, oneL false false (pcL k) = trL k
  | 0 => by decide
  | 1 => by decide
  | 2 => by decide
  | _ + 3 => rfl
theorem pc_len : ∀ k : Nat, (pcL k).length ≤ 4
  | 0 => by decide
  | 1 => by decide
  | 2 => by decide
  | _ + 3 => Nat.zero_le _
theorem tr_len : ∀ k : Nat, (trL k).length ≤ 4
  | 0 => by decide
  | 1 => by decide
  | _ + 2 => Nat.zero_le _
theorem rest_tail (t : List Nat) : restF 13 (tailT t) = bodyT t := by cases t <;> simp [restF, tailT, bodyT]
theorem lines_body : ∀ ps : List Nat, linesF false [] (bodyT ps) = ps.map pcL ++ [[]]
  | [] => rfl
  | k :: t => by
    rw [bodyT, lines_next (pcL k) (tailT t) 13 (pc_free k) (by decide), rest_tail, lines_body t]; rfl
theorem tail_body {ps : List Nat} (h : ps ≠ []) : tailT ps = 10 :: bodyT ps := by
  cases ps with
  | nil => exact absurd rfl h
  | cons => rfl
theorem lines_tail {ps : List Nat} (h : ps ≠ []) : linesF false [] (tailT ps) = [] :: (ps.map pcL ++ [[]]) := by
  have := lines_next [] (bodyT ps) 10 (by simp) (by decide)
  rw [tail_body h, show (10 :: bodyT ps) = [] ++ 10 :: bodyT ps from rfl, this, show restF 10 (bodyT ps) = bodyT ps by simp [restF], lines_body]
theorem line_more (f : Bool) (l : List UInt8) (X : List (List UInt8)) (h : X ≠ []) : lineL f (l :: X) = if oneL f false l = [] then lineL false X else oneL f false l :: lineL false X := by
  cases X with
  | nil => exact absurd rfl h
  | cons => rfl
theorem line_kept : ∀ ps : List Nat, lineL false (ps.map pcL ++ [[]]) = keptP ps
  | [] => by decide
  | k :: t => by
    rw [List.map_cons, List.cons_append, line_more _ _ _ (by simp), pc_tr, line_kept t]; rfl
theorem shown_tail (ps : List Nat) : shownF (tailT ps) = joinL (keptP ps) := by
  unfold shownF
  by_cases h : ps = []
  · subst h; decide
  · rw [lines_tail h, line_more _ _ _ (by simp), if_pos (by decide), line_kept]
theorem tail_snoc : ∀ (ps : List Nat) (k : Nat), tailT (ps ++ [k]) = tailT ps ++ (10 :: (pcL k ++ [13]))
  | [], _ => rfl
  | a :: t, k => by rw [List.cons_append, tailT, tail_snoc t k, tailT]; simp
theorem kept_more : ∀ (ps : List Nat) (k : Nat), keptP (ps ++ [k]) = if trL k = [] then keptP ps else keptP ps ++ [trL k]
  | [], _ => rfl
  | a :: t, k => by
    rw [List.cons_append, keptP, kept_more t k, keptP]
    split <;> split <;> rfl
/-- What the law has made of its first picks. -/
def LnAt (k : Nat) (S T : ByteArray) (e : Bool) : Prop := ∃ ps : List Nat, ps.length = k ∧ S.data.toList = tailT ps ∧ T.data.toList = joinL (keptP ps) ∧ e = (keptP ps).isEmpty
theorem LnAt.start : LnAt 0 ⟨#[]⟩ ⟨#[]⟩ true := ⟨[], rfl, rfl, rfl, rfl⟩
theorem tail_len : ∀ ps : List Nat, (tailT ps).length ≤ 6 * ps.length
  | [] => Nat.zero_le _
  | k :: t => by
    have := tail_len t
    have := pc_len k
    rw [tailT]; simp; omega
theorem cat_two (a b : ByteArray) : (a ++ b).data.toList = a.data.toList ++ b.data.toList := by simp [ByteArray.data_append]
theorem LnAt.blank {k : Nat} {S T x : ByteArray} {e : Bool} (h : LnAt k S T e) (j : Nat) (hx : x.data.toList = pcL j) (hj : trL j = []) : LnAt (k + 1) (((S ++ ⟨#[10]⟩) ++ x) ++ ⟨#[13]⟩) T e := by
  obtain ⟨ps, h1, h2, h3, h4⟩ := h
  refine ⟨ps ++ [j], by simp [h1], ?_, ?_, ?_⟩
  · rw [cat_two, cat_two, cat_two, h2, hx, tail_snoc]; simp
  · rw [h3, kept_more, if_pos hj]
  · rw [h4, kept_more, if_pos hj]
theorem LnAt.first {k : Nat} {S T x y : ByteArray} (h : LnAt k S T true) (j : Nat) (hx : x.data.toList = pcL j) (hy : y.data.toList = trL j) (hj : trL j ≠ []) : LnAt (k + 1) (((S ++ ⟨#[10]⟩) ++ x) ++ ⟨#[13]⟩) (T ++ y) false := by
  obtain ⟨ps, h1, h2, h3, h4⟩ := h
  have h5 : keptP ps = [] := by simpa using h4.symm
  refine ⟨ps ++ [j], by simp [h1], ?_, ?_, ?_⟩
  · rw [cat_two, cat_two, cat_two, h2, hx, tail_snoc]; simp
  · rw [cat_two, h3, hy, kept_more, if_neg hj, h5]; simp [joinL]
  · rw [kept_more, if_neg hj]; simp
theorem LnAt.more {k : Nat} {S T x y : ByteArray} (h : LnAt k S T false) (j : Nat) (hx : x.data.toList = pcL j) (hy : y.data.toList = trL j) (hj : trL j ≠ []) : LnAt (k + 1) (((S ++ ⟨#[10]⟩) ++ x) ++ ⟨#[13]⟩) ((T ++ ⟨#[32]⟩) ++ y) false := by
  obtain ⟨ps, h1, h2, h3, h4⟩ := h
  have h5 : keptP ps ≠ [] := by intro h; rw [h] at h4; simp at h4
  refine ⟨ps ++ [j], by simp [h1], ?_, ?_, ?_⟩
  · rw [cat_two, cat_two, cat_two, h2, hx, tail_snoc]; simp
  · rw [cat_two, cat_two, h3, hy, kept_more, if_neg hj, join_snoc, if_neg h5]; simp
  · rw [kept_more, if_neg hj]; simp
theorem join_len (ps : List Nat) : (joinL (keptP ps)).length ≤ 5 * ps.length := by
    have key : ∀ m : List (List UInt8), (∀ l ∈ m, l.length ≤ 4) → (joinL m).length ≤ 5 * m.length := by
      intro m
      induction m with
      | nil => intro _; exact Nat.zero_le _
      | cons a t ih =>
        intro h
        have h1 := h a (by simp)
        have h2 := ih (fun l hl => h l (by simp [hl]))
        cases t with
        | nil => rw [joinL]; simp; omega
        | cons b r => rw [joinL]; simp only [List.length_append, List.length_cons] at h2 ⊢; omega
    have kl : ∀ ps : List Nat, (keptP ps).length ≤ ps.length ∧ ∀ l ∈ keptP ps, l.length ≤ 4 := by
      intro ps
      induction ps with
      | nil => exact ⟨Nat.zero_le _, fun _ h => absurd h List.not_mem_nil⟩
      | cons k t ih =>
        rw [keptP]
        split
        · exact ⟨by simp; omega, ih.2⟩
        · refine ⟨by simp; omega, fun l hl => ?_⟩
          rcases List.mem_cons.1 hl with h | h
          · rw [h]; exact tr_len k
          · exact ih.2 l h
    have := key _ (kl ps).2
    have := (kl ps).1
    omega
theorem LnAt.sizes {k : Nat} {S T : ByteArray} {e : Bool} (h : LnAt k S T e) : S.size ≤ 6 * k ∧ T.size ≤ 5 * k := by
  obtain ⟨ps, h1, h2, h3, h4⟩ := h
  have a := tail_len ps
  have b := join_len ps
  rw [← list_size, ← list_size, h2, h3]
  omega
theorem LnAt.fin {k : Nat} {S T : ByteArray} {e : Bool} (h : LnAt k S T e) : ofL (shownF S.data.toList) = T := by
  obtain ⟨ps, h1, h2, h3, h4⟩ := h
  rw [h2, shown_tail, ← h3, ofL_eq]

theorem picks_of {w : World} {a : Option Addr} {len cap : Nat} {zs : List Int} (h : (a = none ∧ len = 0 ∧ cap = 0 ∧ zs = []) ∨
    ∃ x, a = some x ∧ len ≤ cap ∧ cap ≤ maxLen ∧ zs.length = cap ∧ (∀ i, i < zs.length → w.cell? (x.add i) = some (.int .i64 (zs.getD i 0))) ∧ ∀ n ∈ zs, (Lit.int .i64 n).wf = true) :
    ∀ k, k < len → ∃ x z, a = some x ∧ w.cell? (x.add k) = some (.int .i64 z) ∧ x.block < w.heap.size := by
  intro k hk
  rcases h with ⟨_, h, _⟩ | ⟨x, ha, hl, _, hz, hc, _⟩
  · omega
  · have h1 := hc k (by omega)
    have h2 := World.block_lt_of_cell? w _ h1
    refine ⟨x, _, ha, h1, ?_⟩
    unfold Addr.add at h2
    split at h2 <;> exact h2
theorem four_of (z : Int) : (IntKind.u64.wrap z).tmod 4 = 0 ∨ (IntKind.u64.wrap z).tmod 4 = 1 ∨ (IntKind.u64.wrap z).tmod 4 = 2 ∨ (IntKind.u64.wrap z).tmod 4 = 3 := by
  have h0 : 0 ≤ IntKind.u64.wrap z := by rw [IntKind.wrap_u64]; omega
  have h1 := Int.tmod_eq_emod_of_nonneg (b := 4) h0
  omega

set_option maxHeartbeats 8000000 in
set_option maxRecDepth 20000 in
theorem law_lines (a0 : Option Addr) (len0 cap0 : Nat) (W : World) (hp : ∀ k, k < len0 → ∃ x z, a0 = some x ∧ W.cell? (x.add k) = some (.int .i64 z) ∧ x.block < W.heap.size) (_hT : True) :
    Calls Tryd.prog 8 #[.slice a0 len0 cap0] W fun e w' => e = .returned (.bool true) ∧ Below W.heap.size W w' := by
  have HP := Lib.hid hp
  clear hp
  go_enter Tryd.func8, Tryd.ntmps8
  go_wp2_with fail
  refine (awake_any W).mono ?_
  rintro e w0 ⟨rfl, hb0⟩
  have HB0 := Lib.hid hb0
  clear hb0
  go_wp2_with fail
  go_loopw [3, 4, 5, 6] (fun s t e i wr => ∃ (k : Nat) (S T : ByteArray) (b : Bool), k ≤ 20 ∧ k ≤ len0 ∧ s = .string S ∧ t = .string T ∧ e = .bool b ∧ i = .int .i64 k ∧ Hid (LnAt k S T b) ∧ Below W.heap.size W wr) (fun _ _ _ i _ => 20 - (intOf i).toNat)
  case atStart => exact ⟨0, _, _, _, by omega, by omega, rfl, rfl, rfl, rfl, Lib.hid LnAt.start, HB0.out⟩
  case round =>
    obtain ⟨k, S, T, b, hk, hkl, rfl, rfl, rfl, rfl, HC, hbel⟩ := hrel
    have HB := Lib.hid hbel
    obtain ⟨hS, hTz⟩ := HC.out.sizes
    clear hbel
    by_cases hmore : k < len0 ∧ k < 20
    · obtain ⟨hlt, h20⟩ := hmore
      obtain ⟨x, z, rfl, hcell, hx⟩ := HP.out k hlt
      have hcell' : wr.cell? (x.add k) = some (.int .i64 z) := by rw [HB.out.cell (p := x.add k) (by unfold Addr.add; split <;> exact hx)]; exact hcell
      clear hcell hx
      rcases four_of z with hz | hz | hz | hz
      · cases b with
        | true =>
          go_wp2_with fail
          go_roundw
          case rel => exact ⟨k + 1, _, _, _, by omega, by omega, rfl, rfl, rfl, by go_num, Lib.hid (HC.out.first 0 rfl rfl (by decide)), (HB.out.alloc HB.out.size _).alloc (by have := HB.out.size; simp; omega) _⟩
          case measure => simp [intOf]; omega
        | false =>
          go_wp2_with fail
          go_roundw
          case rel => exact ⟨k + 1, _, _, _, by omega, by omega, rfl, rfl, rfl, by go_num, Lib.hid (HC.out.more 0 rfl rfl (by decide)), (HB.out.alloc HB.out.size _).alloc (by have := HB.out.size; simp; omega) _⟩
          case measure => simp [intOf]; omega
      · cases b with
        | true =>
          go_wp2_with fail
          go_roundw
          case rel => exact ⟨k + 1, _, _, _, by omega, by omega, rfl, rfl, rfl, by go_num, Lib.hid (HC.out.first 1 rfl rfl (by decide)), (HB.out.alloc HB.out.size _).alloc (by have := HB.out.size; simp; omega) _⟩
          case measure => simp [intOf]; omega
        | false =>
          go_wp2_with fail
          go_roundw
          case rel => exact ⟨k + 1, _, _, _, by omega, by omega, rfl, rfl, rfl, by go_num, Lib.hid (HC.out.more 1 rfl rfl (by decide)), (HB.out.alloc HB.out.size _).alloc (by have := HB.out.size; simp; omega) _⟩
          case measure => simp [intOf]; omega
      · go_wp2_with fail
        go_roundw
        case rel => exact ⟨k + 1, _, _, _, by omega, by omega, rfl, rfl, rfl, by go_num, Lib.hid (HC.out.blank 2 rfl rfl), HB.out.alloc HB.out.size _⟩
        case measure => simp [intOf]; omega
      · go_wp2_with fail
        go_roundw
        case rel => exact ⟨k + 1, _, _, _, by omega, by omega, rfl, rfl, rfl, by go_num, Lib.hid (HC.out.blank 3 rfl rfl), HB.out.alloc HB.out.size _⟩
        case measure => simp [intOf]; omega
    · have Hf := Lib.hid HC.out.fin
      have hS2 : S.size ≤ 2097152 := by omega
      clear HC
      by_cases hlt : k < len0
      · have h20 : ¬ (k < 20) := fun h => hmore ⟨hlt, h⟩
        have hk20 : k = 20 := by omega
        subst hk20
        clear hmore h20
        go_wp2_with fail
        refine (shownT_any S hS2 _).mono ?_
        rintro e w2 ⟨rfl, hb2⟩
        rw [Hf.out]
        have HB2 := Lib.hid (HB.out.trans (hb2.mono HB.out.size))
        clear hb2
        go_wp2_with fail
        go_ret
        exact ⟨by simp, HB2.out⟩
      · have hlen : k = len0 := by omega
        subst hlen
        clear hmore hlt hkl
        go_wp2_with fail
        refine (shownT_any S hS2 _).mono ?_
        rintro e w2 ⟨rfl, hb2⟩
        rw [Hf.out]
        have HB2 := Lib.hid (HB.out.trans (hb2.mono HB.out.size))
        clear hb2
        go_wp2_with fail
        go_ret
        exact ⟨by simp, HB2.out⟩

end Jsx
end Go.Proofs.YtcalgpkcefccmaaDoor
