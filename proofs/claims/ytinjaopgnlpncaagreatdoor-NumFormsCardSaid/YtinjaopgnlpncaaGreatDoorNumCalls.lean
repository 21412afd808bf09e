/-
  The contracts of the package's three calls.
-/
import Derived.Test.YtinjaopgnlpncaaGreatDoorNumPrint
namespace Go.Proofs.YtinjaopgnlpncaaGreatDoor
namespace Num
open Go.RowKit

theorem dec_len (p : Parts) (e : UInt8) (d : Dec p) : p.whole.length + p.frac.length + (p.sgn ++ p.pow).length ≤ (decText e p).length := by
  unfold decText dotT expT'
  have h1 := d.dot
  have h2 := d.exp
  cases hd : p.dot with
  | false =>
    rw [h1 hd]
    cases hx : p.exp with
    | false => rw [(h2 hx).1, (h2 hx).2]; simp
    | true => simp; omega
  | true =>
    cases hx : p.exp with
    | false => rw [(h2 hx).1, (h2 hx).2]; simp; omega
    | true => simp; omega

theorem part_len (l : List UInt8) (p : Parts) (h : ofL l = some p) : p.whole.length + p.frac.length + (p.sgn ++ p.pow).length ≤ l.length := by
  rcases ofL_of _ _ h with ⟨d, b, _, hl⟩ | ⟨d, e, _, hl⟩
  · rw [hl, d.frac, d.sgn, d.pow, basText]; simp; omega
  · rw [hl]; exact dec_len p e d

theorem parts_kind (l : List UInt8) (p : Parts) (h : ofL l = some p) : Bas p ∨ Dec p := by
  rcases ofL_of _ _ h with ⟨d, _⟩ | ⟨d, _⟩
  · exact Or.inl d
  · exact Or.inr d
theorem let_ne (p : Parts) (d : Bas p) : (((letN p.base).toNat : Int) != 0) = true := by
  rcases d.base with h | h | h <;> rw [h] <;> rfl
theorem let_zero (p : Parts) (d : Dec p) : (((letN p.base).toNat : Int) != 0) = false := by
  rw [d.base]; rfl

/-- The answers. -/
def okN (l : List UInt8) : Int := if (ofL l).isSome then 0 else 200
def canonS (l : List UInt8) : ByteArray := match ofL l with
  | some p => ⟨(canonL p).toArray⟩
  | none => ⟨#[]⟩
def printS (l : List UInt8) : ByteArray := match ofL l with
  | some p => ⟨(printL p).toArray⟩
  | none => ⟨#[]⟩

theorem acc_some (s : ByteArray) : accS s = (ofL s.data.toList).isSome := acc_ofL s.data.toList
theorem ret_str {a b : ByteArray} {x y : Int} (h1 : a = b) (h2 : x = y) : Ending.returned (.tuple #[.string a, .int .i64 x]) = .returned (.tuple #[.string b, .int .i64 y]) := by rw [h1, h2]

set_option maxHeartbeats 1000000 in
theorem check_any (s : ByteArray) (w : World) (hs : s.size ≤ maxLen) :
    Calls Tryz.prog 7 #[.string s] w fun e w' => e = .returned (.int .i64 (okN s.data.toList)) ∧ Below w.heap.size w w' := by
  have Ha := Lib.hid (acc_some s)
  cases ho : (ofL s.data.toList).isSome
  all_goals
    have Hf := Lib.hid (show okN s.data.toList = if (ofL s.data.toList).isSome then 0 else 200 from rfl)
    rw [ho] at Ha
    have Ho := Lib.hid ho
    clear ho
    go_enter Tryz.func7, Tryz.ntmps7
    go_wp2_with fail
    refine (accepts_any s w hs).mono ?_
    rintro e w1 ⟨rfl, hb1⟩
    rw [Ha.out]
    go_wp2_with fail
    go_ret
    exact ⟨ret_int (by rw [Hf.out, Ho.out]; rfl), hb1⟩

/-- The box of the pieces, in later worlds. -/
theorem lit_cells {w1 w2 : World} {p : Parts} (h : Below (w1.heap.size + 1) (boxW w1 p) w2) : w2.cell? ⟨w1.heap.size, 4, none⟩ = some (.bool p.big) := by
  rw [h.cell (p := ⟨w1.heap.size, 4, none⟩) (by simp)]
  unfold boxW
  rw [World.cell?_alloc_at _ _ _ _ rfl]
  rfl

set_option maxHeartbeats 4000000 in
set_option maxRecDepth 100000 in
theorem canon_bas (s : ByteArray) (p : Parts) (w : World) (hs : s.size ≤ 140737488354000) (hp : ofL s.data.toList = some p) (d : Bas p) :
    Calls Tryz.prog 8 #[.string s] w fun e w' => e = .returned (.tuple #[.string (canonS s.data.toList), .int .i64 (okN s.data.toList)]) ∧ Below w.heap.size w w' := by
  have hm : s.size ≤ maxLen := by unfold maxLen; omega
  have hpl := part_len _ _ hp
  rw [← Lib.size_eq] at hpl
  have Ha : Hid (accS s = true) := Lib.hid (by rw [acc_some, hp]; rfl)
  have Hf : Hid (canonS s.data.toList = ⟨(normBas p.base (collectL p.whole) ++ nT p.big).toArray⟩ ∧ okN s.data.toList = 0) := Lib.hid (by
    rw [canonS, okN, hp]
    exact ⟨by show (⟨(canonL p).toArray⟩ : ByteArray) = _; rw [canonL, if_neg (by have := d.base; omega)], rfl⟩)
  have hb := let_ne p d
  have Hsp := Lib.hid (fun W => split_any s p W hm hp)
  have Hcb := Lib.hid (fun W => canonBased_any p W (by omega))
  have hnl : (normBas p.base (collectL p.whole)).length ≤ s.size + 3 := by
    have h1 := collect_le p.whole
    have h2 : (aheadL (collectL p.whole)).length ≤ (collectL p.whole).length := (List.dropWhile_sublist _).length_le
    unfold normBas; split <;> simp <;> omega
  clear d hp
  go_enter Tryz.func8, Tryz.ntmps8
  go_wp2_with fail
  refine (accepts_any s w hm).mono ?_
  rintro e w1 ⟨rfl, hb1⟩
  rw [Ha.out]
  clear Ha
  go_wp2_with fail
  refine (Hsp.out _).mono ?_
  clear Hsp
  rintro e w2 ⟨rfl, hb2⟩
  unfold litV
  have hb12 := hb1.trans (hb2.mono hb1.size)
  have hz2 := hb12.size
  have Hb12 := Lib.hid hb12
  clear hb1 hb2 hb12
  go_wp2_with fail
  refine (Hcb.out _).mono ?_
  clear Hcb
  rintro e w3 ⟨v3, rfl, hs3, hb3⟩
  have hb3' : Below (w2.heap.size + 1) (boxW w2 p) w3 := by rw [← box_size w2 p]; exact hb3
  have hs3' : Seg w3 w.heap.size v3 (normBas p.base (collectL p.whole)) := hs3.mono (by simp; omega)
  have hbig := lit_cells hb3'
  have hz3 : w2.heap.size + 1 ≤ w3.heap.size := by have := hb3'.size; rw [box_size] at this; exact this
  have hz3s : w2.heap.size < w3.heap.size := by omega
  have Hb3 := Lib.hid (Hb12.out.trans (((box_below w2 p).mono hz2).trans (hb3'.mono (by omega))))
  have Hs3 := Lib.hid hs3'
  generalize normBas p.base (collectL p.whole) = N at *
  clear hs3 hb3 hb3' hs3'
  cases hbg : p.big with
  | false =>
    rw [hbg] at hbig Hf
    have hcv := seg_string Hs3.out
    clear hbg
    go_wp2_with fail
    go_ret2
    exact ⟨ret_str (by rw [Hf.out.1]; simp [nT]) (by rw [Hf.out.2]), Hb3.out⟩
  | true =>
    rw [hbg] at hbig Hf
    clear hbg
    go_wp2_with (at_builtin; refine wpList_append_seg _ rfl _ _ 42 rfl rfl (Hs3.out.keep ((Below.refl _ _).alloc (Nat.le_refl _) _)) _ rfl 1 [110] rfl (src_one w3 _ rfl 110) ?c1 ?c2 ?_)
    case c1 => simp only [List.length_cons, List.length_nil]; omega
    case c2 => first | omega | (simp; omega)
    intro v4 w4 hs4 hb4
    have hcv := seg_string hs4
    have Hb4 := Lib.hid ((Hb3.out.alloc (by omega) _).trans hb4)
    clear hs4 hb4
    go_wp2_with fail
    go_ret2
    exact ⟨ret_str (by rw [Hf.out.1]; rfl) (by rw [Hf.out.2]), Hb4.out⟩

theorem itoa_le (i : Int) (h0 : -9223372036854775808 ≤ i) (h1 : i ≤ 9223372036854775807) : (Lib.itoa i).length ≤ 21 := by
  by_cases h : i < 0
  · obtain ⟨u, rfl⟩ : ∃ u : Nat, i = -(u : Int) := ⟨i.natAbs, by omega⟩
    rw [Lib.itoa_neg u (by omega)]
    have := digits_le u (by omega)
    simp; omega
  · obtain ⟨u, rfl⟩ : ∃ u : Nat, i = u := ⟨i.toNat, by omega⟩
    rw [Lib.itoa_nonneg]
    have := digits_le u (by omega)
    omega
theorem norm_le (p : Parts) (d : Dec p) (hl : p.whole.length + p.frac.length ≤ 140737488355328) : (normDec (collectL p.whole ++ collectL p.frac) (collectL p.frac).length (powI p)).length ≤ p.whole.length + p.frac.length + 30 := by
  have h1 := collect_le p.whole
  have h2 := collect_le p.frac
  obtain ⟨u, _, _, _, hn⟩ := pow_text p d
  have hp : -1000000000 < powI p ∧ powI p < 1000000000 := by rw [powI_of]; split <;> omega
  have h3 := trimZ_le (collectL p.whole ++ collectL p.frac)
  have h4 : (aheadL (trimZ (collectL p.whole ++ collectL p.frac))).length ≤ (trimZ (collectL p.whole ++ collectL p.frac)).length := (List.dropWhile_sublist _).length_le
  have h5 : (collectL p.whole ++ collectL p.frac).length = (collectL p.whole).length + (collectL p.frac).length := List.length_append
  unfold normDec
  split
  · simp
  · have h6 := itoa_le (powI p - ((collectL p.frac).length : Int) + (((collectL p.whole ++ collectL p.frac).length : Int) - ((trimZ (collectL p.whole ++ collectL p.frac)).length : Int))) (by omega) (by omega)
    rw [List.length_append, List.length_cons]
    omega

set_option maxHeartbeats 4000000 in
set_option maxRecDepth 100000 in
theorem canon_dec (s : ByteArray) (p : Parts) (w : World) (hs : s.size ≤ 140737488354000) (hp : ofL s.data.toList = some p) (ht : Tab w.heap.size w) (d : Dec p) :
    Calls Tryz.prog 8 #[.string s] w fun e w' => e = .returned (.tuple #[.string (canonS s.data.toList), .int .i64 (okN s.data.toList)]) ∧ Below w.heap.size w w' := by
  have hm : s.size ≤ maxLen := by unfold maxLen; omega
  have hpl := part_len _ _ hp
  rw [← Lib.size_eq] at hpl
  have Ha : Hid (accS s = true) := Lib.hid (by rw [acc_some, hp]; rfl)
  have Hf : Hid (canonS s.data.toList = ⟨(normDec (collectL p.whole ++ collectL p.frac) (collectL p.frac).length (powI p) ++ nT p.big).toArray⟩ ∧ okN s.data.toList = 0) := Lib.hid (by
    rw [canonS, okN, hp]
    exact ⟨by show (⟨(canonL p).toArray⟩ : ByteArray) = _; rw [canonL, if_pos d.base], rfl⟩)
  have hb := let_zero p d
  have Hsp := Lib.hid (fun W => split_any s p W hm hp)
  have Hcb := Lib.hid (fun W hT => canonDecimal_any p d W (by omega) (by unfold maxLen; omega) hT)
  have Ht := Lib.hid ht
  clear ht
  have hnl : (normDec (collectL p.whole ++ collectL p.frac) (collectL p.frac).length (powI p)).length ≤ s.size + 30 := by
    have := norm_le p d (by omega)
    omega
  clear d hp
  go_enter Tryz.func8, Tryz.ntmps8
  go_wp2_with fail
  refine (accepts_any s w hm).mono ?_
  rintro e w1 ⟨rfl, hb1⟩
  rw [Ha.out]
  clear Ha
  go_wp2_with fail
  refine (Hsp.out _).mono ?_
  clear Hsp
  rintro e w2 ⟨rfl, hb2⟩
  unfold litV
  have hb12 := hb1.trans (hb2.mono hb1.size)
  have hz2 := hb12.size
  have Hb12 := Lib.hid hb12
  clear hb1 hb2 hb12
  go_wp2_with fail
  refine (Hcb.out _ (Tab.up ((Ht.out.on Hb12.out).on ((Below.refl _ _).alloc hz2 _)) (by simp; omega))).mono ?_
  clear Hcb
  rintro e w3 ⟨v3, rfl, hs3, hb3⟩
  have hb3' : Below (w2.heap.size + 1) (boxW w2 p) w3 := by rw [← box_size w2 p]; exact hb3
  have hs3' : Seg w3 w.heap.size v3 (normDec (collectL p.whole ++ collectL p.frac) (collectL p.frac).length (powI p)) := hs3.mono (by simp; omega)
  have hbig := lit_cells hb3'
  have hz3 : w2.heap.size + 1 ≤ w3.heap.size := by have := hb3'.size; rw [box_size] at this; exact this
  have hz3s : w2.heap.size < w3.heap.size := by omega
  have Hb3 := Lib.hid (Hb12.out.trans (((box_below w2 p).mono hz2).trans (hb3'.mono (by omega))))
  have Hs3 := Lib.hid hs3'
  generalize normDec (collectL p.whole ++ collectL p.frac) (collectL p.frac).length (powI p) = N at *
  clear hs3 hb3 hb3' hs3'
  cases hbg : p.big with
  | false =>
    rw [hbg] at hbig Hf
    have hcv := seg_string Hs3.out
    clear hbg
    go_wp2_with fail
    go_ret2
    exact ⟨ret_str (by rw [Hf.out.1]; simp [nT]) (by rw [Hf.out.2]), Hb3.out⟩
  | true =>
    rw [hbg] at hbig Hf
    clear hbg
    go_wp2_with (at_builtin; refine wpList_append_seg _ rfl _ _ 42 rfl rfl (Hs3.out.keep ((Below.refl _ _).alloc (Nat.le_refl _) _)) _ rfl 1 [110] rfl (src_one w3 _ rfl 110) ?c1 ?c2 ?_)
    case c1 => simp only [List.length_cons, List.length_nil]; omega
    case c2 => first | omega | (simp; omega)
    intro v4 w4 hs4 hb4
    have hcv := seg_string hs4
    have Hb4 := Lib.hid ((Hb3.out.alloc (by omega) _).trans hb4)
    clear hs4 hb4
    go_wp2_with fail
    go_ret2
    exact ⟨ret_str (by rw [Hf.out.1]; rfl) (by rw [Hf.out.2]), Hb4.out⟩

theorem code_none (l : List UInt8) (h : ofL l = none) : canonS l = ⟨#[]⟩ ∧ printS l = ⟨#[]⟩ ∧ okN l = 200 := by
  rw [canonS, printS, okN, h]; exact ⟨rfl, rfl, rfl⟩

set_option maxHeartbeats 1000000 in
theorem canon_any (s : ByteArray) (w : World) (hs : s.size ≤ 140737488354000) (ht : Tab w.heap.size w) :
    Calls Tryz.prog 8 #[.string s] w fun e w' => e = .returned (.tuple #[.string (canonS s.data.toList), .int .i64 (okN s.data.toList)]) ∧ Below w.heap.size w w' := by
  cases hp : ofL s.data.toList with
  | some p =>
    rcases parts_kind _ _ hp with d | d
    · exact canon_bas s p w hs hp d
    · exact canon_dec s p w hs hp ht d
  | none =>
    have hm : s.size ≤ maxLen := by unfold maxLen; omega
    have Ha : Hid (accS s = false) := Lib.hid (by rw [acc_some, hp]; rfl)
    have Hf := Lib.hid (code_none _ hp)
    clear hp
    go_enter Tryz.func8, Tryz.ntmps8
    go_wp2_with fail
    refine (accepts_any s w hm).mono ?_
    rintro e w1 ⟨rfl, hb1⟩
    rw [Ha.out]
    go_wp2_with fail
    go_ret2
    exact ⟨ret_str (by rw [Hf.out.1]) (by rw [Hf.out.2.2]), hb1⟩

theorem print_eq (p : Parts) (d : Dec p) : printDec p = headT p.whole ++ fracT p.frac ++ powT (p.sgn ++ p.pow) := by
  have hpw : (if p.exp then 101 :: ((if p.sgn = [45] then [45] else []) ++ p.pow) else []) = powT (p.sgn ++ p.pow) := by
    unfold powT
    cases hx : p.exp with
    | false => rw [(d.exp hx).1, (d.exp hx).2]; rfl
    | true =>
      obtain ⟨a1, a2, _, a4⟩ := d.pow hx
      have h43 : (p.pow.head? == some 43) = false := by
        have := run_not 10 _ a1 43 (by decide) (by decide)
        cases hp : p.pow with
        | nil => rfl
        | cons c t =>
          rw [hp] at this
          have hc : c ≠ 43 := fun e => this (by rw [e]; simp)
          simpa using hc
      have hne : ¬ (p.sgn ++ p.pow = []) := fun e => a2 (List.append_eq_nil_iff.1 e).2
      rw [if_pos rfl, if_neg (c := p.sgn ++ p.pow = []) hne]
      rcases a4 with h | h | h
      · rw [h, Lib.trimPrefix, neg_prefix, List.nil_append, h43]; rfl
      · rw [h, Lib.trimPrefix, neg_prefix]; rfl
      · rw [h, Lib.trimPrefix, neg_prefix]; rfl
  rw [printDec, hpw]
  rfl

theorem print_le (p : Parts) : (headT p.whole ++ fracT p.frac ++ powT (p.sgn ++ p.pow)).length ≤ p.whole.length + p.frac.length + (p.sgn ++ p.pow).length + 3 := by
  have h1 := frac_le p.frac
  have h2 := trimP_le (p.sgn ++ p.pow) [43]
  have a : (headT p.whole).length ≤ p.whole.length + 1 := by unfold headT; rw [List.length_append]; split <;> simp <;> omega
  have b : (fracT p.frac).length ≤ p.frac.length + 1 := by unfold fracT; split <;> simp <;> omega
  have c : (powT (p.sgn ++ p.pow)).length ≤ (p.sgn ++ p.pow).length + 1 := by unfold powT; split <;> simp at * <;> omega
  rw [List.length_append, List.length_append]
  omega

set_option maxHeartbeats 4000000 in
set_option maxRecDepth 100000 in
theorem print_dec (s : ByteArray) (p : Parts) (w : World) (hs : s.size ≤ 140737488354000) (hp : ofL s.data.toList = some p) (d : Dec p) :
    Calls Tryz.prog 9 #[.string s] w fun e w' => e = .returned (.tuple #[.string (printS s.data.toList), .int .i64 (okN s.data.toList)]) ∧ Below w.heap.size w w' := by
  have hm : s.size ≤ maxLen := by unfold maxLen; omega
  have hpl := part_len _ _ hp
  rw [← Lib.size_eq] at hpl
  have Ha : Hid (accS s = true) := Lib.hid (by rw [acc_some, hp]; rfl)
  have Hf : Hid (printS s.data.toList = ⟨(headT p.whole ++ fracT p.frac ++ powT (p.sgn ++ p.pow) ++ nT p.big).toArray⟩ ∧ okN s.data.toList = 0) := Lib.hid (by
    rw [printS, okN, hp]
    exact ⟨by show (⟨(printL p).toArray⟩ : ByteArray) = _; rw [printL, if_pos d.base, print_eq p d], rfl⟩)
  have hb := let_zero p d
  have Hsp := Lib.hid (fun W => split_any s p W hm hp)
  have Hcb := Lib.hid (fun W => printDecimal_any p W (by omega))
  have hnl : (headT p.whole ++ fracT p.frac ++ powT (p.sgn ++ p.pow)).length ≤ s.size + 5 := by
    have := print_le p
    omega
  clear d hp
  go_enter Tryz.func9, Tryz.ntmps9
  go_wp2_with fail
  refine (accepts_any s w hm).mono ?_
  rintro e w1 ⟨rfl, hb1⟩
  rw [Ha.out]
  clear Ha
  go_wp2_with fail
  refine (Hsp.out _).mono ?_
  clear Hsp
  rintro e w2 ⟨rfl, hb2⟩
  unfold litV
  have hb12 := hb1.trans (hb2.mono hb1.size)
  have hz2 := hb12.size
  have Hb12 := Lib.hid hb12
  clear hb1 hb2 hb12
  go_wp2_with fail
  refine (Hcb.out _).mono ?_
  clear Hcb
  rintro e w3 ⟨v3, rfl, hs3, hb3⟩
  have hb3' : Below (w2.heap.size + 1) (boxW w2 p) w3 := by rw [← box_size w2 p]; exact hb3
  have hs3' : Seg w3 w.heap.size v3 (headT p.whole ++ fracT p.frac ++ powT (p.sgn ++ p.pow)) := hs3.mono (by simp; omega)
  have hbig := lit_cells hb3'
  have hz3 : w2.heap.size + 1 ≤ w3.heap.size := by have := hb3'.size; rw [box_size] at this; exact this
  have hz3s : w2.heap.size < w3.heap.size := by omega
  have Hb3 := Lib.hid (Hb12.out.trans (((box_below w2 p).mono hz2).trans (hb3'.mono (by omega))))
  have Hs3 := Lib.hid hs3'
  generalize headT p.whole ++ fracT p.frac ++ powT (p.sgn ++ p.pow) = N at *
  clear hs3 hb3 hb3' hs3'
  cases hbg : p.big with
  | false =>
    rw [hbg] at hbig Hf
    have hcv := seg_string Hs3.out
    clear hbg
    go_wp2_with fail
    go_ret2
    exact ⟨ret_str (by rw [Hf.out.1]; simp [nT]) (by rw [Hf.out.2]), Hb3.out⟩
  | true =>
    rw [hbg] at hbig Hf
    clear hbg
    go_wp2_with (at_builtin; refine wpList_append_seg _ rfl _ _ 42 rfl rfl (Hs3.out.keep ((Below.refl _ _).alloc (Nat.le_refl _) _)) _ rfl 1 [110] rfl (src_one w3 _ rfl 110) ?c1 ?c2 ?_)
    case c1 => simp only [List.length_cons, List.length_nil]; omega
    case c2 => first | omega | (simp; omega)
    intro v4 w4 hs4 hb4
    have hcv := seg_string hs4
    have Hb4 := Lib.hid ((Hb3.out.alloc (by omega) _).trans hb4)
    clear hs4 hb4
    go_wp2_with fail
    go_ret2
    exact ⟨ret_str (by rw [Hf.out.1]; rfl) (by rw [Hf.out.2]), Hb4.out⟩

theorem bas_ascii (p : Parts) (d : Bas p) : ∀ (j : Nat) b, (⟨p.whole.toArray⟩ : ByteArray).data.toList[j]? = some b → b.toNat < 128 := by
  intro j b hj
  have hb := run_mem p.base _ false d.whole b (List.mem_of_getElem? hj)
  have key : ∀ n : Fin 256, (valN (UInt8.ofNat n.val) < 16 ∨ UInt8.ofNat n.val = 95) → (UInt8.ofNat n.val).toNat < 128 := by decide +kernel
  have := key ⟨b.toNat, b.toNat_lt⟩
  simp only [UInt8.ofNat_toNat] at this
  refine this ?_
  rcases hb with hb | hb
  · left; have := d.base; omega
  · exact Or.inr hb

set_option maxHeartbeats 4000000 in
set_option maxRecDepth 100000 in
theorem print_bas (s : ByteArray) (p : Parts) (w : World) (hs : s.size ≤ 140737488354000) (hp : ofL s.data.toList = some p) (d : Bas p) :
    Calls Tryz.prog 9 #[.string s] w fun e w' => e = .returned (.tuple #[.string (printS s.data.toList), .int .i64 (okN s.data.toList)]) ∧ Below w.heap.size w w' := by
  have hm : s.size ≤ maxLen := by unfold maxLen; omega
  have hpl := part_len _ _ hp
  rw [← Lib.size_eq] at hpl
  have Ha : Hid (accS s = true) := Lib.hid (by rw [acc_some, hp]; rfl)
  have Hf : Hid (printS s.data.toList = ⟨((48 :: letN p.base :: Lib.toUpperA p.whole) ++ nT p.big).toArray⟩ ∧ okN s.data.toList = 0) := Lib.hid (by
    rw [printS, okN, hp]
    exact ⟨by show (⟨(printL p).toArray⟩ : ByteArray) = _; rw [printL, if_neg (by have := d.base; omega)], rfl⟩)
  have hb := let_ne p d
  have Hsp := Lib.hid (fun W => split_any s p W hm hp)
  have Hup := Lib.hid (fun W => Tryz.strings_ToUpper_ascii ⟨p.whole.toArray⟩ W (by rw [size_of]; omega) (bas_ascii p d))
  have hnl : (48 :: letN p.base :: Lib.toUpperA p.whole).length ≤ s.size + 3 := by simp [Lib.toUpperA]; omega
  have hup : (Lib.toUpperA p.whole).length ≤ s.size := by simp [Lib.toUpperA]; omega
  clear d hp
  go_enter Tryz.func9, Tryz.ntmps9
  go_wp2_with fail
  refine (accepts_any s w hm).mono ?_
  rintro e w1 ⟨rfl, hb1⟩
  rw [Ha.out]
  clear Ha
  go_wp2_with fail
  refine (Hsp.out _).mono ?_
  clear Hsp
  rintro e w2 ⟨rfl, hb2⟩
  unfold litV
  have hb12 := hb1.trans (hb2.mono hb1.size)
  have hz2 := hb12.size
  have Hb12 := Lib.hid hb12
  clear hb1 hb2 hb12
  have hcl := box_cell w2 (boxW w2 p) p (Below.refl _ _)
  have Hq : Hid (Seg ((boxW w2 p).alloc (.cells #[.int .u8 48, .int .u8 ((letN p.base).toNat : Int)] 5)) (w2.heap.size + 1) (.slice (some ⟨w2.heap.size + 1, 0, none⟩) 2 2) [48, letN p.base]) := Lib.hid (Seg.built (boxW w2 p) (w2.heap.size + 1) _ (box_size w2 p).symm (Nat.le_refl _) [48, letN p.base] 2 rfl (by decide))
  unfold boxW at Hq
  go_wp2_with (at_builtin; refine wpList_append_seg _ rfl _ _ 42 rfl rfl (Seg.nil _ (w2.heap.size + 1)) _ rfl 2 [48, letN p.base] rfl Hq.out.src (by simp) (by simp) ?_)
  intro v3 w3 hs3 hb3
  clear Hq
  have hb3' : Below (w2.heap.size + 1) (boxW w2 p) w3 := ((Below.refl _ _).alloc (by rw [box_size]; exact Nat.le_refl _) _).trans hb3
  have hz3 : w2.heap.size + 1 ≤ w3.heap.size := by have := hb3'.size; rw [box_size] at this; exact this
  have hz3s : w2.heap.size < w3.heap.size := by omega
  have hwh := (box_cell w2 w3 p hb3').2.1
  have Hs3 := Lib.hid hs3
  have Hb3 := Lib.hid hb3'
  clear hs3 hb3 hb3' hcl
  go_wp2_with fail
  refine (Hup.out _).mono ?_
  clear Hup
  rintro e w4 ⟨rfl, hb4⟩
  have hs4 := Hs3.out.keep hb4
  have hb4' := Hb3.out.trans (hb4.mono hz3)
  have hz4 : w2.heap.size + 1 ≤ w4.heap.size := by have := hb4'.size; rw [box_size] at this; exact this
  have Hs4 := Lib.hid hs4
  have Hb4 := Lib.hid hb4'
  clear hs4 hb4 hb4' Hs3 hwh
  generalize Lib.toUpperA p.whole = U at *
  go_wp2_with (at_builtin; refine wpList_append_seg _ rfl _ _ 9 rfl rfl Hs4.out _ rfl _ U rfl (src_str _ _) ?c3 hz4 ?_)
  case c3 => simp only [List.length_append, List.length_cons, List.length_nil] at *; omega
  intro v5 w5 hs5 hb5
  have hb3' : Below (w2.heap.size + 1) (boxW w2 p) w5 := Hb4.out.trans hb5
  have hs3' : Seg w5 w.heap.size v5 (48 :: letN p.base :: U) := (by simpa using hs5 : Seg w5 (w2.heap.size + 1) v5 (48 :: letN p.base :: U)).mono (by omega)
  have hz5 : w2.heap.size + 1 ≤ w5.heap.size := by have := hb3'.size; rw [box_size] at this; exact this
  have hz5s : w2.heap.size < w5.heap.size := by omega
  have Hb5 := Lib.hid (Hb12.out.trans (((box_below w2 p).mono hz2).trans (hb3'.mono (by omega))))
  have Hs5 := Lib.hid hs3'
  have hbig := lit_cells hb3'
  clear hs5 hb5 hb3' hs3' Hs4 Hb4 Hb3
  generalize (48 :: letN p.base :: U) = N at *
  cases hbg : p.big with
  | false =>
    rw [hbg] at hbig Hf
    have hcv := seg_string Hs5.out
    clear hbg
    go_wp2_with fail
    go_ret2
    exact ⟨ret_str (by rw [Hf.out.1]; simp [nT]) (by rw [Hf.out.2]), Hb5.out⟩
  | true =>
    rw [hbg] at hbig Hf
    clear hbg
    go_wp2_with (at_builtin; refine wpList_append_seg _ rfl _ _ 42 rfl rfl (Hs5.out.keep ((Below.refl _ _).alloc (Nat.le_refl _) _)) _ rfl 1 [110] rfl (src_one w5 _ rfl 110) ?c1 ?c2 ?_)
    case c1 => simp only [List.length_cons, List.length_nil]; omega
    case c2 => first | omega | (simp; done) | (simp; omega)
    intro v6 w6 hs6 hb6
    have hcv := seg_string hs6
    have Hb6 := Lib.hid ((Hb5.out.alloc (by omega) _).trans hb6)
    clear hs6 hb6
    go_wp2_with fail
    go_ret2
    exact ⟨ret_str (by rw [Hf.out.1]; rfl) (by rw [Hf.out.2]), Hb6.out⟩

set_option maxHeartbeats 1000000 in
theorem print_any (s : ByteArray) (w : World) (hs : s.size ≤ 140737488354000) :
    Calls Tryz.prog 9 #[.string s] w fun e w' => e = .returned (.tuple #[.string (printS s.data.toList), .int .i64 (okN s.data.toList)]) ∧ Below w.heap.size w w' := by
  cases hp : ofL s.data.toList with
  | some p =>
    rcases parts_kind _ _ hp with d | d
    · exact print_bas s p w hs hp d
    · exact print_dec s p w hs hp d
  | none =>
    have hm : s.size ≤ maxLen := by unfold maxLen; omega
    have Ha : Hid (accS s = false) := Lib.hid (by rw [acc_some, hp]; rfl)
    have Hf := Lib.hid (code_none _ hp)
    clear hp
    go_enter Tryz.func9, Tryz.ntmps9
    go_wp2_with fail
    refine (accepts_any s w hm).mono ?_
    rintro e w1 ⟨rfl, hb1⟩
    rw [Ha.out]
    go_wp2_with fail
    go_ret2
    exact ⟨ret_str (by rw [Hf.out.2.1]) (by rw [Hf.out.2.2]), hb1⟩

end Num
end Go.Proofs.YtinjaopgnlpncaaGreatDoor
