/-
  The contract of str.Quote.
-/
import Derived.Test.YtddldddehgnobaaDoorStrChoose
import Derived.Test.YtddldddehgnobaaDoorStrUnitz
import Derived.OwnWalk
import Derived.Laws.IdiomStrings
namespace Go.Proofs.YtddldddehgnobaaDoor
namespace Str
open Go.RowKit

def byteC (l : List UInt8) : List Value := l.map fun c => Value.int .u8 (c.toNat : Int)
theorem byteC_app (a b : List UInt8) : byteC (a ++ b) = byteC a ++ byteC b := by simp [byteC]
theorem byteC_len (a : List UInt8) : (byteC a).length = a.length := by simp [byteC]

/-- A row of the call's own. -/
def OV (B : Nat) (w : World) (v : Value) (xs : List Value) (b : Nat) : Prop := w.ownsRow B 5 1 v xs.length xs ∧ xs.length ≤ b ∧ B ≤ w.heap.size
theorem ov_snoc {B : Nat} {w : World} {v : Value} {xs : List Value} {z : Value} {b : Nat} (h : w.ownsRow B 5 1 v (xs.length + 1) (xs ++ [z])) (hb : xs.length ≤ b) (hB : B ≤ w.heap.size) : OV B w v (xs ++ [z]) (b + 1) :=
  ⟨by rw [List.length_append]; exact h, by rw [List.length_append]; simp; omega, hB⟩
theorem ov_conv {B : Nat} {w : World} {v : Value} {xs : List Value} {b : Nat} (h : OV B w v xs b) (l : List UInt8) (e : xs = byteC l) (hne : l ≠ []) :
    (convert 59 9 v).run Tryd.prog w = .ok (.string ⟨l.toArray⟩) w := by
  subst e
  obtain ⟨⟨_, h2⟩, _, _⟩ := h
  rw [byteC_len] at h2
  rcases h2 with ⟨_, h2⟩ | ⟨g, cap, cur, h1, _, h3, h4, _, h5, h6⟩
  · exact absurd (List.eq_nil_of_length_eq_zero h2) hne
  · subst h1
    refine run_convert_bytes_back (P := Tryd.prog) w 59 9 5 ⟨g, 0, none⟩ cap l Tryd.underlying59 Tryd.underlying5 Tryd.underlying9 (fun j hj => ?_)
    have e : (⟨g, 0, none⟩ : Addr).add j = ⟨g, j, none⟩ := by
      by_cases h : j = 0
      · subst h; simp [Addr.add]
      · simp [Addr.add, h]
    rw [e, blk_cell h3]
    have h7 : (cur.toList.take (l.length * 1))[j]? = some (.int .u8 (l[j].toNat : Int)) := by rw [h6]; simp [byteC, hj]
    rw [List.getElem?_take] at h7
    split at h7
    · simpa using h7
    · cases h7
theorem byte_info : (Tryd.prog.info? 5).map (fun i => (i.zero, i.size, i.bytes)) = some (some (.int .u8 0), 1, 1) := by kernel_rfl

/-- No backslash stands last. -/
def whole : List UInt8 → Bool
  | [] => true
  | [x] => x != 92
  | x :: y :: l => if x = 92 then whole l else whole (y :: l)
theorem whole_one (x : UInt8) (l : List UInt8) (h : x ≠ 92) : whole (x :: l) = whole l := by
  cases l with
  | nil => simp [whole, h]
  | cons y l => rw [whole, if_neg h]
theorem whole_plain (t l : List UInt8) (ht : Plain t) : whole (t ++ l) = whole l := by
  induction t with
  | nil => rfl
  | cons x t ih => rw [List.cons_append, whole_one x _ (ht x (List.mem_cons_self ..)).2.2, ih (fun y hy => ht y (List.mem_cons_of_mem _ hy))]
theorem whole_part (p l : List UInt8) (v : Int) (hs : Shape p v) : whole (p ++ l) = whole l := by
  cases hs with
  | one x hx h2 => exact whole_one x l hx
  | wide x t _ hx ht => exact whole_plain (x :: t) l (plain_cons (plain_of_wide x hx) (fun y hy => plain_of_wide y (ht y hy)))
  | esc y t _ ht hy hv =>
    rw [List.cons_append, List.cons_append, whole, if_pos rfl]
    exact whole_plain t l ht
theorem whole_row : ∀ ps : List Piece, (∀ p ∈ ps, Shape p.1 p.2) → whole (bytesP ps) = true
  | [], _ => rfl
  | p :: ps, hs => by rw [bytesP_cons, whole_part p.1 _ p.2 (hs p (List.mem_cons_self ..)), whole_row ps (fun p' hp' => hs p' (List.mem_cons_of_mem _ hp'))]

/-- What Quote hands back. -/
def QuoteR (s : ByteArray) (single : Bool) (w : World) (e : Ending) (w' : World) : Prop :=
  e = .returned (.tuple #[.string ⟨(quoteL single s.data.toList).toArray⟩, .int .i64 (codeL (litL s.data.toList) : Nat)]) ∧ Below w.heap.size w w'

set_option maxHeartbeats 4000000 in
set_option maxRecDepth 20000 in
theorem quote_bad (s : ByteArray) (single : Bool) (w : World) (hz : s.size ≤ 16777216) (hT : Tabs w) (hn : (litL s.data.toList).2 = none) :
    Calls Tryd.prog 18 #[.string s, .bool single] w (QuoteR s single w) := by
  have hm : s.size ≤ maxLen := by unfold maxLen; omega
  have hC := check_any s w hm hT
  have hcode : codeL (litL s.data.toList) = 300 := by unfold codeL; rw [hn]; rfl
  have hq : quoteL single s.data.toList = [] := by unfold quoteL; rw [hn]
  unfold Checked at hC
  rw [hcode] at hC
  have HC := Lib.hid hC
  have HN := Lib.hid hcode
  have HQ := Lib.hid hq
  clear hC hcode hn hq
  go_enter Tryd.func18, Tryd.ntmps18
  go_wp2_with fail
  refine HC.out.mono ?_
  rintro e w1 ⟨rfl, hb⟩
  go_wp2_with fail
  go_ret2
  exact ⟨by rw [HN.out, HQ.out]; rfl, hb⟩

set_option maxHeartbeats 8000000 in
set_option maxRecDepth 20000 in
theorem quote_ok (s : ByteArray) (single : Bool) (w : World) (hz : s.size ≤ 16777216) (hT : Tabs w) (ps : List Piece) (hn : (litL s.data.toList).2 = some ps) :
    Calls Tryd.prog 18 #[.string s, .bool single] w (QuoteR s single w) := by
  have hm : s.size ≤ maxLen := by unfold maxLen; omega
  have hC := check_any s w hm hT
  obtain ⟨h0, q0, hq0, hs, hr, hf⟩ := lit_inv _ _ hn
  have hcode : codeL (litL s.data.toList) = 0 := by unfold codeL; rw [hn]; rfl
  have hQL := quoteL_of single _ _ hn
  unfold Checked at hC
  rw [hcode, h0] at hC
  have HC := Lib.hid hC
  have hsz : s.size = (bytesP ps).length + 2 := by rw [Lib.size_eq, hs]; simp
  have h2 : 2 ≤ s.size := by omega
  have hsh := row_shape _ _ hr
  have hU : (s.extract 1 (s.size - 1)).data.toList = bytesP ps := by
    have : (s.extract 1 (s.size - 1)).data.toList = (s.data.toList.drop 1).take (s.size - 1 - 1) := by
      simp only [ByteArray.data_extract, Array.toList_extract, List.extract_eq_take_drop]
    rw [this, hs, show s.size - 1 - 1 = (bytesP ps).length by omega]
    simp
  have hUz : (s.extract 1 (s.size - 1)).size = (bytesP ps).length := by rw [Lib.size_eq, hU]
  have hI := pick_is single (bytesP ps)
  have hqb := quoteB_row hI ps hsh
  rw [rePs_bytes, ← hqb] at hQL
  have HCode := Lib.hid hcode
  have hwh := whole_row ps hsh
  have hCH := fun W => choose_any (s.extract 1 (s.size - 1)) single W (by omega)
  rw [hU] at hCH
  obtain ⟨U, hUU⟩ : ∃ U, s.extract 1 (s.size - 1) = U := ⟨_, rfl⟩
  rw [hUU] at hU hUz hCH
  have HUU := Lib.hid hUU
  rw [← hU] at hwh
  generalize pick single (bytesP ps) = P at *
  obtain ⟨q, o⟩ := P
  simp only at hI hCH hQL
  have HQL := Lib.hid hQL
  have HI := Lib.hid hI
  have HCH := Lib.hid hCH
  have HW := Lib.hid hwh
  have HU := Lib.hid hU
  have hUle : U.size + 2 = s.size := by omega
  clear hC hcode hn h0 hs hsz hsh hU hUz hI hqb hQL hwh hCH hUU hr hf hq0
  have hk1 : (1 : Int) ≤ (s.size : Int) - 1 := by omega
  go_enter Tryd.func18, Tryd.ntmps18
  go_wp2_with fail
  refine HC.out.mono ?_
  rintro e w1 ⟨rfl, hb⟩
  have HB1 := Lib.hid hb
  clear hb
  go_wp2_with fail
  rw [HUU.out]
  refine (HCH.out _).mono ?_
  rintro e w2 ⟨rfl, hb2⟩
  have HB := Lib.hid (HB1.out.trans (hb2.mono HB1.out.size))
  clear hb2
  obtain ⟨i0, hi, hz0, hz1, hz2⟩ := info_parts byte_info
  have hq256 : (q.toNat : Int) < 256 := by have := q.toNat_lt; omega
  go_upto_region 8 with (first
    | (at_make; refine wpList_make_own _ rfl _ _ 59 rfl w.heap.size 5 i0 (.int .u8 0) 1 Tryd.underlying59 hi hz0 hz1 .i64 .i64 _ s.size rfl rfl rfl (by rw [hz2]; omega) (by unfold maxLen; omega) HB.out.size ?_; intro w3 hown0 hgrow0; have HB := Lib.hid (HB.out.grown hgrow0 HB.out.size (fun _ h => by cases h)); have HO : Hid (OV w.heap.size w3 _ [] 0) := Lib.hid ⟨hown0, Nat.le_refl _, HB.out.size⟩; clear hown0 hgrow0)
    | (at_builtin; refine wpList_append_own _ rfl _ _ 59 rfl w.heap.size 5 i0 (.int .u8 0) 1 1 Tryd.underlying59 hi hz0 hz1 hz2 rfl (by decide) _ _ _ rfl (HO.out.1.alloc _) ⟨_, 0, none⟩ 1 1 [.int .u8 _] rfl rfl (cell_one_new _ _ _) (fun x hx => by simp at hx; subst hx; rfl) (by have := HO.out.2.1; unfold maxLen; omega) (by have := HO.out.2.1; omega) (by have := HO.out.2.2; simp; omega) ?_; intro v' w' hown' hgrow' hnil'; have HB := Lib.hid ((HB.out.alloc HB.out.size _).grown hgrow' (by have := HB.out.size; simp; omega) (fun g hg => (HO.out.1.lt g hg).1)); have HO := Lib.hid (ov_snoc hown' HO.out.2.1 HB.out.size); clear hown' hgrow' hnil'))
  have hHO : OV w.heap.size w' v' (byteC [q]) 1 := HO.out
  have hHB := HB.out
  have HO := Lib.hid hHO
  have HB := Lib.hid hHB
  clear hHO hHB
  go_loopw [11, 12, 13] (fun out iv _ wr => ∃ (k : Nat) (acc : List UInt8), k ≤ U.size ∧ iv = .int .i64 k ∧ OV w.heap.size wr out (byteC (q :: acc)) (2 * k + 1) ∧ Below w.heap.size w wr ∧ acc ++ quoteB q o (sufL U k) = quoteB q o U.data.toList ∧ whole (sufL U k) = true) (fun _ iv _ _ => U.size - (intOf iv).toNat)
  case atStart => exact ⟨0, [], by omega, rfl, HO.out, HB.out, rfl, HW.out⟩
  case round =>
    obtain ⟨k, acc, hk, rfl, hov, hbel, hacc, hwhole⟩ := hrel
    clear HO HB
    have HO := Lib.hid hov
    have HB := Lib.hid hbel
    have HACC := Lib.hid hacc
    clear hov hbel hacc
    by_cases hlt : k < U.size
    · have hsuf := suf_cons U k hlt
      have gx : ((U[k]'hlt).toNat : Int) < 256 := by have := (U[k]'hlt).toNat_lt; omega
      by_cases h92 : U[k]'hlt = 92
      · have t92 : ((U[k]'hlt).toNat) = 92 := by rw [h92]; rfl
        rw [h92] at hsuf
        have hlt2 : k + 1 < U.size := by
          rcases Nat.lt_or_ge (k + 1) U.size with h | h
          · exact h
          · rw [hsuf, suf_nil U (k + 1) (by omega)] at hwhole; exact absurd hwhole (by decide)
        have hsuf2 := suf_cons U (k + 1) hlt2
        have hq2 : quoteB q o (sufL U k) = (if U[k + 1]'hlt2 = o then [U[k + 1]'hlt2] else [92, U[k + 1]'hlt2]) ++ quoteB q o (sufL U (k + 2)) := by rw [hsuf, hsuf2, quoteB_esc]
        have hw2 : whole (sufL U (k + 2)) = true := by rw [hsuf, hsuf2, whole, if_pos rfl] at hwhole; exact hwhole
        have HQ2 := Lib.hid hq2
        have gy : ((U[k + 1]'hlt2).toNat : Int) < 256 := by have := (U[k + 1]'hlt2).toNat_lt; omega
        obtain ⟨y, hy⟩ : ∃ y, U[k + 1]'hlt2 = y := ⟨_, rfl⟩
        have hyn : (U[k + 1]'hlt2).toNat = y.toNat := by rw [hy]
        rw [hy] at HQ2 gy
        have HW2 := Lib.hid hw2
        clear hsuf hsuf2 hq2 hw2 hwhole h92 hy
        by_cases hyo : y = o
        · have tyo : ((y.toNat : Int) != (o.toNat : Int)) = false := by rw [hyo]; simp
          have HR := Lib.hid HQ2.out
          rw [if_pos hyo] at HR
          clear hyo
          go_wp2_with (first
            | (at_builtin; refine wpList_append_own _ rfl _ _ 59 rfl w.heap.size 5 i0 (.int .u8 0) 1 1 Tryd.underlying59 hi hz0 hz1 hz2 rfl (by decide) _ _ _ rfl (HO.out.1.alloc _) ⟨_, 0, none⟩ 1 1 [.int .u8 _] rfl rfl (cell_one_new _ _ _) (fun x hx => by simp at hx; subst hx; rfl) (by have := HO.out.2.1; unfold maxLen; omega) (by have := HO.out.2.1; omega) (by have := HO.out.2.2; simp; omega) ?_; intro v' w' hown' hgrow' hnil'; have HB := Lib.hid ((HB.out.alloc HB.out.size _).grown hgrow' (by have := HB.out.size; simp; omega) (fun g hg => (HO.out.1.lt g hg).1)); have HO := Lib.hid (ov_snoc hown' HO.out.2.1 HB.out.size); clear hown' hgrow' hnil'))
          go_roundw
          case rel =>
            refine ⟨k + 2, acc ++ [y], by omega, by go_num, ?_, HB.out, by rw [← HACC.out, HR.out]; simp, HW2.out⟩
            have e : byteC (q :: (acc ++ [y])) = byteC (q :: acc) ++ [.int .u8 y.toNat] := by simp [byteC]
            rw [e]
            exact ⟨HO.out.1, by have := HO.out.2.1; omega, HO.out.2.2⟩
          case measure => simp [intOf]; omega
        · have tyo : ((y.toNat : Int) != (o.toNat : Int)) = true := bne_iff_ne.2 (fun e => hyo (UInt8.toNat_inj.1 (by omega)))
          have HR := Lib.hid HQ2.out
          rw [if_neg hyo] at HR
          clear hyo
          go_wp2_with (first
            | (at_builtin; refine wpList_append_own _ rfl _ _ 59 rfl w.heap.size 5 i0 (.int .u8 0) 1 1 Tryd.underlying59 hi hz0 hz1 hz2 rfl (by decide) _ _ _ rfl (HO.out.1.alloc _) ⟨_, 0, none⟩ 1 1 [.int .u8 _] rfl rfl (cell_one_new _ _ _) (fun x hx => by simp at hx; subst hx; rfl) (by have := HO.out.2.1; unfold maxLen; omega) (by have := HO.out.2.1; omega) (by have := HO.out.2.2; simp; omega) ?_; intro v' w' hown' hgrow' hnil'; have HB := Lib.hid ((HB.out.alloc HB.out.size _).grown hgrow' (by have := HB.out.size; simp; omega) (fun g hg => (HO.out.1.lt g hg).1)); have HO := Lib.hid (ov_snoc hown' HO.out.2.1 HB.out.size); clear hown' hgrow' hnil'))
          go_roundw
          case rel =>
            refine ⟨k + 2, acc ++ [92, y], by omega, by go_num, ?_, HB.out, by rw [← HACC.out, HR.out]; simp, HW2.out⟩
            have e : byteC (q :: (acc ++ [92, y])) = byteC (q :: acc) ++ [.int .u8 92] ++ [.int .u8 y.toNat] := by simp [byteC]
            rw [e]
            exact ⟨HO.out.1, by have := HO.out.2.1; omega, HO.out.2.2⟩
          case measure => simp [intOf]; omega
      · have t92 : (((U[k]'hlt).toNat : Int) == 92) = false := beq_eq_false_iff_ne.2 (fun e => h92 (byte_of (n := 92) e (by decide)))
        have hq2 : quoteB q o (sufL U k) = (if U[k]'hlt = q then [92, U[k]'hlt] else [U[k]'hlt]) ++ quoteB q o (sufL U (k + 1)) := by rw [hsuf, quoteB_one q o _ _ h92]
        have hw2 : whole (sufL U (k + 1)) = true := by rw [hsuf, whole_one _ _ h92] at hwhole; exact hwhole
        have HQ2 := Lib.hid hq2
        have HW2 := Lib.hid hw2
        obtain ⟨x, hx⟩ : ∃ x, U[k]'hlt = x := ⟨_, rfl⟩
        have hxn : (U[k]'hlt).toNat = x.toNat := by rw [hx]
        rw [hx] at HQ2 gx
        rw [hxn] at t92
        clear hsuf hq2 hw2 hwhole h92 hx
        by_cases hxq : x = q
        · have txq : ((x.toNat : Int) == (q.toNat : Int)) = true := by rw [hxq]; simp
          have HR := Lib.hid HQ2.out
          rw [if_pos hxq] at HR
          clear hxq
          go_wp2_with (first
            | (at_builtin; refine wpList_append_own _ rfl _ _ 59 rfl w.heap.size 5 i0 (.int .u8 0) 1 1 Tryd.underlying59 hi hz0 hz1 hz2 rfl (by decide) _ _ _ rfl (HO.out.1.alloc _) ⟨_, 0, none⟩ 1 1 [.int .u8 _] rfl rfl (cell_one_new _ _ _) (fun x hx => by simp at hx; subst hx; rfl) (by have := HO.out.2.1; unfold maxLen; omega) (by have := HO.out.2.1; omega) (by have := HO.out.2.2; simp; omega) ?_; intro v' w' hown' hgrow' hnil'; have HB := Lib.hid ((HB.out.alloc HB.out.size _).grown hgrow' (by have := HB.out.size; simp; omega) (fun g hg => (HO.out.1.lt g hg).1)); have HO := Lib.hid (ov_snoc hown' HO.out.2.1 HB.out.size); clear hown' hgrow' hnil'))
          go_roundw
          case rel =>
            refine ⟨k + 1, acc ++ [92, x], by omega, by go_num, ?_, HB.out, by rw [← HACC.out, HR.out]; simp, HW2.out⟩
            have e : byteC (q :: (acc ++ [92, x])) = byteC (q :: acc) ++ [.int .u8 92] ++ [.int .u8 x.toNat] := by simp [byteC]
            rw [e]
            exact ⟨HO.out.1, by have := HO.out.2.1; omega, HO.out.2.2⟩
          case measure => simp [intOf]; omega
        · have txq : ((x.toNat : Int) == (q.toNat : Int)) = false := beq_eq_false_iff_ne.2 (fun e => hxq (UInt8.toNat_inj.1 (by omega)))
          have HR := Lib.hid HQ2.out
          rw [if_neg hxq] at HR
          clear hxq
          go_wp2_with (first
            | (at_builtin; refine wpList_append_own _ rfl _ _ 59 rfl w.heap.size 5 i0 (.int .u8 0) 1 1 Tryd.underlying59 hi hz0 hz1 hz2 rfl (by decide) _ _ _ rfl (HO.out.1.alloc _) ⟨_, 0, none⟩ 1 1 [.int .u8 _] rfl rfl (cell_one_new _ _ _) (fun x hx => by simp at hx; subst hx; rfl) (by have := HO.out.2.1; unfold maxLen; omega) (by have := HO.out.2.1; omega) (by have := HO.out.2.2; simp; omega) ?_; intro v' w' hown' hgrow' hnil'; have HB := Lib.hid ((HB.out.alloc HB.out.size _).grown hgrow' (by have := HB.out.size; simp; omega) (fun g hg => (HO.out.1.lt g hg).1)); have HO := Lib.hid (ov_snoc hown' HO.out.2.1 HB.out.size); clear hown' hgrow' hnil'))
          go_roundw
          case rel =>
            refine ⟨k + 1, acc ++ [x], by omega, by go_num, ?_, HB.out, by rw [← HACC.out, HR.out]; simp, HW2.out⟩
            have e : byteC (q :: (acc ++ [x])) = byteC (q :: acc) ++ [.int .u8 x.toNat] := by simp [byteC]
            rw [e]
            exact ⟨HO.out.1, by have := HO.out.2.1; omega, HO.out.2.2⟩
          case measure => simp [intOf]; omega
    · have hsufn := suf_nil U k hlt
      have hac : acc = quoteB q o U.data.toList := by
        have := HACC.out
        rw [hsufn] at this
        simpa [quoteB] using this
      have HAC := Lib.hid hac
      clear hsufn hwhole hac
      go_wp2_with (first
        | (at_builtin; refine wpList_append_own _ rfl _ _ 59 rfl w.heap.size 5 i0 (.int .u8 0) 1 1 Tryd.underlying59 hi hz0 hz1 hz2 rfl (by decide) _ _ _ rfl (HO.out.1.alloc _) ⟨_, 0, none⟩ 1 1 [.int .u8 _] rfl rfl (cell_one_new _ _ _) (fun x hx => by simp at hx; subst hx; rfl) (by have := HO.out.2.1; unfold maxLen; omega) (by have := HO.out.2.1; omega) (by have := HO.out.2.2; simp; omega) ?_; intro v' w' hown' hgrow' hnil'; have HB := Lib.hid ((HB.out.alloc HB.out.size _).grown hgrow' (by have := HB.out.size; simp; omega) (fun g hg => (HO.out.1.lt g hg).1)); have HO := Lib.hid (ov_snoc hown' HO.out.2.1 HB.out.size); have hcv := ov_conv HO.out (q :: acc ++ [q]) (by simp [byteC]) (by simp); clear hown' hgrow' hnil'))
      go_ret2
      refine ⟨?_, HB.out⟩
      rw [HQL.out, HCode.out, HAC.out, HU.out]
      rfl

theorem quote_any (s : ByteArray) (single : Bool) (w : World) (hz : s.size ≤ 16777216) (hT : Tabs w) : Calls Tryd.prog 18 #[.string s, .bool single] w (QuoteR s single w) := by
  cases hn : (litL s.data.toList).2 with
  | none => exact quote_bad s single w hz hT hn
  | some ps => exact quote_ok s single w hz hT ps hn

end Str
end Go.Proofs.YtddldddehgnobaaDoor
