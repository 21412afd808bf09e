/-
  The contract of lex.Next.
-/
import Derived.Test.YtggibhlmnfodaaaDoorLexSkip
import Derived.Test.YtggibhlmnfodaaaDoorLexToken
import Derived.BigRegion
namespace Go.Proofs.YtggibhlmnfodaaaDoor
namespace Lex
open Go.RowKit
open Str (lenL runeL)

/-- What Next answers. -/
def answer (s : ByteArray) (i g : Int) : Ans :=
  if i < 0 ∨ (s.size : Int) < i then failA 500 s.data.toList else if goalB g (Str.sufL s i.toNat) = false then failA 501 s.data.toList else nextP g (decide (i = 0)) (Str.sufL s i.toNat)
def atS (s : ByteArray) (l : List UInt8) : Nat := s.size - l.length
def zeroTok : Value := .agg #[.int .i64 0, .string ⟨#[]⟩, .int .i64 0, .int .i64 0, .bool false]
def tokOf (s : ByteArray) (a : Ans) : Value := .agg #[.int .i64 a.kind, .string (Str.ofL (upTo a.fr a.to)), .int .i64 (atS s a.fr : Nat), .int .i64 (atS s a.to : Nat), .bool a.line]
def tokV (s : ByteArray) (a : Ans) : Value := if a.code = 0 then tokOf s a else zeroTok
def placeV (s : ByteArray) (a : Ans) : Int := if a.code = 0 then 0 else (atS s a.place : Nat)
def boxS (s : ByteArray) : Box := ⟨0, 0, s⟩
/-- What a call of Next comes to. -/
def PostX (s : ByteArray) (w : World) (a : Ans) (e : Ending) (w' : World) : Prop :=
  ∃ v, e = .returned (.tuple #[tokV s a, v, .int .i64 (placeV s a), .int .i64 a.code]) ∧ w'.ownsRow w.heap.size 33 4 v a.coms.length (rowV (boxS s) a.coms) ∧ Below w.heap.size w w'

theorem results_tok {fn : Func} (h : fn.results = #[.cell 6 26, .tmp 7, .tmp 8, .tmp 9]) (tmps : Array Value) (w : World) (g : Nat) (cs : Array Value) (ht : tmps.getD 6 undef = .pointer (some ⟨g, 0, none⟩))
    (hg : w.heap[g]? = some (.cells cs 26)) (hc : cs.size = 5) : (results fn tmps).run Tryd.prog w = .ok (.tuple #[.agg cs, tmps.getD 7 undef, tmps.getD 8 undef, tmps.getD 9 undef]) w := by
  have hr := run_loadVar_row (P := Tryd.prog) w g 26 26 cs (0, 0) _ hg Tryd.underlying26 rfl (by rw [hc]; kernel_rfl)
  have ht' : tmps[6]?.getD undef = .pointer (some ⟨g, 0, none⟩) := by simpa using ht
  simp [results, h, ht', asAddr, hr]

theorem tok_new (w : World) (cs : Array Value) (t : TypeId) : (w.alloc (.cells cs t)).heap[w.heap.size]? = some (.cells cs t) := by show (w.heap.push _)[w.heap.size]? = _; simp
theorem place_zero (s : ByteArray) : placeV s (failA 500 s.data.toList) = 0 ∧ placeV s (failA 501 s.data.toList) = 0 := by
  have : atS s s.data.toList = 0 := by unfold atS; simp
  constructor <;> (unfold placeV failA; simp only []; rw [if_neg (by decide), this]; rfl)
theorem post_fail {s : ByteArray} {w w' : World} {c : Int} {m : List UInt8} (hc : c ≠ 0) {p : Int} (hp : placeV s (failA c m) = p) (hb : Below w.heap.size w w') : PostX s w (failA c m) (.returned (.tuple #[zeroTok, .slice none 0 0, .int .i64 p, .int .i64 c])) w' := by
  refine ⟨.slice none 0 0, ?_, World.ownsRow_nil _ _ _ _, hb⟩
  rw [hp, tokV]
  rw [if_neg (show (failA c m).code ≠ 0 from hc)]
  rfl

set_option maxHeartbeats 8000000 in
set_option maxRecDepth 100000 in
theorem next_place (s : ByteArray) (i g : Int) (hi : i < 0 ∨ (s.size : Int) < i) (w : World) (_hs : s.size ≤ 4194304) :
    Calls Tryd.prog 7 #[.string s, .int .i64 i, .int .i64 g] w (PostX s w (failA 500 s.data.toList)) := by
  by_cases c1 : i < 0
  · clear hi
    go_enter Tryd.func7, Tryd.ntmps7
    go_wp2_with fail
    refine bodyPost_ret (results_tok rfl _ _ _ _ rfl (tok_new _ _ _) rfl) rfl ?_
    exact post_fail (by decide) (place_zero s).1 ((Below.refl _ _).alloc (Nat.le_refl _) _)
  · have c2 : (s.size : Int) < i := hi.resolve_left c1
    clear hi
    go_enter Tryd.func7, Tryd.ntmps7
    go_wp2_with fail
    refine bodyPost_ret (results_tok rfl _ _ _ _ rfl (tok_new _ _ _) rfl) rfl ?_
    exact post_fail (by decide) (place_zero s).1 ((Below.refl _ _).alloc (Nat.le_refl _) _)

abbrev zeroObj : Obj := .cells #[.int .i64 0, .string ⟨#[]⟩, .int .i64 0, .int .i64 0, .bool false] 26
abbrev rdObj (s : ByteArray) (n : Nat) : Obj := .cells #[.int .i64 (n : Nat), .string s] 38
abbrev gapObj : Obj := .cells #[.slice none 0 0, .bool false] 40
/-- A block of a token's five cells. -/
theorem five_cells {w : World} {g : Nat} {a b c d e : Value} {t : TypeId} (h : w.heap[g]? = some (.cells #[a, b, c, d, e] t)) :
    (w.cell? ⟨g, 0, none⟩ = some a ∧ w.cell? ⟨g, 1, none⟩ = some b ∧ w.cell? ⟨g, 2, none⟩ = some c ∧ w.cell? ⟨g, 3, none⟩ = some d ∧ w.cell? ⟨g, 4, none⟩ = some e) ∧
    (w.frozen? ⟨g, 0, none⟩ = false ∧ w.frozen? ⟨g, 1, none⟩ = false ∧ w.frozen? ⟨g, 2, none⟩ = false ∧ w.frozen? ⟨g, 3, none⟩ = false ∧ w.frozen? ⟨g, 4, none⟩ = false) := by
  simp [World.cell?, World.frozen?, h]
def set5 (w : World) (g : Nat) (a b c d e : Value) : World := ((((w.setCell ⟨g, 0, none⟩ a).setCell ⟨g, 1, none⟩ b).setCell ⟨g, 2, none⟩ c).setCell ⟨g, 3, none⟩ d).setCell ⟨g, 4, none⟩ e
theorem set5_at {w : World} {g : Nat} {a b c d e a' b' c' d' e' : Value} {t : TypeId} (h : w.heap[g]? = some (.cells #[a, b, c, d, e] t)) : (set5 w g a' b' c' d' e').heap[g]? = some (.cells #[a', b', c', d', e'] t) :=
  heap_setCell_same _ g 4 _ t _ (heap_setCell_same _ g 3 _ t _ (heap_setCell_same _ g 2 _ t _ (heap_setCell_same _ g 1 _ t _ (heap_setCell_same _ g 0 _ t _ h))))
theorem set5_below {w u : World} {B g : Nat} {a b c d e : Value} (h : Below B u w) (hg : B ≤ g) : Below B u (set5 w g a b c d e) := ((((h.setCell hg _).setCell hg _).setCell hg _).setCell hg _).setCell hg _
theorem set5_other {w : World} {g k : Nat} {a b c d e : Value} (h : k ≠ g) : (set5 w g a b c d e).heap[k]? = w.heap[k]? := by
  unfold set5
  rw [heap_setCell_other _ _ _ _ h, heap_setCell_other _ _ _ _ h, heap_setCell_other _ _ _ _ h, heap_setCell_other _ _ _ _ h, heap_setCell_other _ _ _ _ h]
theorem one_grown (w : World) (g i : Nat) (a : Value) : w.grownBy (w.setCell ⟨g, i, none⟩ a) (some g) :=
  ⟨rfl, rfl, rfl, by simp [World.setCell], fun k _ hne => heap_setCell_other _ _ _ _ (fun e => hne (by rw [e]))⟩
theorem set5_grown (w : World) (g : Nat) (a b c d e : Value) : w.grownBy (set5 w g a b c d e) (some g) :=
  ((((one_grown w g 0 a).trans (one_grown _ g 1 b)).trans (one_grown _ g 2 c)).trans (one_grown _ g 3 d)).trans (one_grown _ g 4 e)
theorem owns_low {w : World} {H B : Nat} {t : TypeId} {sz : Nat} {v : Value} {n : Nat} {xs : List Value} (h : w.ownsRow H t sz v n xs) (hB : B ≤ H) : w.ownsRow B t sz v n xs := by
  refine ⟨h.1, ?_⟩
  rcases h.2 with hn | ⟨q, cap, cur, h1, h2, h3⟩
  · exact .inl hn
  · exact .inr ⟨q, cap, cur, h1, Nat.le_trans hB h2, h3⟩
/-- The reader as it is laid. -/
theorem rd_new (s : ByteArray) (n : Nat) (hn : n ≤ s.size) (hs : s.size ≤ 4194304) (w : World) (hT : Tabs w.heap.size w) :
    Rd ⟨w.heap.size, w.heap.size + 1, s⟩ (Str.sufL s n) ((w.alloc zeroObj).alloc (rdObj s n)) := by
  have hat : Box.at ⟨w.heap.size, w.heap.size + 1, s⟩ (Str.sufL s n) = n := by show s.size - _ = n; rw [Str.suf_len]; omega
  have h0 : Below w.heap.size w (w.alloc zeroObj) := (Below.refl _ _).alloc (Nat.le_refl _) _
  have hsz : (w.alloc zeroObj).heap.size = w.heap.size + 1 := by simp
  refine ⟨by simp, Nat.le_succ _, ?_, List.drop_suffix _ _, hs, hT.on (h0.alloc h0.size _)⟩
  rw [hat]
  have := tok_new (w.alloc zeroObj) #[.int .i64 (n : Nat), .string s] 38
  rwa [hsz] at this
theorem zero_at (s : ByteArray) (n : Nat) (w : World) : ((w.alloc zeroObj).alloc (rdObj s n)).heap[w.heap.size]? = some zeroObj := by
  have hsz : (w.alloc zeroObj).heap.size = w.heap.size + 1 := by simp
  exact (Below.heap_alloc _ _ _ (by rw [hsz]; omega)).trans (tok_new _ _ _)
theorem two_below (s : ByteArray) (n : Nat) (w : World) : Below w.heap.size w ((w.alloc zeroObj).alloc (rdObj s n)) := by
  have h0 : Below w.heap.size w (w.alloc zeroObj) := (Below.refl _ _).alloc (Nat.le_refl _) _
  exact h0.alloc h0.size _
theorem two_size (s : ByteArray) (n : Nat) (w : World) : ((w.alloc zeroObj).alloc (rdObj s n)).heap.size = w.heap.size + 2 := by simp

theorem goal_no {g : Int} {l : List UInt8} (h : goalB g l = false) : g < 1 ∨ 5 < g ∨ (g = 3 ∧ pre [125] l = false) := by
  unfold goalB at h
  by_cases h1 : g < 1
  · exact Or.inl h1
  by_cases h2 : 5 < g
  · exact Or.inr (Or.inl h2)
  rw [decide_eq_true (show 1 ≤ g ∧ g ≤ 5 by omega), Bool.true_and, Bool.or_eq_false_iff] at h
  exact Or.inr (Or.inr ⟨by have := of_decide_eq_false h.1; omega, h.2⟩)
theorem goal_yes {g : Int} {l : List UInt8} (h : goalB g l = true) : 1 ≤ g ∧ g ≤ 5 ∧ (g = 3 → pre [125] l = true) := by
  unfold goalB at h
  rw [Bool.and_eq_true, Bool.or_eq_true] at h
  have h1 := of_decide_eq_true h.1
  exact ⟨h1.1, h1.2, fun e => h.2.elim (fun h => absurd e (of_decide_eq_true h)) id⟩

set_option maxHeartbeats 8000000 in
set_option maxRecDepth 100000 in
theorem next_goal (s : ByteArray) (n : Nat) (hn : n ≤ s.size) (g : Int) (w : World) (hs : s.size ≤ 4194304) (hT : Tabs w.heap.size w) (hg : goalB g (Str.sufL s n) = false) :
    Calls Tryd.prog 7 #[.string s, .int .i64 (n : Nat), .int .i64 g] w (PostX s w (failA 501 s.data.toList)) := by
  have HRd := Lib.hid (rd_new s n hn hs w hT)
  have Hblk := Lib.hid (zero_at s n w)
  have HB := Lib.hid (two_below s n w)
  rcases goal_no hg with h1 | h1 | ⟨rfl, h1⟩
  · clear hg
    go_enter Tryd.func7, Tryd.ntmps7
    go_wp2_with fail
    refine bodyPost_ret (results_tok rfl _ _ _ _ rfl Hblk.out rfl) rfl ?_
    exact post_fail (by decide) (place_zero s).2 HB.out
  · clear hg
    have h2 : ¬ g < 1 := by omega
    go_enter Tryd.func7, Tryd.ntmps7
    go_wp2_with fail
    refine bodyPost_ret (results_tok rfl _ _ _ _ rfl Hblk.out rfl) rfl ?_
    exact post_fail (by decide) (place_zero s).2 HB.out
  · clear hg
    have H1 := Lib.hid h1
    clear h1
    go_enter Tryd.func7, Tryd.ntmps7
    go_wp2_with fail
    refine (follows_any ⟨w.heap.size, w.heap.size + 1, s⟩ (Str.sufL s n) ⟨#[125]⟩ false H1.out _ HRd.out).mono ?_
    rintro e w3 ⟨rfl, h3, hb3⟩
    have H3 : Hid (w3.heap[w.heap.size]? = some zeroObj ∧ Below w.heap.size w w3) := Lib.hid ⟨(hb3.block _ (by rw [two_size]; omega)).trans Hblk.out, HB.out.trans (hb3.mono HB.out.size)⟩
    clear h3 hb3
    obtain ⟨⟨c0, c1, c2, c3, c4⟩, f0, f1, f2, f3, f4⟩ := five_cells H3.out.1
    go_wp2_with fail
    refine bodyPost_ret (results_tok rfl _ (set5 w3 w.heap.size _ _ _ _ _) _ _ rfl (set5_at H3.out.1) rfl) rfl ?_
    exact post_fail (by decide) (place_zero s).2 (set5_below H3.out.2 (Nat.le_refl _))

/-- What Next's own blocks hold behind the reader's and the gap's laying. -/
theorem gp_new (s : ByteArray) (w w2 : World) (_hb : Below w.heap.size w w2) (h2 : w.heap.size + 2 ≤ w2.heap.size) : Gp ⟨w.heap.size, w.heap.size + 1, s⟩ w2.heap.size (.slice none 0 0) false (w2.alloc gapObj) :=
  ⟨by show w2.heap.size ≠ w.heap.size + 1; omega, by show w.heap.size ≤ _; omega, by simp, tok_new _ _ _⟩

set_option maxHeartbeats 8000000 in
set_option maxRecDepth 100000 in
theorem next_skip (s : ByteArray) (n : Nat) (hn : n ≤ s.size) (g : Int) (w : World) (hs : s.size ≤ 4194304) (hT : Tabs w.heap.size w) (h1 : 1 ≤ g) (h5 : g ≤ 5) (h3 : g ≠ 3) (h4 : g ≠ 4) :
    Calls Tryd.prog 7 #[.string s, .int .i64 (n : Nat), .int .i64 g] w (PostX s w (nextP g (decide (n = 0)) (Str.sufL s n))) := by
  have hrd := rd_new s n hn hs w hT
  have hb := two_below s n w
  have hsz := two_size s n w
  have hz := zero_at s n w
  have hgp := gp_new s w _ hb (by rw [hsz]; omega)
  rw [hsz] at hgp
  have hb3 : Below ((w.alloc zeroObj).alloc (rdObj s n)).heap.size ((w.alloc zeroObj).alloc (rdObj s n)) (((w.alloc zeroObj).alloc (rdObj s n)).alloc gapObj) := (Below.refl _ _).alloc (Nat.le_refl _) _
  have HRd := Lib.hid (hrd.on hb3)
  have HB := Lib.hid (hb.trans (hb3.mono hb.size))
  have HZ : Hid ((((w.alloc zeroObj).alloc (rdObj s n)).alloc gapObj).heap[w.heap.size]? = some zeroObj) := Lib.hid ((hb3.block _ (by rw [hsz]; omega)).trans hz)
  have HGp := Lib.hid hgp
  have Hat : Hid (decide (n = 0) = decide (Box.at ⟨w.heap.size, w.heap.size + 1, s⟩ (Str.sufL s n) = 0)) := Lib.hid (by
    have : Box.at ⟨w.heap.size, w.heap.size + 1, s⟩ (Str.sufL s n) = n := by show s.size - _ = n; rw [Str.suf_len]; omega
    rw [this])
  have b3 : (g == 3) = false := beq_eq_false_iff_ne.2 h3
  have b4 : (g != 3) = true := bne_iff_ne.2 h3
  have b5 : (g != 4) = true := bne_iff_ne.2 h4
  have Hg34 : Hid (¬ (g = 3 ∨ g = 4)) := Lib.hid (fun h => h.elim h3 h4)
  clear hrd hb hsz hz hgp hb3 hT h3 h4
  obtain ⟨R, hR⟩ : ∃ R, nextP g (decide (n = 0)) (Str.sufL s n) = R := ⟨_, rfl⟩
  rw [hR]
  have HR := Lib.hid hR
  clear hR
  go_enter Tryd.func7, Tryd.ntmps7
  go_wp2_with fail
  refine (skip_any ⟨w.heap.size, w.heap.size + 1, s⟩ (w.heap.size + 2) _ (Str.sufL s n) _ HRd.out Hat.out HGp.out).mono ?_
  rintro e w3 ⟨rfl, hr3, ⟨v, hg3, hc3⟩, ht3, hl3⟩
  obtain ⟨G, hG⟩ : ∃ G, skip (decide (n = 0), false, []) (Str.sufL s n) = G := ⟨_, rfl⟩
  rw [hG] at hr3 hg3 hc3 hl3 ⊢
  have HG := Lib.hid hG
  clear hG
  obtain ⟨gc, gl, gcs, gr⟩ := G
  simp only at hr3 hg3 hc3 hl3 ⊢
  have hsz3 : (((w.alloc zeroObj).alloc (rdObj s n)).alloc gapObj).heap.size = w.heap.size + 3 := by simp
  rw [hsz3] at hc3
  have hbel := HB.out.trans (ht3.below (B := w.heap.size) (show w.heap.size ≤ w.heap.size + 1 by omega) (by omega) (by rw [hsz3]; omega))
  have hz3 := (ht3.block w.heap.size (by rw [hsz3]; omega) (show w.heap.size ≠ w.heap.size + 1 by omega) (by omega)).trans HZ.out
  have HNx : Hid (R = ansP ⟨gc, gl, gcs, gr⟩ (tokenP g gr)) := Lib.hid (by
    have : gapP g (decide (n = 0)) (Str.sufL s n) = ⟨gc, gl, gcs, gr⟩ := by rw [gapP, if_neg Hg34.out]; exact HG.out
    rw [← HR.out, nextP, this])
  have HR3 := Lib.hid hr3
  have HG3 := Lib.hid hg3
  have HC3 := Lib.hid hc3
  have HB3 := Lib.hid hbel
  have HZ3 := Lib.hid hz3
  clear hr3 hg3 hc3 ht3 hl3 hbel hz3 hsz3
  have hsuf := HR3.out.suf
  obtain ⟨A, hA⟩ : ∃ A, atS s gr = A := ⟨_, rfl⟩
  have q0 : w3.cell? ⟨w.heap.size + 1, 0, none⟩ = some (.int .i64 (A : Nat)) := by rw [← hA]; exact HR3.out.cell0
  have HA := Lib.hid hA
  clear hA
  by_cases e1 : gc = 0
  · subst e1
    have hat : A ≤ s.size := by rw [← HA.out]; exact Nat.sub_le _ _
    go_wp2_with fail
    refine (token_any ⟨w.heap.size, w.heap.size + 1, s⟩ gr g _ HR3.out (fun e => absurd e (fun e => Hg34.out (Or.inl e)))).mono ?_
    rintro e w4 hp
    obtain ⟨T, hT⟩ : ∃ T, tokenP g gr = T := ⟨_, rfl⟩
    have hTs := token_sf g gr
    have HNx2 : Hid (R = ansP ⟨0, gl, gcs, gr⟩ T) := Lib.hid (by rw [← hT]; exact HNx.out)
    rw [hT] at hp hTs
    clear hT
    obtain ⟨tk, tc, tm⟩ := T
    obtain ⟨rfl, hr4, hb4⟩ := hp
    have hG4 := HG3.out.bar hb4
    have hC4 := HC3.out.bar hb4 (show w.heap.size + 1 < w.heap.size + 3 by omega)
    have hB4 := HB3.out.trans (hb4.below (B := w.heap.size) (show w.heap.size ≤ w.heap.size + 1 by omega) HB3.out.size)
    have hz4 := (hb4.block w.heap.size (World.block_lt_of_cell? w3 _ (five_cells HZ3.out).1.1) (show w.heap.size ≠ w.heap.size + 1 by omega)).trans HZ3.out
    have hlt4 := hG4.lt
    obtain ⟨A2, hA2⟩ : ∃ A, atS s tm = A := ⟨_, rfl⟩
    have hat2 : A2 ≤ s.size := by rw [← hA2]; exact Nat.sub_le _ _
    have hAA : A ≤ A2 := by rw [← hA2, ← HA.out]; have := (show tm <:+ gr from hTs).length_le; unfold atS; omega
    have r0 : w4.cell? ⟨w.heap.size + 1, 0, none⟩ = some (.int .i64 (A2 : Nat)) := by rw [← hA2]; exact hr4.cell0
    have p0 : w4.cell? ⟨w.heap.size + 1 + 1, 0, none⟩ = some v := hG4.cell0
    have p1 : w4.cell? ⟨w.heap.size + 1 + 1, 1, none⟩ = some (.bool gl) := hG4.cell1
    have hup := extract_up ⟨w.heap.size, w.heap.size + 1, s⟩ hsuf (show tm <:+ gr from hTs).length_le
    have HX : Hid (s.extract A A2 = Str.ofL (upTo gr tm)) := Lib.hid (by
      rw [← hup, ofL_data, ← HA.out, ← hA2]; rfl)
    have HA2 := Lib.hid hA2
    have HC4 := Lib.hid hC4
    have HB4 := Lib.hid hB4
    have HZ4 := Lib.hid hz4
    have HTs := Lib.hid hTs
    obtain ⟨⟨c0, c1, c2, c3, c4⟩, f0, f1, f2, f3, f4⟩ := five_cells HZ4.out
    clear hr4 hb4 hG4 hC4 hB4 hz4 hup hA2 hTs q0 hsuf
    by_cases e2 : tc = 0
    · subst e2
      have r0' : (w4.alloc zeroObj).cell? ⟨w.heap.size + 1, 0, none⟩ = some (.int .i64 (A2 : Nat)) := (World.cell?_of_block (Below.heap_alloc _ _ _ (World.block_lt_of_cell? w4 _ r0))).trans r0
      have p0' : (w4.alloc zeroObj).cell? ⟨w.heap.size + 1 + 1, 0, none⟩ = some v := (World.cell?_of_block (Below.heap_alloc _ _ _ (World.block_lt_of_cell? w4 _ p0))).trans p0
      have p1' : (w4.alloc zeroObj).cell? ⟨w.heap.size + 1 + 1, 1, none⟩ = some (.bool gl) := (World.cell?_of_block (Below.heap_alloc _ _ _ (World.block_lt_of_cell? w4 _ p1))).trans p1
      have hlt4' : w.heap.size < w4.heap.size := World.block_lt_of_cell? w4 _ c0
      go_wp2_with fail
      go_region
      rw [HX.out]
      have HRf : Hid (R = ⟨0, [], tk, gr, tm, gl, gcs⟩) := Lib.hid (by rw [HNx2.out, ansP, if_pos rfl, if_pos rfl])
      have hk : ∀ (cs : Array Value), w4.grownBy (w4.alloc (.cells cs 26)).drew none := fun cs => grown_drew (World.grownBy_alloc _ _ _)
      generalize hw : World.drew _ = w5
      have hz5 : w5.heap[w.heap.size]? = some zeroObj := by rw [← hw]; exact ((hk _).block _ hlt4' (by simp)).trans HZ4.out
      have ht5 : w5.heap[w4.heap.size]? = some (.cells #[.int .i64 tk, .string (Str.ofL (upTo gr tm)), .int .i64 (A : Nat), .int .i64 (A2 : Nat), .bool gl] 26) := by rw [← hw]; exact tok_new w4 _ _
      have p5 : w5.cell? ⟨w.heap.size + 1 + 1, 0, none⟩ = some v := by rw [← hw]; exact (World.cell?_of_block ((hk _).block _ (World.block_lt_of_cell? w4 _ p0) (by simp))).trans p0
      have hC5 : w5.ownsRow (w.heap.size + 3) 33 4 v gcs.length (rowV ⟨w.heap.size, w.heap.size + 1, s⟩ gcs) := by rw [← hw]; exact HC4.out.kept (hk _) (by cases v.ownBlock <;> simp)
      have hB5 : Below w.heap.size w w5 := by rw [← hw]; exact (HB4.out.alloc (Nat.le_of_lt hlt4') _).drew
      clear hw hk r0' p0' p1' p0 p1 r0 c0 c1 c2 c3 c4 f0 f1 f2 f3 f4
      obtain ⟨⟨c0, c1, c2, c3, c4⟩, f0, f1, f2, f3, f4⟩ := five_cells hz5
      obtain ⟨⟨d0, d1, d2, d3, d4⟩, _⟩ := five_cells ht5
      have HZ5 := Lib.hid hz5
      have HC5 := Lib.hid hC5
      have HB5 := Lib.hid hB5
      clear hz5 hC5 hB5
      go_wp2_with fail
      go_region
      go_wp2_with fail
      refine bodyPost_ret (results_tok rfl _ (set5 w5 w.heap.size _ _ _ _ _).drew _ _ rfl (set5_at HZ5.out) rfl) rfl ?_
      rw [HRf.out]
      refine ⟨v, ?_, ?_, (set5_below HB5.out (Nat.le_refl _)).drew⟩
      · rw [tokV, if_pos rfl, placeV, if_pos rfl, tokOf]
        show _ = Ending.returned (.tuple #[.agg #[.int .i64 tk, .string (Str.ofL (upTo gr tm)), .int .i64 (atS s gr : Nat), .int .i64 (atS s tm : Nat), .bool gl], v, .int .i64 0, .int .i64 0])
        rw [HA.out, HA2.out]
        rfl
      · have hl := World.ownsRow.lt HC5.out
        exact owns_low (HC5.out.kept (grown_drew (set5_grown w5 w.heap.size _ _ _ _ _)) (by
          cases hv : v.ownBlock with
          | none => exact Or.inl rfl
          | some q => exact Or.inr (fun e => by have := (hl q hv).1; injection e with e; omega))) (by omega)
    · have b2 : (tc != 0) = true := bne_iff_ne.2 e2
      have HRf : Hid (R = failA tc tm) := Lib.hid (by rw [HNx2.out, ansP, if_pos rfl, if_neg e2])
      have He2 := Lib.hid e2
      clear e2
      go_wp2_with fail
      go_region
      go_wp2_with fail
      refine bodyPost_ret (results_tok rfl _ (set5 w4 w.heap.size _ _ _ _ _).drew _ _ rfl (set5_at HZ4.out) rfl) rfl ?_
      rw [HRf.out]
      exact post_fail He2.out (by rw [placeV, if_neg (show (failA tc tm).code ≠ 0 from He2.out), ← HA2.out]; rfl) (set5_below HB4.out (Nat.le_refl _)).drew
  · have b1 : (gc != 0) = true := bne_iff_ne.2 e1
    obtain ⟨⟨c0, c1, c2, c3, c4⟩, f0, f1, f2, f3, f4⟩ := five_cells HZ3.out
    have HRf : Hid (R = failA gc gr) := Lib.hid (by rw [HNx.out, ansP, if_neg (show (⟨gc, gl, gcs, gr⟩ : Gap).code ≠ 0 from e1)])
    have He1 := Lib.hid e1
    clear e1
    go_wp2_with fail
    go_region
    go_wp2_with fail
    refine bodyPost_ret (results_tok rfl _ (set5 w3 w.heap.size _ _ _ _ _).drew _ _ rfl (set5_at HZ3.out) rfl) rfl ?_
    rw [HRf.out]
    exact post_fail He1.out (by rw [placeV, if_neg (show (failA gc gr).code ≠ 0 from He1.out), ← HA.out]; rfl) (set5_below HB3.out (Nat.le_refl _)).drew

end Lex
end Go.Proofs.YtggibhlmnfodaaaDoor
