/-
  The document's own list of a literal's parts.
-/
import Derived.Test.YtddldddehgnobaaDoorStrNext
import Derived.Test.YtddldddehgnobaaDoorStrUnitz
namespace Go.Proofs.YtddldddehgnobaaDoor
namespace Str
open Go.RowKit

/-- Cells that read as parts from a place on. -/
def PartsAt (w : World) : List Value → Nat → List Piece → Prop
  | xs, _, [] => xs = []
  | xs, i, p :: ps => ∃ (b : Option Addr) (n c : Nat) (ch : Int) (rest : List Value), xs = .int .i64 i :: .int .i64 ((i + p.1.length : Nat) : Int) :: .slice b n c :: .int .i64 ch :: rest ∧
      IntsAt w (.slice b n c) (uOf p.2) ∧ (ch = 39 ↔ p.1 = [92, 39]) ∧ (ch = 34 ↔ p.1 = [92, 34]) ∧ PartsAt w rest (i + p.1.length) ps
theorem PartsAt.mono {w w' : World} (hk : ∀ v us, IntsAt w v us → IntsAt w' v us) : ∀ {xs : List Value} {i : Nat} {ps : List Piece}, PartsAt w xs i ps → PartsAt w' xs i ps
  | _, _, [], h => h
  | _, _, _ :: _, ⟨b, n, c, ch, rest, h1, h2, h3, h4, h5⟩ => ⟨b, n, c, ch, rest, h1, hk _ _ h2, h3, h4, PartsAt.mono hk h5⟩
theorem PartsAt.drewN {w : World} {xs : List Value} {i : Nat} {ps : List Piece} (h : PartsAt w xs i ps) (n : Nat) : PartsAt (w.drewN n) xs i ps := PartsAt.mono (w := w) (w' := w.drewN n) (fun _ _ h => h) h
theorem PartsAt.snoc {w : World} {p : Piece} {b : Option Addr} {n c : Nat} {ch : Int} (h2 : IntsAt w (.slice b n c) (uOf p.2)) (h3 : ch = 39 ↔ p.1 = [92, 39]) (h4 : ch = 34 ↔ p.1 = [92, 34]) :
    ∀ {xs : List Value} {i j : Nat} {ps : List Piece}, PartsAt w xs i ps → j = i + (bytesP ps).length → PartsAt w (xs ++ [.int .i64 j, .int .i64 ((j + p.1.length : Nat) : Int), .slice b n c, .int .i64 ch]) i (ps ++ [p])
  | _, i, j, [], h, hj => by
    have hj' : j = i := by simpa [bytesP] using hj
    subst hj'
    have h' : _ = [] := h
    rw [h']
    exact ⟨b, n, c, ch, [], rfl, h2, h3, h4, rfl⟩
  | _, i, j, q :: ps, ⟨b', n', c', ch', rest, e1, e2, e3, e4, e5⟩, hj => by
    subst e1
    refine ⟨b', n', c', ch', _, rfl, e2, e3, e4, PartsAt.snoc h2 h3 h4 e5 ?_⟩
    rw [hj, bytesP_cons, List.length_append]; omega
theorem PartsAt.length {w : World} : ∀ {xs : List Value} {i : Nat} {ps : List Piece}, PartsAt w xs i ps → xs.length = 4 * ps.length
  | _, _, [], h => by have h' : _ = [] := h
                      rw [h']; rfl
  | _, _, _ :: _, ⟨_, _, _, _, _, e1, _, _, _, e5⟩ => by subst e1; have := PartsAt.length e5; simp only [List.length_cons]; omega

theorem take_shape (l : List UInt8) (v : Int) (h : (partL l).2 = some v) : Shape (l.take (partL l).1) v ∧ (l.take (partL l).1).length = (partL l).1 ∧ (∀ n : UInt8, (n = 39 ∨ n = 34) → (qL l = n.toNat ↔ l.take (partL l).1 = [92, n])) := by
  have hpp := part_pos l v h
  have hlen : (l.take (partL l).1).length = (partL l).1 := by rw [List.length_take]; omega
  have hpart : partL (l.take (partL l).1 ++ l.drop (partL l).1) = ((l.take (partL l).1).length, some v) := by rw [List.take_append_drop, hlen, ← h]
  have hs := shape_of _ _ (part_self _ _ v hpart)
  refine ⟨hs, hlen, fun n hn => ?_⟩
  have := qL_iff (l.take (partL l).1) (l.drop (partL l).1) v hs n hn
  rwa [List.take_append_drop] at this

/-- What Parts hands back. -/
def PartsR (s : ByteArray) (w : World) (e : Ending) (w' : World) : Prop :=
  (((litL s.data.toList).2 = none ∧ e = .returned (.tuple #[.slice none 0 0, .int .i64 ((litL s.data.toList).1 : Nat)])) ∨
   ∃ ps v xs, (litL s.data.toList).2 = some ps ∧ e = .returned (.tuple #[v, .int .i64 (-1)]) ∧ w'.ownsRow w.heap.size 56 4 v ps.length xs ∧ PartsAt w' xs 1 ps) ∧ Below w.heap.size w w'

theorem part_info : (Tryd.prog.info? 56).map (fun i => (i.zero, i.size, i.bytes)) = some (some (.agg #[.int .i64 0, .int .i64 0, .slice none 0 0, .int .i64 0]), 4, 48) := by kernel_rfl

theorem cell_four_new (w : World) (a b c d : Value) (t : TypeId) : ∀ j u, [a, b, c, d][j]? = some u → (w.alloc (.cells #[a, b, c, d] t)).cell? ((⟨w.heap.size, 0, none⟩ : Addr).add j) = some u := by
  intro j u hj
  match j, hj with
  | 0, hj => simp at hj; subst hj; simp [Addr.add]
  | 1, hj => simp at hj; subst hj; simp [Addr.add]
  | 2, hj => simp at hj; subst hj; simp [Addr.add]
  | 3, hj => simp at hj; subst hj; simp [Addr.add]
  | j + 4, hj => simp at hj
theorem cell_four_at (w : World) (o : Obj) (a b c d : Value) (t : TypeId) : ∀ j u, [a, b, c, d][j]? = some u → ((w.alloc o).alloc (.cells #[a, b, c, d] t)).cell? ((⟨w.heap.size + 1, 0, none⟩ : Addr).add j) = some u := by
  have := cell_four_new (w.alloc o) a b c d t
  rwa [show (w.alloc o).heap.size = w.heap.size + 1 by simp] at this
theorem own_below {B : Nat} {e : TypeId} {k : Nat} {v : Value} {n : Nat} {xs : List Value} {w w' : World} (h : w.ownsRow B e k v n xs) (hb : Below w.heap.size w w') : w'.ownsRow B e k v n xs := by
  refine ⟨h.1, ?_⟩
  rcases h.2 with h1 | ⟨g, cap, cur, h1, h2, h3, h4⟩
  · exact Or.inl h1
  · exact Or.inr ⟨g, cap, cur, h1, h2, blk_keep h3 hb, h4⟩
theorem p_kept {B : Nat} {e : TypeId} {k : Nat} {v : Value} {n : Nat} {xs : List Value} {w w' : World} {A C : Obj} (h : w.ownsRow B e k v n xs) (hg : ((w.alloc A).alloc C).grownBy w' v.ownBlock) : w'.heap[w.heap.size]? = some A := by
  rw [hg.block w.heap.size (by simp; omega) (fun e' => by
    rcases h.2 with ⟨h1, _⟩ | ⟨g, cap, cur, h1, _, h3, _⟩
    · subst h1; cases e'
    · subst h1
      simp only [Value.ownBlock, Option.some.injEq] at e'
      have := heap_lt h3
      omega)]
  exact blk_a w A C
theorem ints_grown {B : Nat} {k : Nat} {v v0 : Value} {n : Nat} {xs : List Value} {us : List Int} {w w' : World} (h : w.ownsRow B 56 k v n xs) (hg : w.grownBy w' v.ownBlock) (hi : IntsAt w v0 us) : IntsAt w' v0 us := by
  rcases h.2 with ⟨h1, _⟩ | ⟨g, cap, cur, h1, _, h3, _⟩
  · subst h1
    exact hi.keep ⟨hg.os, hg.tape, hg.output, hg.size, fun k hk => hg.block k hk (by simp [Value.ownBlock])⟩
  · subst h1
    refine hi.but g (fun k hk hne => hg.block k hk (by simp only [Value.ownBlock, ne_eq, Option.some.injEq]; exact hne)) (NotInt.of h3 (by decide))

set_option maxHeartbeats 8000000 in
set_option maxRecDepth 20000 in
theorem parts_lit (s : ByteArray) (w : World) (hz : s.size ≤ 16777216) (h0 : 0 < s.size) (q : UInt8) (hq : q = 39 ∨ q = 34) (hsq : s[0] = q) :
    Calls Tryd.prog 22 #[.string s] w (PartsR s w) := by
  have hm : s.size ≤ maxLen := by unfold maxLen; omega
  obtain ⟨R, hR⟩ : ∃ R, scanL q (sufL s 1) = R := ⟨_, rfl⟩
  have HF := Lib.hid (lit_some s h0 (by rw [hsq]; exact hq) R (by rw [hsq]; exact hR))
  have HR := Lib.hid hR
  clear hR
  have Hq := Lib.hid hq
  have hqt : q.toNat = 39 ∨ q.toNat = 34 := by rcases hq with rfl | rfl <;> simp
  have hq256 : (q.toNat : Int) < 256 := by omega
  have hne : ¬ s = ByteArray.empty := by intro e; rw [e] at h0; exact absurd h0 (by decide)
  have hne2 : ((s.size : Int) == 0) = false := beq_eq_false_iff_ne.2 (by omega)
  clear hq
  go_enter Tryd.func22, Tryd.ntmps22
  obtain ⟨i0, hi, hz0, hz1, hz2⟩ := info_parts part_info
  have HI := Lib.hid (And.intro hi (And.intro hz0 (And.intro hz1 hz2)))
  clear hi hz0 hz1 hz2
  go_upto_region 2 with fail
  go_cut [20] from 8 to 20 (fun c wx => c = .bool false ∧ wx = w)
  case first =>
    rcases Hq.out with rfl | rfl
    all_goals
      go_wp2_with fail
      go_meet
      exact ⟨rfl, rfl⟩
  case rest =>
    obtain ⟨rfl, hw⟩ := hcut
    rw [hw]
    clear hw
    go_wp2_with fail
    go_loopg [4, 5, 6, 7] s.size (fun g out iv _ _ wr => ∃ (qs : List Piece) (xs : List Value) (k : Nat), g + k = s.size + 1 ∧ k ≤ s.size ∧ k = 1 + (bytesP qs).length ∧ iv = .int .i64 k ∧ R.1 + 1 = k + (scanL q (sufL s k)).1 ∧ R.2 = (scanL q (sufL s k)).2.map (qs ++ ·) ∧
      wr.ownsRow w.heap.size 56 4 out qs.length xs ∧ PartsAt wr xs 1 qs ∧ Below w.heap.size w wr ∧ qs.length ≤ k)
    case atStart =>
      refine ⟨[], [], 1, by omega, by omega, rfl, rfl, by rw [HR.out]; omega, ?_, World.ownsRow_nil _ _ _ _, rfl, Below.refl _ _, by simp⟩
      rw [HR.out]; cases R.2 <;> simp
    case round =>
      obtain ⟨qs, xs, k, hg, hk, hkq, rfl, hr1, hr2, hown, hparts, hbel, hql⟩ := hrel
      have HG := Lib.hid hg; have HKQ := Lib.hid hkq; have HR1 := Lib.hid hr1; have HR2 := Lib.hid hr2
      have HO := Lib.hid hown; have HP := Lib.hid hparts; have HB := Lib.hid hbel
      clear hg hkq hr1 hr2 hown hparts hbel
      by_cases hlt : k < s.size
      · have hb0 : ((s[0]'h0).toNat : Int) < 256 := by have := (s[0]'h0).toNat_lt; omega
        have hD := head_q s k q
        have HNX := Lib.hid (fun W => next_any s k W hz hlt)
        have hat := headV_at s k hlt
        have gb : ((s[k]'hlt).toNat : Int) < 256 := by have := (s[k]'hlt).toNat_lt; omega
        obtain ⟨C, hC⟩ : ∃ C : Nat, (s[k]'hlt).toNat = C := ⟨_, rfl⟩
        rw [hat, hC] at hD
        rw [hC] at gb
        clear hat
        by_cases hq : (sufL s k).head? = some q
        · have heq : (C : Int) = (q.toNat : Int) := hD.2 hq
          have g7 : ((C : Int) == (q.toNat : Int)) = true := by simp [heq]
          have HS := Lib.hid (scan_close q (sufL s k) hq)
          obtain ⟨ps, hps⟩ : ∃ ps, R.2 = some ps := by
            have h := HR2.out
            rw [HS.out] at h
            exact ⟨_, h⟩
          have hpq : ps = qs := by
            have h := HR2.out
            rw [HS.out, hps] at h
            simpa using h
          subst hpq
          have hR1 : R.1 + 1 = k := by have h := HR1.out; rw [HS.out] at h; exact h
          have HL : Hid (litL s.data.toList = if k + 1 < s.size then (k + 1, none) else (0, some ps)) := Lib.hid (by
            have h := HF.out
            rw [hps] at h
            rw [h]
            show (if R.1 + 2 < s.size then (R.1 + 2, none) else (0, some ps)) = _
            rw [show R.1 + 2 = k + 1 by omega])
          clear hR1 hps hD hq heq
          by_cases hend : k + 1 < s.size
          · go_wp2_with fail
            go_quiet (fail)
            go_wp2_with fail
            go_ret2
            exact ⟨Or.inl ⟨by rw [HL.out, if_pos hend], by rw [HL.out, if_pos hend]; rfl⟩, below_drewN HB.out _⟩
          · go_wp2_with fail
            go_quiet (fail)
            go_wp2_with fail
            go_ret2
            exact ⟨Or.inr ⟨ps, _, xs, by rw [HL.out, if_neg hend], rfl, HO.out, HP.out.drewN _⟩, below_drewN HB.out _⟩
        · have heq : ¬ (C : Int) = (q.toNat : Int) := fun e => hq (hD.1 e)
          have g7 : ((C : Int) == (q.toNat : Int)) = false := beq_eq_false_iff_ne.2 heq
          have HQ := Lib.hid hq
          clear hD hq heq
          go_wp2_with fail
          go_quiet (fail)
          go_wp2_with fail
          obtain ⟨W1, hW1⟩ : ∃ W1, wr.drewN nq = W1 := ⟨_, rfl⟩
          have hO1 : W1.ownsRow w.heap.size 56 4 u4 qs.length xs := by rw [← hW1]; exact HO.out
          have hP1 : PartsAt W1 xs 1 qs := by rw [← hW1]; exact HP.out.drewN _
          have hB1 : Below w.heap.size w W1 := by rw [← hW1]; exact below_drewN HB.out _
          rw [hW1]
          clear hW1
          refine (HNX.out _).mono ?_
          rintro e w2 ⟨b, n, c, ch, rfl, hI, hb2⟩
          have HII := Lib.hid hI
          have HO2 := Lib.hid (own_below hO1 hb2)
          have HP2 := Lib.hid (hP1.mono (fun _ _ h => h.keep hb2))
          have HB2 := Lib.hid (hB1.trans (hb2.mono hB1.size))
          clear hI hO1 hP1 hB1 hb2
          have HN := Lib.hid (scan_bad q (sufL s k) HQ.out)
          have HS2 := Lib.hid (fun v => scan_step q (sufL s k) v HQ.out)
          have HPP := Lib.hid (part_pos (sufL s k))
          have HPL := Lib.hid (part_le (sufL s k)).1
          have HSD := Lib.hid (suf_drop s k)
          have HSF := Lib.hid (fun v (h : (partL (sufL s k)).2 = some v) => take_shape (sufL s k) v h)
          rw [suf_len] at HPP HPL
          obtain ⟨K, hK⟩ : ∃ K, partL (sufL s k) = K := ⟨_, rfl⟩
          rw [hK] at HN HS2 HPP HPL HII HSF ⊢
          clear hK
          obtain ⟨j, v⟩ := K
          cases v with
          | none =>
            have HS := Lib.hid (HN.out rfl)
            go_wp2_with fail
            go_quiet (fail)
            go_wp2_with fail
            go_ret2
            have h1 := HR1.out
            have h2 := HR2.out
            rw [HS.out] at h1 h2
            have h3 := HF.out
            have h2' : R.2 = none := h2
            rw [h2'] at h3
            have h3' : litL s.data.toList = (R.1 + 1, none) := h3
            refine ⟨Or.inl ⟨by rw [h3'], ?_⟩, ?_⟩
            · rw [h3']
              show _ = Ending.returned (.tuple #[.slice none 0 0, .int .i64 ((R.1 + 1 : Nat) : Int)])
              rw [h1]
              simp
            · exact below_drewN (HB2.out.alloc HB2.out.size _) _
          | some v =>
            have HS := Lib.hid (HS2.out v rfl)
            have hpp := HPP.out v rfl
            obtain ⟨hI1, hI2, hI3⟩ := HII.out v rfl
            obtain ⟨hsh, hlen, hqq⟩ := HSF.out v rfl
            have HSH := Lib.hid hsh
            have HI1 := Lib.hid hI1
            have h39 : ch = 39 ↔ (sufL s k).take j = [92, 39] := hI2.trans (hqq 39 (Or.inl rfl))
            have h34 : ch = 34 ↔ (sufL s k).take j = [92, 34] := hI3.trans (hqq 34 (Or.inr rfl))
            have H39 := Lib.hid h39
            have H34 := Lib.hid h34
            have HLEN := Lib.hid hlen
            have hkj : k + j ≤ s.size := by omega
            have hj1 : 1 ≤ j := hpp.1
            clear hI1 hI2 hI3 hsh hlen hqq h39 h34 hpp HPP HS2 HN HSF HII
            obtain ⟨hi, hz0, hz1, hz2⟩ := HI.out
            go_wp2_with (first
              | (at_builtin; refine wpList_append_own _ rfl _ _ 51 rfl w.heap.size 56 i0 (.agg #[.int .i64 0, .int .i64 0, .slice none 0 0, .int .i64 0]) 4 48 Tryd.underlying51 hi hz0 hz1 hz2 rfl (by decide) _ qs.length xs rfl ((HO2.out.alloc _).alloc _) ⟨w2.heap.size + 1, 0, none⟩ 1 1 [.int .i64 k, .int .i64 ((k : Int) + (j : Int)), .slice b n c, .int .i64 ch] rfl rfl (cell_four_at w2 _ _ _ _ _ _) (fun x hx => by simp at hx; rcases hx with rfl | rfl | rfl | rfl <;> rfl) (by unfold maxLen; omega) (by omega) (by have := HB2.out.size; simp; omega) ?_; intro v' w3 hown' hgrow3 hnil3; have hpc := blk_cell (p_kept HO2.out hgrow3) 1; have HG3 := Lib.hid hgrow3; have HO3 := Lib.hid hown'; clear hown' hgrow3 hnil3))
            go_roundg (gk - j)
            case rel =>
              have h1 := HR1.out
              have h2 := HR2.out
              rw [HS.out, HSD.out] at h1 h2
              have h3 := HG.out
              have hl := HLEN.out
              have hsz := HB2.out.size
              have hIk : ∀ v us, IntsAt w2 v us → IntsAt w3 v us := fun v us hi => ints_grown ((HO2.out.alloc _).alloc _) HG3.out ((hi.keep ((Below.refl _ _).alloc (Nat.le_refl _) _)).keep ((Below.refl _ _).alloc (Nat.le_refl _) _))
              refine ⟨qs ++ [((sufL s k).take j, v)], xs ++ [.int .i64 k, .int .i64 ((k : Int) + (j : Int)), .slice b n c, .int .i64 ch], k + j, by omega, hkj, ?_, congrArg _ (by omega), ?_, ?_, ?_, ?_, ?_, ?_⟩
              · have := HKQ.out
                rw [bytesP_app, List.length_append]
                have e : bytesP [((sufL s k).take j, v)] = (sufL s k).take j := by simp [bytesP]
                rw [e, hl]; omega
              · simp only at h1; omega
              · rw [h2]; simp [Function.comp_def]
              · rw [List.length_append]; exact HO3.out
              · have := PartsAt.snoc (p := ((sufL s k).take j, v)) (hIk _ _ HI1.out) H39.out H34.out (HP2.out.mono hIk) HKQ.out
                have e : ((k + ((sufL s k).take j).length : Nat) : Int) = (k : Int) + (j : Int) := by rw [hl]; omega
                simp only [e] at this
                exact this
              · exact ((HB2.out.alloc HB2.out.size _).alloc (by simp; omega) _).grown HG3.out (by simp; omega) (fun g hgk => (HO2.out.lt g hgk).1)
              · rw [List.length_append]; simp; omega
            case measure =>
              have h3 := HG.out
              omega
      · have hks : k = s.size := by omega
        have HN : Hid (litL s.data.toList = (s.size, none)) := Lib.hid (by
          have h1 := HR1.out; have h2 := HR2.out; have h3 := HF.out
          rw [suf_nil s k hlt, scan_bad q [] (by simp) rfl] at h1 h2
          rw [h2] at h3
          rw [h3]
          show (R.1 + 1, none) = _
          rw [h1, hks]; rfl)
        subst hks
        go_wp2_with fail
        go_ret2
        exact ⟨Or.inl ⟨by rw [HN.out], by rw [HN.out]; rfl⟩, HB.out⟩

set_option maxHeartbeats 1000000 in
theorem parts_nil (w : World) : Calls Tryd.prog 22 #[.string ByteArray.empty] w fun e w' => e = .returned (.tuple #[.slice none 0 0, .int .i64 0]) ∧ Below w.heap.size w w' := by
  go_enter Tryd.func22, Tryd.ntmps22
  go_wp2_with fail
  go_ret2
  exact ⟨rfl, Below.refl _ _⟩

set_option maxHeartbeats 1000000 in
theorem parts_any (s : ByteArray) (w : World) (hz : s.size ≤ 16777216) : Calls Tryd.prog 22 #[.string s] w (PartsR s w) := by
  by_cases h0 : 0 < s.size
  · by_cases h1 : s[0] = 39
    · exact parts_lit s w hz h0 39 (Or.inl rfl) h1
    by_cases h2 : s[0] = 34
    · exact parts_lit s w hz h0 34 (Or.inr rfl) h2
    have HL := Lib.hid (lit_none s h0 h1 h2)
    have t1 : (((s[0]'h0).toNat : Int) != 39) = true := bne_iff_ne.2 (fun e => h1 (byte_of (n := 39) e (by decide)))
    have t2 : (((s[0]'h0).toNat : Int) != 34) = true := bne_iff_ne.2 (fun e => h2 (byte_of (n := 34) e (by decide)))
    have hne2 : ((s.size : Int) == 0) = false := beq_eq_false_iff_ne.2 (by omega)
    have hne : ¬ s = ByteArray.empty := by intro e; rw [e] at h0; exact absurd h0 (by decide)
    clear h1 h2
    go_enter Tryd.func22, Tryd.ntmps22
    go_wp2_with fail
    go_ret2
    exact ⟨Or.inl ⟨by rw [HL.out], by rw [HL.out]; rfl⟩, Below.refl _ _⟩
  · have HL := lit_bad s (by omega)
    obtain rfl : s = ByteArray.empty := by
      apply ByteArray.ext
      exact Array.eq_empty_of_size_eq_zero (by have : s.size = 0 := by omega
                                               exact this)
    refine (parts_nil w).mono ?_
    rintro e w' ⟨rfl, hb⟩
    exact ⟨Or.inl ⟨by rw [HL], by rw [HL]; rfl⟩, hb⟩

end Str
end Go.Proofs.YtddldddehgnobaaDoor
