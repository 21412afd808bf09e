/-
  The document's own side: Entities.
-/
import Derived.Test.YtcalgpkcefccmaaDoorJsxRefT
import Derived.Laws.Cover4
import Derived.Maps.AppendAt
import Derived.Lib.BufferRead
namespace Go.Proofs.YtcalgpkcefccmaaDoor
namespace Jsx
open Go.RowKit Go.Maps

theorem row_snoc {w : World} {B : Nat} {v : Value} {acc : List UInt8} {c : UInt8} (h : w.ownsRowF B 5 1 v (acc.length + 1) (Lib.byteCells acc ++ [.int .u8 c.toNat])) : w.ownsRowF B 5 1 v (acc ++ [c]).length (Lib.byteCells (acc ++ [c])) := by
  rw [List.length_append, List.length_singleton, show Lib.byteCells (acc ++ [c]) = Lib.byteCells acc ++ [.int .u8 c.toNat] by simp [Lib.byteCells]]
  exact h
theorem row_text {w : World} {B : Nat} {v : Value} {acc l : List UInt8} {s : ByteArray} (h : w.ownsRowF B 5 1 v (acc.length + s.size) (Lib.byteCells acc ++ Lib.strCells s)) (hl : s.data.toList = l) : w.ownsRowF B 5 1 v (acc ++ l).length (Lib.byteCells (acc ++ l)) := by
  subst hl
  rw [List.length_append, list_size, show Lib.byteCells (acc ++ s.data.toList) = Lib.byteCells acc ++ Lib.strCells s by simp [Lib.byteCells, Lib.strCells]]
  exact h
theorem rune_made (w : World) (x : Int) :
    (convert 40 9 (.slice (some ⟨w.heap.size, 0, none⟩) 1 1)).run Tryd.prog (w.alloc (.cells #[.int .i32 x] 21)) = .ok (.string (runesBytes [x])) (w.alloc (.cells #[.int .i32 x] 21)) := by
  have := run_convert_runes (P := Tryd.prog) (w.alloc (.cells #[.int .i32 x] 21)) 40 9 21 ⟨w.heap.size, 0, none⟩ 1 1 [x] (by simp) Tryd.underlying40 Tryd.underlying21 Tryd.underlying9 (fun j hj => by
    rw [show (⟨w.heap.size, 0, none⟩ : Addr).add j = ⟨w.heap.size, j, none⟩ from by simp [Addr.add]; omega, World.cell?_alloc_at _ _ _ _ rfl]
    match j, hj with
    | 0, _ => rfl)
  exact this
theorem enc_valid (v : Nat) (h : ¬ badV v) : Utf8.valid (v : Int) = true := by
  have : (0 ≤ (v : Int) ∧ (v : Int) < 55296) ∨ (57343 < (v : Int) ∧ (v : Int) ≤ 1114111) := by unfold badV at h; omega
  simp only [Utf8.valid, Bool.or_eq_true, Bool.and_eq_true, decide_eq_true_eq]
  omega
theorem rune_list (v : Nat) (h : ¬ badV v) : (runesBytes [(v : Int)]).data.toList = Lib.encodeRune v := by
  have hv := enc_valid v h
  have e : runesBytes [(v : Int)] = ByteArray.empty ++ Utf8.encode v := rfl
  rw [e, ByteArray.empty_append]
  unfold Utf8.encode
  simp only [hv, if_true, Int.toNat_natCast]
  unfold badV at h
  by_cases c1 : v < 128
  · rw [if_pos c1, Lib.encodeRune, Lib.encodeRuneZ_one (by omega) (by omega)]; rfl
  rw [if_neg c1]
  by_cases c2 : v < 2048
  · rw [if_pos c2, Lib.encodeRune, Lib.encodeRuneZ_two (by omega) (by omega)]
    simp only [List.map_cons, List.map_nil]
    rw [show ((192 : Int) + (v : Int) / 64).toNat = 192 + v / 64 by omega, show ((128 : Int) + (v : Int) % 64).toNat = 128 + v % 64 by omega]
  rw [if_neg c2]
  by_cases c3 : v < 65536
  · rw [if_pos c3, Lib.encodeRune, Lib.encodeRuneZ_three (by omega)]
    simp only [List.map_cons, List.map_nil]
    rw [show ((224 : Int) + (v : Int) / 4096).toNat = 224 + v / 4096 by omega, show ((128 : Int) + (v : Int) / 64 % 64).toNat = 128 + v / 64 % 64 by omega, show ((128 : Int) + (v : Int) % 64).toNat = 128 + v % 64 by omega]
  · rw [if_neg c3, Lib.encodeRune, Lib.encodeRuneZ_four (by omega) (by omega)]
    simp only [List.map_cons, List.map_nil]
    rw [show ((240 : Int) + (v : Int) / 262144).toNat = 240 + v / 262144 by omega, show ((128 : Int) + (v : Int) / 4096 % 64).toNat = 128 + v / 4096 % 64 by omega, show ((128 : Int) + (v : Int) / 64 % 64).toNat = 128 + v / 64 % 64 by omega, show ((128 : Int) + (v : Int) % 64).toNat = 128 + v % 64 by omega]
/-- The row as a string. -/
theorem conv_row {w : World} {B : Nat} {v : Value} {acc : List UInt8} (h : w.ownsRowF B 5 1 v acc.length (Lib.byteCells acc)) : (convert 45 9 v).run Tryd.prog w = .ok (.string (ofL acc)) w := by
  have hc := h
  rcases h.2 with ⟨rfl, h0⟩ | ⟨g, cap, cur, fz, rfl, -⟩
  · have : acc = [] := List.eq_nil_of_length_eq_zero h0
    subst this
    exact Lib.run_convert_nil_bytes w 45 9 5 0 Tryd.underlying45 Tryd.underlying5 Tryd.underlying9
  · refine run_convert_bytes_back (P := Tryd.prog) w 45 9 5 ⟨g, 0, none⟩ cap acc Tryd.underlying45 Tryd.underlying5 Tryd.underlying9 (fun j hj => ?_)
    exact hc.cells rfl j _ (by simp [Lib.byteCells, hj])
theorem EntsAt.plain {L : List UInt8} {p : Nat} {acc t : List UInt8} {c : UInt8} (h : EntsAt L p acc) (hl : L.drop p = c :: t) (hc : c ≠ 38) : EntsAt L (p + 1) (acc ++ [c]) := by
  have e : L.drop (p + 1) = t := by rw [← List.drop_drop, hl]; rfl
  unfold EntsAt at h ⊢
  rw [h, hl, ents_plain _ _ _ hc, prep_prep, e]
theorem EntsAt.done {L : List UInt8} {p : Nat} {acc : List UInt8} (h : EntsAt L p acc) (hp : L.length ≤ p) : ents 0 0 L = .ok acc := by
  unfold EntsAt at h
  rw [h, List.drop_eq_nil_of_le hp, ents_nil]; simp [prep]

theorem rnum_any (s : ByteArray) (l : List UInt8) (w : World) (hl : s.data.toList = 35 :: l) (hs : s.size ≤ 140737488355328) :
    Calls Tryd.prog 29 #[.string s] w fun e w' => e = .returned (.int .i64 (numV l)) ∧ w = w' := by
  by_cases h : l.head? = some 120
  · obtain ⟨r, rfl⟩ : ∃ r, l = 120 :: r := by cases l with | nil => cases h | cons a b => simp at h; exact ⟨b, by rw [h]⟩
    exact rnum_hex s r w hl hs
  · exact rnum_dec s l w hl h hs

set_option maxRecDepth 100000 in
set_option maxHeartbeats 8000000 in
theorem rents_any (s : ByteArray) (w : World) (hs : s.size ≤ 140737488351232) :
    Calls Tryd.prog 10 #[.string s] w fun e w' => e = .returned (entsR (ents 0 0 s.data.toList)) ∧ Below w.heap.size w w' := by
  obtain ⟨i0, hi, hz0, hz1, hz2⟩ := info_parts info8
  generalize hL : s.data.toList = L
  have HL := Lib.hid hL; clear hL
  have hz : L.length = s.size := by rw [← HL.out]; exact list_size s
  have HZ := Lib.hid hz; clear hz
  go_enter Tryd.func10, Tryd.ntmps10
  go_wp2_with fail
  go_loopw [5, 6] (fun o i wr => ∃ (p : Nat) (acc : List UInt8), i = .int .i64 p ∧ p ≤ s.size ∧ acc.length ≤ p ∧ wr.ownsRowF w.heap.size 5 1 o acc.length (Lib.byteCells acc) ∧ Below w.heap.size w wr ∧ Hid (EntsAt L p acc)) (fun _ i _ => s.size - (intOf i).toNat)
  case atStart => exact ⟨0, [], rfl, by omega, by simp, World.ownsRowF_nil _ _ _ _, Below.refl _ _, Lib.hid (EntsAt.start L)⟩
  case round =>
    obtain ⟨p, acc, rfl, hp, ha, ho, hbw, Hs⟩ := hrel
    have HO := Lib.hid ho; clear ho
    have HB := Lib.hid hbw; clear hbw
    by_cases hlt : p < s.size
    · have Hd : Hid (L.drop p = s[p] :: L.drop (p + 1)) := Lib.hid (by rw [← HL.out]; exact drop_at s p hlt)
      by_cases h38 : s[p] = 38
      · have H38 := Lib.hid h38
        have h38' : ((s[p]'hlt).toNat : Int) = 38 := by rw [h38]; rfl
        clear h38
        obtain ⟨t, ht⟩ : ∃ t, L.drop (p + 1) = t := ⟨_, rfl⟩
        have Ht := Lib.hid ht
        have Hl : Hid (L.drop p = 38 :: t) := Lib.hid (by rw [Hd.out, H38.out, ht])
        have htl : t.length = s.size - (p + 1) := by rw [← ht, List.length_drop, HZ.out]
        have HTL := Lib.hid htl
        clear ht Hd htl
        have hm1 : (ampF t).length ≤ s.size - (p + 1) := by rw [← HTL.out]; exact (List.takeWhile_prefix _).length_le
        have hget : ∀ j (hj : j < t.length), s[p + 1 + j]'(by have := HTL.out; omega) = t[j] := by
          intro j hj
          have hb : p + 1 + j < s.size := by have := HTL.out; omega
          refine get_list s L HL.out (p + 1 + j) hb _ ?_
          rw [← List.getElem?_drop, Ht.out]; simp
        have hin : ∀ j (hj : j < (ampF t).length), ∃ hb : p + 1 + j < s.size, ((((s[p + 1 + j]'hb).toNat : Nat) : Int) != 59) = true ∧ ((((s[p + 1 + j]'hb).toNat : Nat) : Int) != 38) = true := by
          intro j hj
          have hb : p + 1 + j < s.size := by omega
          have hjt : j < t.length := by have := HTL.out; omega
          refine ⟨hb, ?_⟩
          have e : s[p + 1 + j]'hb = (ampF t)[j] := by
            rw [hget j hjt]; exact ((List.takeWhile_prefix (fun c : UInt8 => c != 59 && c != 38)).getElem hj).symm
          have := amp_free t _ (List.getElem_mem hj)
          rw [← e] at this
          exact ⟨bne_iff_ne.2 (fun h => this.1 (UInt8.toNat_inj.1 (by show _ = 59; omega))), bne_iff_ne.2 (fun h => this.2 (UInt8.toNat_inj.1 (by show _ = 38; omega)))⟩
        have hend : ∀ (r : List UInt8) (c : UInt8), t = ampF t ++ c :: r → ∃ hb : p + 1 + (ampF t).length < s.size, s[p + 1 + (ampF t).length]'hb = c := by
          intro r c e
          have hl2 : (ampF t).length < t.length := by
            have := congrArg List.length e
            rw [List.length_append, List.length_cons] at this; omega
          have hb : p + 1 + (ampF t).length < s.size := by have := HTL.out; omega
          refine ⟨hb, ?_⟩
          rw [hget _ hl2]
          have : t[(ampF t).length]? = some c := by
            rw [e]
            have e2 : ampF (ampF t ++ c :: r) = ampF t := by rw [← e]
            rw [e2]; simp
          rw [List.getElem?_eq_getElem hl2] at this
          exact Option.some.inj this
        have hname : (s.extract (p + 1) (p + 1 + (ampF t).length)).data.toList = ampF t := by
          rw [mid_str, ofL_list, HL.out, Ht.out, show p + 1 + (ampF t).length - (p + 1) = (ampF t).length by omega]
          exact (List.prefix_iff_eq_take.1 (List.takeWhile_prefix _)).symm
        have Hin := Lib.hid hin
        have Hend := Lib.hid hend
        have Hname := Lib.hid hname
        clear hget hin hend hname
        generalize hm : (ampF t).length = m at *
        have Hm := Lib.hid hm; clear hm
        go_wp2_with fail
        go_loop [7] (fun kv => ∃ j : Nat, kv = .int .i64 (p + 1 + j : Nat) ∧ j ≤ m) (fun kv => s.size - (intOf kv).toNat)
        case atStart => exact ⟨0, by go_num, by omega⟩
        case round =>
          obtain ⟨j, rfl, hj⟩ := hrel
          by_cases hjm : j < m
          · obtain ⟨hb, hb1, hb2⟩ := Hin.out j hjm
            go_wp2_with fail
            go_round
            case rel => exact ⟨j + 1, by go_num, by omega⟩
            case measure => simp [intOf]; omega
          · obtain rfl : j = m := by omega
            clear hjm hj Hin
            rcases amp_split t with e1 | ⟨r, e2⟩ | ⟨r, e3⟩
            · have he := ent_open t (.inl e1)
              have hno : ¬ ((p : Int) + 1 + (j : Int) < (s.size : Int)) := by
                have h1 := Hm.out
                rw [← e1] at h1
                have := HTL.out; omega
              clear e1
              have Hs3 : Hid (EntsAt L (p + 1) (acc ++ [38])) := Lib.hid (Hs.out.none Hl.out he)
              clear he
              go_wp2_with (at_builtin; refine wpList_append_ownF _ rfl _ _ 45 rfl w.heap.size 5 i0 (.int .u8 0) 1 1 Tryd.underlying45 hi hz0 hz1 hz2 rfl (by decide) _ acc.length (Lib.byteCells acc) rfl (HO.out.alloc _) ⟨wr.heap.size, 0, none⟩ 1 1 [.int .u8 38] rfl rfl (cell_one_new _ _ _) (fun x hx => by simp at hx; subst hx; rfl) (by unfold maxLen; omega) (by omega) (by have := HB.out.size; simp; omega) ?_; intro v' w' hown' hgrow' hnil'; have HO' := Lib.hid (row_snoc (c := 38) hown'); have HB' := Lib.hid ((HB.out.alloc HB.out.size _).grown hgrow' (by have := HB.out.size; simp; omega) (fun g hg => (HO.out.lt g hg).1)); clear hown' hgrow' hnil')
              go_roundw
              case rel => exact ⟨p + 1, acc ++ [38], by go_num, by omega, by rw [List.length_append]; simp; omega, HO'.out, HB'.out, Hs3⟩
              case measure => simp [intOf]; omega
            · obtain ⟨hb, h59⟩ := Hend.out r 59 e2
              have h59' : ((((s[p + 1 + j]'hb).toNat : Nat) : Int) != 59) = false := by rw [h59]; rfl
              clear h59
              by_cases hj0 : j = 0
              · subst hj0
                have hnil : ampF t = [] := List.eq_nil_of_length_eq_zero Hm.out
                have he : entF t = none := by rw [e2, hnil]; exact ent_empty r
                clear e2 hnil
                have Hs3 : Hid (EntsAt L (p + 1) (acc ++ [38])) := Lib.hid (Hs.out.none Hl.out he)
                clear he
                go_wp2_with (at_builtin; refine wpList_append_ownF _ rfl _ _ 45 rfl w.heap.size 5 i0 (.int .u8 0) 1 1 Tryd.underlying45 hi hz0 hz1 hz2 rfl (by decide) _ acc.length (Lib.byteCells acc) rfl (HO.out.alloc _) ⟨wr.heap.size, 0, none⟩ 1 1 [.int .u8 38] rfl rfl (cell_one_new _ _ _) (fun x hx => by simp at hx; subst hx; rfl) (by unfold maxLen; omega) (by omega) (by have := HB.out.size; simp; omega) ?_; intro v' w' hown' hgrow' hnil'; have HO' := Lib.hid (row_snoc (c := 38) hown'); have HB' := Lib.hid ((HB.out.alloc HB.out.size _).grown hgrow' (by have := HB.out.size; simp; omega) (fun g hg => (HO.out.lt g hg).1)); clear hown' hgrow' hnil')
                go_roundw
                case rel => exact ⟨p + 1, acc ++ [38], by go_num, by omega, by rw [List.length_append]; simp; omega, HO'.out, HB'.out, Hs3⟩
                case measure => simp [intOf]; omega
              · have hjn : ((p : Int) + 1 + (j : Int) == (p : Int) + 1) = false := beq_eq_false_iff_ne.2 (by omega)
                have hjp : 0 < j := by omega
                have hszn : 0 < min (p + 1 + j) s.size - (p + 1) := by omega
                have hns : (s.extract (p + 1) (p + 1 + j)).size ≤ 140737488355328 := by simp; omega
                have hne : ampF t ≠ [] := fun x => hj0 (by rw [← Hm.out, x]; rfl)
                by_cases hh : (ampF t).head? = some 35
                · obtain ⟨l, hl0⟩ : ∃ l, ampF t = 35 :: l := by
                    cases hq : ampF t with
                    | nil => exact absurd hq hne
                    | cons a b => rw [hq] at hh; simp at hh; exact ⟨b, by rw [hh]⟩
                  have hll : l.length + 1 = j := by rw [← Hm.out, hl0]; rfl
                  have he0 : entF t = if 0 ≤ numV l then some ((numV l).toNat, l.length + 3) else none := by
                    rw [e2, hl0]; exact ent_num l r (fun c hc => amp_free t c (by rw [hl0]; simp [hc]))
                  have hx0 : (((((s.extract (p + 1) (p + 1 + j))[0]'(by simp; omega)).toNat : Nat) : Int) == 35) = true := by
                    rw [get_list _ _ Hname.out 0 (by simp; omega) 35 (by rw [hl0]; rfl)]; rfl
                  have Hch : Hid (chrF (ampF t) = 0) := Lib.hid (by rw [hl0]; exact chr_hash l)
                  have Hl0 := Lib.hid hl0
                  have hge := numV_ge l
                  have He0 := Lib.hid he0
                  have Hll := Lib.hid hll
                  clear e2 hl0 hh hne hj0 he0 hll
                  go_wp2_with fail
                  refine (rentity_any _ _).mono ?_
                  rintro e w2 ⟨rfl, hb2⟩
                  rw [Hname.out, Hch.out]
                  have HO2 := Lib.hid (rowF_later HO.out hb2)
                  have HB2 := Lib.hid (HB.out.trans (hb2.mono HB.out.size))
                  clear hb2 HO HB
                  go_wp2_with fail
                  refine (rnum_any _ l _ (Hname.out.trans Hl0.out) hns).mono ?_
                  rintro e w3 ⟨rfl, rfl⟩
                  have he0 := He0.out
                  have hll := Hll.out
                  clear He0 Hll
                  by_cases hz0 : 0 ≤ numV l
                  · have he : entF t = some ((numV l).toNat, j + 2) := by rw [he0, if_pos hz0, ← hll]
                    obtain ⟨v, hv⟩ := Int.eq_ofNat_of_zero_le hz0
                    rw [hv] at he ⊢
                    rw [Int.toNat_natCast] at he
                    clear he0 hz0 hge hx0 hv hll
                    by_cases hbad : badV v
                    · have Hf := Lib.hid (Hs.out.bad Hl.out he hbad)
                      have hbd : (1114111 : Int) < v ∨ (55296 ≤ (v : Int) ∧ (v : Int) ≤ 57343) := by unfold badV at hbad; omega
                      clear he hbad
                      rcases hbd with hbd | ⟨hbd, hbd'⟩
                      · go_wp2_with fail
                        go_ret3
                        exact ⟨by rw [Hf.out]; rfl, HB2.out⟩
                      · have hbd'' : ¬ ((v : Int) > 1114111) := by omega
                        go_wp2_with fail
                        go_ret3
                        exact ⟨by rw [Hf.out]; rfl, HB2.out⟩
                    · have hbd : ¬ ((v : Int) > 1114111) := by unfold badV at hbad; omega
                      have hbd' : (v : Int) < 55296 ∨ 57343 < (v : Int) := by unfold badV at hbad; omega
                      rcases hbd' with hb1 | hb1
                      · have hb3 : v ≤ 55295 := by omega
                        clear hb1
                        have Hs3 := Lib.hid (Hs.out.some Hl.out he hbad)
                        have hel := encode_le v
                        have hn4 := (entF_len t v _ he).1
                        have Hcv := Lib.hid (rune_made w2 (v : Nat))
                        have Hrl := Lib.hid (rune_list v hbad)
                        have hrs : (runesBytes [((v : Nat) : Int)]).size ≤ 4 := by rw [← list_size, Hrl.out]; exact hel
                        have hal : (acc ++ Lib.encodeRune v).length ≤ p + (j + 2) := by rw [List.length_append]; omega
                        clear he hbad hel
                        have hcv := Hcv.out
                        generalize runesBytes [((v : Nat) : Int)] = rb at *
                        go_wp2_with (at_builtin; refine Lib.wpList_append_own_stringF _ rfl _ _ 45 9 rfl w.heap.size 5 i0 Tryd.underlying45 Tryd.underlying9 hi hz0 hz1 hz2 _ acc.length (Lib.byteCells acc) rfl (HO2.out.alloc _) rb rfl (by unfold maxLen; omega) (by omega) (by have := HB2.out.size; simp; omega) ?_; intro v' w' hown' hgrow' hnil'; have HO' := Lib.hid (row_text hown' Hrl.out); have HB' := Lib.hid ((HB2.out.alloc HB2.out.size _).grown hgrow' (by have := HB2.out.size; simp; omega) (fun g hg => (HO2.out.lt g hg).1)); clear hown' hgrow' hnil')
                        go_roundw
                        case rel => exact ⟨p + (j + 2), acc ++ Lib.encodeRune v, by go_num, by omega, hal, HO'.out, HB'.out, Hs3⟩
                        case measure => simp [intOf]; omega
                      · have hb3 : (55296 : Int) ≤ v := by omega
                        have Hs3 := Lib.hid (Hs.out.some Hl.out he hbad)
                        have hel := encode_le v
                        have hn4 := (entF_len t v _ he).1
                        have Hcv := Lib.hid (rune_made w2 (v : Nat))
                        have Hrl := Lib.hid (rune_list v hbad)
                        have hrs : (runesBytes [((v : Nat) : Int)]).size ≤ 4 := by rw [← list_size, Hrl.out]; exact hel
                        have hal : (acc ++ Lib.encodeRune v).length ≤ p + (j + 2) := by rw [List.length_append]; omega
                        clear he hbad hel
                        have hcv := Hcv.out
                        generalize runesBytes [((v : Nat) : Int)] = rb at *
                        go_wp2_with (at_builtin; refine Lib.wpList_append_own_stringF _ rfl _ _ 45 9 rfl w.heap.size 5 i0 Tryd.underlying45 Tryd.underlying9 hi hz0 hz1 hz2 _ acc.length (Lib.byteCells acc) rfl (HO2.out.alloc _) rb rfl (by unfold maxLen; omega) (by omega) (by have := HB2.out.size; simp; omega) ?_; intro v' w' hown' hgrow' hnil'; have HO' := Lib.hid (row_text hown' Hrl.out); have HB' := Lib.hid ((HB2.out.alloc HB2.out.size _).grown hgrow' (by have := HB2.out.size; simp; omega) (fun g hg => (HO2.out.lt g hg).1)); clear hown' hgrow' hnil')
                        go_roundw
                        case rel => exact ⟨p + (j + 2), acc ++ Lib.encodeRune v, by go_num, by omega, hal, HO'.out, HB'.out, Hs3⟩
                        case measure => simp [intOf]; omega
                  · have he : entF t = none := by rw [he0, if_neg hz0]
                    have hv : numV l = -1 := by omega
                    rw [hv]
                    clear he0 hz0 hge hx0 hv hll
                    have Hs3 : Hid (EntsAt L (p + 1) (acc ++ [38])) := Lib.hid (Hs.out.none Hl.out he)
                    clear he
                    go_wp2_with (at_builtin; refine wpList_append_ownF _ rfl _ _ 45 rfl w.heap.size 5 i0 (.int .u8 0) 1 1 Tryd.underlying45 hi hz0 hz1 hz2 rfl (by decide) _ acc.length (Lib.byteCells acc) rfl (HO2.out.alloc _) ⟨w2.heap.size, 0, none⟩ 1 1 [.int .u8 38] rfl rfl (cell_one_new _ _ _) (fun x hx => by simp at hx; subst hx; rfl) (by unfold maxLen; omega) (by omega) (by have := HB2.out.size; simp; omega) ?_; intro v' w' hown' hgrow' hnil'; have HO' := Lib.hid (row_snoc (c := 38) hown'); have HB' := Lib.hid ((HB2.out.alloc HB2.out.size _).grown hgrow' (by have := HB2.out.size; simp; omega) (fun g hg => (HO2.out.lt g hg).1)); clear hown' hgrow' hnil')
                    go_roundw
                    case rel => exact ⟨p + 1, acc ++ [38], by go_num, by omega, by rw [List.length_append]; simp; omega, HO'.out, HB'.out, Hs3⟩
                    case measure => simp [intOf]; omega
                · have he0 : entF t = if chrF (ampF t) ≠ 0 then some (chrF (ampF t), j + 2) else none := by
                    rw [← Hm.out]
                    have := ent_word (ampF t) r hh hne (amp_free t)
                    rw [← e2] at this; exact this
                  have hx0 : (((((s.extract (p + 1) (p + 1 + j))[0]'(by simp; omega)).toNat : Nat) : Int) == 35) = false := by
                    refine beq_eq_false_iff_ne.2 (fun h => hh ?_)
                    cases hq : ampF t with
                    | nil => exact absurd hq hne
                    | cons a b =>
                      have e := get_list _ _ Hname.out 0 (by simp; omega) a (by rw [hq]; rfl)
                      rw [e] at h
                      have : a = 35 := UInt8.toNat_inj.1 (by show _ = 35; omega)
                      rw [this]; rfl
                  have hcl := chrF_le (ampF t)
                  have He0 := Lib.hid he0
                  clear e2 hh hne hj0 he0
                  go_wp2_with fail
                  refine (rentity_any _ _).mono ?_
                  rintro e w2 ⟨rfl, hb2⟩
                  rw [Hname.out]
                  have HO2 := Lib.hid (rowF_later HO.out hb2)
                  have HB2 := Lib.hid (HB.out.trans (hb2.mono HB.out.size))
                  have he0 := He0.out
                  clear hb2 HO HB He0
                  generalize chrF (ampF t) = v at *
                  by_cases hc0 : v = 0
                  · subst hc0
                    have he : entF t = none := by rw [he0]; exact if_neg (by omega)
                    clear he0 hcl
                    have Hs3 : Hid (EntsAt L (p + 1) (acc ++ [38])) := Lib.hid (Hs.out.none Hl.out he)
                    clear he
                    go_wp2_with (at_builtin; refine wpList_append_ownF _ rfl _ _ 45 rfl w.heap.size 5 i0 (.int .u8 0) 1 1 Tryd.underlying45 hi hz0 hz1 hz2 rfl (by decide) _ acc.length (Lib.byteCells acc) rfl (HO2.out.alloc _) ⟨w2.heap.size, 0, none⟩ 1 1 [.int .u8 38] rfl rfl (cell_one_new _ _ _) (fun x hx => by simp at hx; subst hx; rfl) (by unfold maxLen; omega) (by omega) (by have := HB2.out.size; simp; omega) ?_; intro v' w' hown' hgrow' hnil'; have HO' := Lib.hid (row_snoc (c := 38) hown'); have HB' := Lib.hid ((HB2.out.alloc HB2.out.size _).grown hgrow' (by have := HB2.out.size; simp; omega) (fun g hg => (HO2.out.lt g hg).1)); clear hown' hgrow' hnil')
                    go_roundw
                    case rel => exact ⟨p + 1, acc ++ [38], by go_num, by omega, by rw [List.length_append]; simp; omega, HO'.out, HB'.out, Hs3⟩
                    case measure => simp [intOf]; omega
                  · have he : entF t = some (v, j + 2) := by rw [he0]; exact if_pos hc0
                    have hbad : ¬ badV v := by unfold badV; omega
                    have hc1 : ((v : Int) == 0) = false := beq_eq_false_iff_ne.2 (by omega)
                    clear he0 hc0
                    have Hs3 := Lib.hid (Hs.out.some Hl.out he hbad)
                    have hel := encode_le v
                    have hn4 := (entF_len t v _ he).1
                    have Hcv := Lib.hid (rune_made w2 (v : Nat))
                    have Hrl := Lib.hid (rune_list v hbad)
                    have hrs : (runesBytes [((v : Nat) : Int)]).size ≤ 4 := by rw [← list_size, Hrl.out]; exact hel
                    have hal : (acc ++ Lib.encodeRune v).length ≤ p + (j + 2) := by rw [List.length_append]; omega
                    clear he hbad hel
                    have hcv := Hcv.out
                    generalize runesBytes [((v : Nat) : Int)] = rb at *
                    go_wp2_with (at_builtin; refine Lib.wpList_append_own_stringF _ rfl _ _ 45 9 rfl w.heap.size 5 i0 Tryd.underlying45 Tryd.underlying9 hi hz0 hz1 hz2 _ acc.length (Lib.byteCells acc) rfl (HO2.out.alloc _) rb rfl (by unfold maxLen; omega) (by omega) (by have := HB2.out.size; simp; omega) ?_; intro v' w' hown' hgrow' hnil'; have HO' := Lib.hid (row_text hown' Hrl.out); have HB' := Lib.hid ((HB2.out.alloc HB2.out.size _).grown hgrow' (by have := HB2.out.size; simp; omega) (fun g hg => (HO2.out.lt g hg).1)); clear hown' hgrow' hnil')
                    go_roundw
                    case rel => exact ⟨p + (j + 2), acc ++ Lib.encodeRune v, by go_num, by omega, hal, HO'.out, HB'.out, Hs3⟩
                    case measure => simp [intOf]; omega
            · have he := ent_open t (.inr ⟨r, e3⟩)
              obtain ⟨hb, h59⟩ := Hend.out r 38 e3
              have h59' : ((((s[p + 1 + j]'hb).toNat : Nat) : Int) != 59) = true := by rw [h59]; rfl
              have h59'' : ((((s[p + 1 + j]'hb).toNat : Nat) : Int) != 38) = false := by rw [h59]; rfl
              clear h59 e3
              have Hs3 : Hid (EntsAt L (p + 1) (acc ++ [38])) := Lib.hid (Hs.out.none Hl.out he)
              clear he
              go_wp2_with (at_builtin; refine wpList_append_ownF _ rfl _ _ 45 rfl w.heap.size 5 i0 (.int .u8 0) 1 1 Tryd.underlying45 hi hz0 hz1 hz2 rfl (by decide) _ acc.length (Lib.byteCells acc) rfl (HO.out.alloc _) ⟨wr.heap.size, 0, none⟩ 1 1 [.int .u8 38] rfl rfl (cell_one_new _ _ _) (fun x hx => by simp at hx; subst hx; rfl) (by unfold maxLen; omega) (by omega) (by have := HB.out.size; simp; omega) ?_; intro v' w' hown' hgrow' hnil'; have HO' := Lib.hid (row_snoc (c := 38) hown'); have HB' := Lib.hid ((HB.out.alloc HB.out.size _).grown hgrow' (by have := HB.out.size; simp; omega) (fun g hg => (HO.out.lt g hg).1)); clear hown' hgrow' hnil')
              go_roundw
              case rel => exact ⟨p + 1, acc ++ [38], by go_num, by omega, by rw [List.length_append]; simp; omega, HO'.out, HB'.out, Hs3⟩
              case measure => simp [intOf]; omega
      · have Hs3 := Lib.hid (Hs.out.plain Hd.out h38)
        have h38' : ((s[p]'hlt).toNat : Int) ≠ 38 := fun h => h38 (UInt8.toNat_inj.1 (by show _ = 38; omega))
        clear h38 Hd
        go_wp2_with (at_builtin; refine wpList_append_ownF _ rfl _ _ 45 rfl w.heap.size 5 i0 (.int .u8 0) 1 1 Tryd.underlying45 hi hz0 hz1 hz2 rfl (by decide) _ acc.length (Lib.byteCells acc) rfl (HO.out.alloc _) ⟨wr.heap.size, 0, none⟩ 1 1 [.int .u8 _] rfl rfl (cell_one_new _ _ _) (fun x hx => by simp at hx; subst hx; rfl) (by unfold maxLen; omega) (by omega) (by have := HB.out.size; simp; omega) ?_; intro v' w' hown' hgrow' hnil'; have HO' := Lib.hid (row_snoc hown'); have HB' := Lib.hid ((HB.out.alloc HB.out.size _).grown hgrow' (by have := HB.out.size; simp; omega) (fun g hg => (HO.out.lt g hg).1)); clear hown' hgrow' hnil')
        go_roundw
        case rel => exact ⟨p + 1, acc ++ [s[p]'hlt], by go_num, by omega, by rw [List.length_append]; simp; omega, HO'.out, HB'.out, Hs3⟩
        case measure => simp [intOf]; omega
    · have Hf := Lib.hid (Hs.out.done (by rw [HZ.out]; omega))
      have hcv := conv_row HO.out
      go_wp2_with fail
      go_ret3
      exact ⟨by rw [Hf.out]; rfl, HB.out⟩

end Jsx
end Go.Proofs.YtcalgpkcefccmaaDoor
