/-
  The program's Entities.
-/
import Derived.Test.YtcalgpkcefccmaaDoorJsxName
namespace Go.Proofs.YtcalgpkcefccmaaDoor
namespace Jsx
open Go.RowKit

/-- What Entities answers. -/
def entsR : Except Nat (List UInt8) → Value
  | .ok x => .tuple #[.string (ofL x), .int .i64 0, .int .i64 0]
  | .error p => .tuple #[.string ⟨#[]⟩, .int .i64 p, .int .i64 700]
theorem ents_nil (p : Nat) : ents 0 p [] = .ok [] := rfl
theorem index_split (l : List UInt8) (c : UInt8) (k : Nat) (h : Lib.indexByte l c = k) : k < l.length ∧ l = l.take k ++ c :: l.drop (k + 1) ∧ c ∉ l.take k := by
  obtain ⟨h1, h2⟩ := Lib.indexByte_some h
  obtain ⟨hk, h1⟩ := List.getElem?_eq_some_iff.1 h1
  refine ⟨hk, ?_, ?_⟩
  · rw [← h1, ← List.drop_eq_getElem_cons hk, List.take_append_drop]
  · intro hm
    obtain ⟨j, hj⟩ := List.getElem?_of_mem hm
    rw [List.getElem?_take] at hj
    split at hj
    · rename_i hjk; exact h2 j hjk hj
    · cases hj
theorem index_none (l : List UInt8) (c : UInt8) (h : Lib.indexByte l c < 0) : c ∉ l := by
  have e1 : Lib.indexByte l c = -1 := by have := Lib.indexByte_ge l c; omega
  intro hm
  obtain ⟨j, hj⟩ := List.getElem?_of_mem hm
  exact Lib.indexByte_none e1 j hj
theorem valid_bad (v : Nat) : Lib.validRune v = !decide (badV v) := by
  unfold Lib.validRune
  by_cases h : badV v
  · rw [decide_eq_true h, decide_eq_false (by unfold badV at h; omega)]; rfl
  · rw [decide_eq_false h, decide_eq_true (by unfold badV at h; omega)]; rfl
theorem valid_is {v : Nat} (h : badV v) : Lib.validRune v = false := by rw [valid_bad, decide_eq_true h]; rfl
theorem valid_not {v : Nat} (h : ¬ badV v) : Lib.validRune v = true := by rw [valid_bad, decide_eq_false h]; rfl
theorem ret_ents {a b : ByteArray} {x y : Int} {z u : Int} (h1 : a = b) (h2 : x = y) (h3 : z = u) : Ending.returned (.tuple #[.string a, .int .i64 x, .int .i64 z]) = .returned (.tuple #[.string b, .int .i64 y, .int .i64 u]) := by rw [h1, h2, h3]
theorem Bkept.below {B b : Nat} {w w' : World} (h : Bkept B b w w') : Below B w w' := h.1

/-- Where the loop stands. -/
def EntsAt (L : List UInt8) (p : Nat) (acc : List UInt8) : Prop := ents 0 0 L = prep acc (ents 0 p (L.drop p))
theorem EntsAt.start (L : List UInt8) : EntsAt L 0 [] := by unfold EntsAt; rw [prep_nil]; rfl
/-- No & is left. -/
theorem EntsAt.last {L : List UInt8} {p : Nat} {acc : List UInt8} (h : EntsAt L p acc) (hn : (38 : UInt8) ∉ L.drop p) : ents 0 0 L = .ok (acc ++ L.drop p) := by
  unfold EntsAt at h
  have := ents_free (L.drop p) p [] (fun c hc e => hn (e ▸ hc))
  rw [List.append_nil, ents_nil] at this
  rw [h, this]
  simp [prep]
theorem EntsAt.amp {L : List UInt8} {p : Nat} {acc a t : List UInt8} (h : EntsAt L p acc) (hl : L.drop p = a ++ 38 :: t) (hn : (38 : UInt8) ∉ a) : EntsAt L (p + a.length) (acc ++ a) ∧ L.drop (p + a.length) = 38 :: t := by
  have e : L.drop (p + a.length) = 38 :: t := by rw [← List.drop_drop, hl, List.drop_left]
  unfold EntsAt at h ⊢
  rw [hl, ents_free a p _ (fun c hc e => hn (e ▸ hc)), prep_prep] at h
  exact ⟨by rw [h, e], e⟩
theorem EntsAt.none {L : List UInt8} {p : Nat} {acc t : List UInt8} (h : EntsAt L p acc) (hl : L.drop p = 38 :: t) (he : entF t = none) : EntsAt L (p + 1) (acc ++ [38]) := by
  have e : L.drop (p + 1) = t := by rw [← List.drop_drop, hl]; rfl
  unfold EntsAt at h ⊢
  rw [h, hl, ents_none _ _ he, prep_prep, e]
theorem EntsAt.bad {L : List UInt8} {p v n : Nat} {acc t : List UInt8} (h : EntsAt L p acc) (hl : L.drop p = 38 :: t) (he : entF t = some (v, n)) (hb : badV v) : ents 0 0 L = .error p := by
  unfold EntsAt at h
  rw [h, hl, ents_bad _ _ _ _ he hb]; rfl
theorem EntsAt.some {L : List UInt8} {p v n : Nat} {acc t : List UInt8} (h : EntsAt L p acc) (hl : L.drop p = 38 :: t) (he : entF t = some (v, n)) (hb : ¬ badV v) : EntsAt L (p + n) (acc ++ Lib.encodeRune v) := by
  have hn := (entF_len t v n he).1
  have e : L.drop (p + n) = t.drop (n - 1) := by
    rw [← List.drop_drop, hl, show n = (n - 1) + 1 by omega]; rfl
  unfold EntsAt at h ⊢
  rw [h, hl, ents_some _ _ _ _ he hb (by omega), prep_prep, e]

theorem rowF_later {w w' : World} {B e size n : Nat} {v : Value} {xs : List Value} (h : w.ownsRowF B e size v n xs) (hb : Below w.heap.size w w') : w'.ownsRowF B e size v n xs := by
  refine ⟨h.1, ?_⟩
  rcases h.2 with h0 | ⟨g, cap, cur, fz, h1, h2, h3, rest⟩
  · exact .inl h0
  · exact .inr ⟨g, cap, cur, fz, h1, h2, by rw [hb.block _ (block_lt h3)]; exact h3, rest⟩
theorem Bld.later {B b : Nat} {l : List UInt8} {w w' : World} (h : Bld B b l w) (hb : Below w.heap.size w w') : Bld B b l w' := by
  rcases h with ⟨h1, v, h2, h3, h4⟩ | ⟨h1, v, h2, h3, h4⟩
  · exact .inl ⟨h1, v, by rw [hb.block _ (block_lt h2)]; exact h2, rowF_later h3 hb, h4⟩
  · exact .inr ⟨h1, v, by rw [hb.block _ (block_lt h2)]; exact h2, rowF_later h3 hb, h4⟩
theorem wamp_any (B b : Nat) (l : List UInt8) (w : World) (h : Bld B b l w) (hlen : l.length + 1 ≤ 140737488355328) (hBw : B ≤ w.heap.size) :
    Calls Tryd.prog 25 #[.pointer (some ⟨b, 0, none⟩), .int .u8 38] w fun e w' => e = .returned .nilIface ∧ Bld B b (l ++ [38]) w' ∧ Bkept B b w w' := wbyte_any B b l 38 w h hlen hBw
theorem entR_none {t : List UInt8} (h : entF t = none) : entR t = .tuple #[.int .i32 0, .int .i64 0] := by rw [entR, h]
theorem entR_some {t : List UInt8} {v n : Nat} (h : entF t = some (v, n)) : entR t = .tuple #[.int .i32 v, .int .i64 n] := by rw [entR, h]
theorem encode_le (r : Int) : (Lib.encodeRune r).length ≤ 4 := by rw [← Lib.runeCells_length]; exact (Lib.runeCells_le r).2

set_option maxRecDepth 20000 in
set_option maxHeartbeats 4000000 in
theorem ents_any (s : ByteArray) (w : World) (hs : s.size ≤ 140737488351232) :
    Calls Tryd.prog 9 #[.string s] w fun e w' => e = .returned (entsR (ents 0 0 s.data.toList)) ∧ Below w.heap.size w w' := by
  generalize hL : s.data.toList = L
  have HL := Lib.hid hL; clear hL
  have hz : L.length = s.size := by rw [← HL.out]; exact list_size s
  have HZ := Lib.hid hz; clear hz
  go_enter Tryd.func9, Tryd.ntmps9
  go_wp2_with fail
  have hw0 := bld_new w
  have hb0 : Below w.heap.size w (w.alloc (.cells #[.pointer none, .slice none 0 0] 47)) := (Below.refl _ _).alloc (Nat.le_refl _) _
  go_loopw [6] (fun i wr => ∃ (p : Nat) (acc : List UInt8), i = .int .i64 p ∧ p ≤ s.size ∧ acc.length ≤ p ∧ Bld w.heap.size w.heap.size acc wr ∧ Below w.heap.size w wr ∧ Hid (EntsAt L p acc)) (fun i _ => s.size - (intOf i).toNat)
  case atStart => exact ⟨0, [], rfl, by omega, by simp, hw0, hb0, Lib.hid (EntsAt.start L)⟩
  case round =>
    clear hw0 hb0
    obtain ⟨p, acc, rfl, hp, ha, hbl, hbw, Hs⟩ := hrel
    have Hbl := Lib.hid hbl; clear hbl
    have Hbw := Lib.hid hbw; clear hbw
    have hB : w.heap.size ≤ wr.heap.size := Hbw.out.size
    have Hx : Hid ((s.extract p s.size).data.toList = L.drop p) := Lib.hid (by rw [drop_str, ofL_list, HL.out])
    have hsz : (s.extract p s.size).size = s.size - p := by simp
    go_wp2_with fail
    refine (Tryd.strings_IndexByte _ 38 _).mono ?_
    rintro e w1 ⟨rfl, rfl⟩
    rw [Hx.out, show ((38 : Int).toNat.toUInt8) = 38 from rfl]
    by_cases hneg : Lib.indexByte (L.drop p) 38 < 0
    · have Hf := Lib.hid (Hs.out.last (index_none _ _ hneg))
      generalize Lib.indexByte (L.drop p) 38 = i at *
      have HB := Lib.hid hB
      clear hB
      go_wp2_with fail
      refine (wstr_any _ _ acc _ _ Hbl.out (by rw [hsz]; omega) HB.out).mono ?_
      rintro e w2 ⟨rfl, hb2, hk2⟩
      rw [Hx.out] at hb2
      have hb3 := Lib.hid (Hbw.out.trans hk2.1)
      go_wp2_with fail
      refine (bstr_any _ _ _ _ hb2 hb3.out.size).mono ?_
      rintro e w3 ⟨rfl, hk3⟩
      go_wp2_with fail
      go_ret3
      exact ⟨by rw [Hf.out]; rfl, hb3.out.trans hk3.1⟩
    · obtain ⟨k, hk⟩ := Int.eq_ofNat_of_zero_le (Int.not_lt.1 hneg)
      clear hneg
      obtain ⟨h1, h2, h3⟩ := index_split _ _ _ hk
      rw [hk]
      rw [List.length_drop, HZ.out] at h1
      have ht : (L.drop p).take k = (List.take k (List.drop p L)) := rfl
      have hal : (List.take k (List.drop p L)).length = k := by rw [List.length_take, List.length_drop, HZ.out]; omega
      obtain ⟨Hs2, hl2⟩ := Hs.out.amp h2 h3
      rw [hal] at Hs2 hl2
      have hca : s.extract p (p + k) = ofL (List.take k (List.drop p L)) := by rw [mid_str, HL.out]; congr 2; omega
      generalize List.drop (k + 1) (List.drop p L) = t at *
      generalize List.take k (List.drop p L) = a at *
      have Hs2' := Lib.hid Hs2
      have Hl2 := Lib.hid hl2
      have Hca := Lib.hid hca
      have Hal := Lib.hid hal
      clear hk h2 h3 Hs2 hl2 hca hal ht Hs Hx hsz
      have HB := Lib.hid hB
      clear hB
      have hpk : p + k < s.size := by omega
      go_wp2_with fail
      refine (wstr_any _ _ acc _ _ Hbl.out (by simp; omega) HB.out).mono ?_
      rintro e w2 ⟨rfl, hb2, hk2⟩
      rw [Hca.out, ofL_list] at hb2
      have Hb2 := Lib.hid hb2
      have Hw2 := Lib.hid (Hbw.out.trans hk2.1)
      have Hl3 : Hid ((s.extract (p + k) s.size).data.toList = 38 :: t) := Lib.hid (by rw [drop_str, ofL_list, HL.out, Hl2.out])
      clear hb2 hk2
      have ha2 : (acc ++ a).length ≤ p + k := by rw [List.length_append, Hal.out]; omega
      generalize acc ++ a = acc2 at *
      clear Hca Hal ha
      go_wp2_with fail
      refine (entity_any _ t _ Hl3.out (by simp; omega)).mono ?_
      rintro e w3 ⟨rfl, hb3⟩
      have Hb3 : Hid (Bld w.heap.size w.heap.size acc2 w3) := Lib.hid (Hb2.out.later hb3)
      clear Hb2
      have hw3 := Lib.hid (Hw2.out.trans (hb3.mono Hw2.out.size))
      clear hb3
      have HB3 := Lib.hid hw3.out.size
      cases he : entF t with
      | none =>
        rw [entR_none he]
        have Hs3 := Lib.hid (Hs2'.out.none Hl2.out he)
        clear he
        go_wp2_with fail
        refine (wamp_any _ _ acc2 _ Hb3.out (by omega) HB3.out).mono ?_
        rintro e w4 ⟨rfl, hb4, hk4⟩
        have Hw4 := Lib.hid (hw3.out.trans hk4.1)
        have Hb4 := Lib.hid hb4
        clear hb4 hk4
        go_wp2_with fail
        go_roundw
        case rel => exact ⟨p + k + 1, acc2 ++ [38], by simp, by omega, by rw [List.length_append]; simp; omega, Hb4.out, Hw4.out, Hs3⟩
        case measure => simp [intOf]; omega
      | some x =>
        obtain ⟨v, n⟩ := x
        rw [entR_some he]
        have hlen := entF_len t v n he
        have htl : t.length + 1 = s.size - (p + k) := by
          have := congrArg List.length Hl2.out
          rw [List.length_drop, HZ.out, List.length_cons] at this
          omega
        have hn4 := hlen.1
        have hnl := hlen.2.1
        have hv := hlen.2.2
        have hpn : p + k + n ≤ s.size := by omega
        clear hnl
        have hn0 : (n : Int) ≠ 0 := by omega
        by_cases hbad : badV v
        · have Hf := Lib.hid (Hs2'.out.bad Hl2.out he hbad)
          have Hv := Lib.hid hbad
          clear he hbad hlen htl
          go_wp2_with fail
          refine (Tryd.utf8_ValidRune v _).mono ?_
          rintro e w4 ⟨rfl, rfl⟩
          rw [valid_is Hv.out]
          go_wp2_with fail
          go_ret3
          exact ⟨by rw [Hf.out]; exact ret_ents rfl (by simp) rfl, hw3.out⟩
        · have Hs3 := Lib.hid (Hs2'.out.some Hl2.out he hbad)
          have Hv := Lib.hid hbad
          clear he hbad hlen htl
          go_wp2_with fail
          refine (Tryd.utf8_ValidRune v _).mono ?_
          rintro e w4 ⟨rfl, rfl⟩
          rw [valid_not Hv.out]
          go_wp2_with fail
          refine (wrune_any _ _ acc2 v (by omega) _ Hb3.out (by omega) HB3.out).mono ?_
          rintro e w4 ⟨rfl, hb4, hk4⟩
          have Hw4 := Lib.hid (hw3.out.trans hk4.1)
          have Hb4 := Lib.hid hb4
          clear hb4 hk4
          have hel := encode_le v
          have hal : (acc2 ++ Lib.encodeRune v).length ≤ p + k + n := by rw [List.length_append]; omega
          clear hel
          generalize acc2 ++ Lib.encodeRune v = acc3 at *
          generalize Lib.runeCells v = rc at *
          go_wp2_with fail
          go_roundw
          case rel => exact ⟨p + k + n, acc3, by simp, by omega, hal, Hb4.out, Hw4.out, Hs3⟩
          case measure => simp [intOf]; omega

end Jsx
end Go.Proofs.YtcalgpkcefccmaaDoor
