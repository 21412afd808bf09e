/-
  A piece of a row of bytes that the call owns, wherever it begins: what append, a cut and a conversion make of it.
  The document's own numerals.
-/
import Derived.Test.YtcalgpkcefccmaaDoorRows
import Derived.Deep.AppendSrc
import Derived.Deep.Upon
import Derived.Laws.AppendOwn
import Derived.Laws.BytesArg
import Derived.Laws.IdiomStrings
import Derived.Lib.BufferRead
import Derived.Lib.Hide
import Derived.WalkKit
import Derived.Below
import Derived.Lib.ItoaNum
import Derived.Shelf.Strconv.AppendUint10
import Derived.WalkLawsBesides
namespace Go.Proofs.YtcalgpkcefccmaaDoor
namespace Num
open Go.RowKit

/-- Bytes as cells. -/
def cellsOf (l : List UInt8) : List Value := l.map fun b => Value.int .u8 (b.toNat : Int)
theorem cellsOf_len (l : List UInt8) : (cellsOf l).length = l.length := by simp [cellsOf]
theorem cellsOf_app (a b : List UInt8) : cellsOf (a ++ b) = cellsOf a ++ cellsOf b := by simp [cellsOf]
theorem cellsOf_one (l : List UInt8) : ∀ u ∈ cellsOf l, u.oneCell' = true := by
  intro u hu
  obtain ⟨_, _, rfl⟩ := List.mem_map.1 hu
  rfl
theorem cellsOf_get (l : List UInt8) (j : Nat) (h : j < l.length) : (cellsOf l)[j]? = some (.int .u8 ((l[j]).toNat : Int)) := by
  simp [cellsOf, h]

/-- v is nil and xs is empty, or v lies in a row of the call's own (from block B on) and reads xs. -/
def Seg (w : World) (B : Nat) (v : Value) (xs : List UInt8) : Prop :=
  (v = .slice none 0 0 ∧ xs = []) ∨
  ∃ g off cap cur, v = .slice (some ⟨g, off, none⟩) xs.length cap ∧ B ≤ g ∧ w.heap[g]? = some (.cells cur 5 (0, 0)) ∧ xs.length ≤ cap ∧ cap ≤ maxLen ∧ off + cap ≤ cur.size ∧
    ∀ j, j < xs.length → cur[off + j]? = (cellsOf xs)[j]?

theorem Seg.nil (w : World) (B : Nat) : Seg w B (.slice none 0 0) [] := Or.inl ⟨rfl, rfl⟩

theorem Seg.mono {w : World} {B B' : Nat} {v : Value} {xs : List UInt8} (h : Seg w B v xs) (hB : B' ≤ B) : Seg w B' v xs := by
  rcases h with h | ⟨g, off, cap, cur, h1, h2, h3⟩
  · exact Or.inl h
  · exact Or.inr ⟨g, off, cap, cur, h1, by omega, h3⟩

/-- What lies below a block number stays a piece while only blocks from there on turn. -/
theorem Seg.keep {w w' : World} {B : Nat} {v : Value} {xs : List UInt8} (h : Seg w B v xs) (hb : Below w.heap.size w w') : Seg w' B v xs := by
  rcases h with h | ⟨g, off, cap, cur, h1, h2, h3, h4⟩
  · exact Or.inl h
  · have hlt : g < w.heap.size := by
      rcases Nat.lt_or_ge g w.heap.size with h' | h'
      · exact h'
      · rw [Array.getElem?_eq_none h'] at h3; cases h3
    exact Or.inr ⟨g, off, cap, cur, h1, h2, by rw [hb.block g hlt]; exact h3, h4⟩

/-- What v looks like, its cells. -/
theorem Seg.form {w : World} {B : Nat} {v : Value} {xs : List UInt8} (h : Seg w B v xs) (hn : xs ≠ []) :
    ∃ g off cap, v = .slice (some ⟨g, off, none⟩) xs.length cap ∧ B ≤ g ∧ xs.length ≤ cap ∧ cap ≤ maxLen ∧ g < w.heap.size ∧ ∀ j, j < xs.length → w.cell? ⟨g, off + j, none⟩ = (cellsOf xs)[j]? := by
  rcases h with ⟨_, h⟩ | ⟨g, off, cap, cur, h1, h2, h3, h4, h5, h6, h7⟩
  · exact absurd h hn
  · refine ⟨g, off, cap, h1, h2, h4, h5, ?_, fun j hj => ?_⟩
    · rcases Nat.lt_or_ge g w.heap.size with h' | h'
      · exact h'
      · rw [Array.getElem?_eq_none h'] at h3; cases h3
    · simp only [World.cell?, h3]
      exact h7 j hj

theorem Seg.len {w : World} {B : Nat} {v : Value} {xs : List UInt8} (h : Seg w B v xs) : ∃ a cap, v = .slice a xs.length cap ∧ xs.length ≤ cap ∧ cap ≤ maxLen := by
  rcases h with ⟨h, h'⟩ | ⟨g, off, cap, cur, h1, h2, h3, h4, h5, h6, h7⟩
  · subst h'; exact ⟨none, 0, h, Nat.le_refl _, by unfold maxLen; omega⟩
  · exact ⟨_, cap, h1, h4, h5⟩

/-- What an append takes from a piece. -/
theorem Seg.src {w : World} {B : Nat} {v : Value} {xs : List UInt8} (h : Seg w B v xs) : Src Tryd.prog 1 45 v xs.length (cellsOf xs) w := by
  rcases h with ⟨rfl, rfl⟩ | h
  · exact Src.ofNil (w := w) Tryd.underlying45 0
  · obtain ⟨g, off, cap, cur, rfl, h2, h3, h4, h5, h6, h7⟩ := h
    refine Src.ofSlice (w := w) Tryd.underlying45 _ _ _ _ (by rw [cellsOf_len, Nat.mul_one]) (fun j u hu => ?_) (cellsOf_one xs)
    have hj : j < xs.length := by
      have := (List.getElem?_eq_some_iff.1 hu).1
      rwa [cellsOf_len] at this
    have e : (⟨g, off, none⟩ : Addr).add j = ⟨g, off + j, none⟩ := by simp [Addr.add]
    rw [e, ← hu, ← h7 j hj]
    simp [World.cell?, h3]
theorem src_str (w : World) (s : ByteArray) : Src Tryd.prog 1 9 (.string s) s.data.toList.length (cellsOf s.data.toList) w := by
  have := Src.ofString (P := Tryd.prog) (w := w) Tryd.underlying9 s
  rw [show s.data.toList.length = s.size from by simp]
  exact this
/-- One byte in a new block of one cell. -/
theorem src_one (w : World) (g : Nat) (hg : g = w.heap.size) (c : UInt8) : Src Tryd.prog 1 45 (.slice (some ⟨g, 0, none⟩) 1 1) 1 (cellsOf [c]) (w.alloc (.cells #[.int .u8 (c.toNat : Int)] 5)) := by
  subst hg
  refine Src.ofSlice (w := w.alloc _) Tryd.underlying45 _ _ _ _ rfl (fun j u hu => ?_) (cellsOf_one _)
  have hj : j < 1 := by simpa [cellsOf] using (List.getElem?_eq_some_iff.1 hu).1
  obtain rfl : j = 0 := by omega
  rw [show (⟨w.heap.size, 0, none⟩ : Addr).add 0 = ⟨w.heap.size, 0, none⟩ from rfl, World.cell?_alloc_at _ _ _ _ rfl]
  simpa [cellsOf] using hu

theorem info_byte : (Tryd.prog.info? 5).map (fun i => (i.zero, i.size, i.bytes)) = some (some (.int .u8 0), 1, 1) := by kernel_rfl

/-- append onto a piece. -/
theorem append_seg (w : World) (ty tx : TypeId) {B : Nat} {v : Value} {xs : List UInt8} (h : Seg w B v xs) (x : Value) (n : Nat) (ys : List UInt8) (hn : ys.length = n) (hs : Src Tryd.prog 1 tx x n (cellsOf ys) w)
    (h47 : xs.length + ys.length ≤ 140737488355328) (hB : B ≤ w.heap.size) :
    ∃ v' w', (Builtin.append_ #[45, tx] ty #[v, x]).run Tryd.prog w = .ok v' w' ∧ Seg w' B v' (xs ++ ys) ∧ Below B w w' := by
  subst hn
  obtain ⟨i, hi, hz0, hz1, hz2⟩ := info_parts info_byte
  have ht : Tryd.prog.underlying 45 = some (.slice 5) := Tryd.underlying45
  have hs1 : Src Tryd.prog i.size tx x ys.length (cellsOf ys) w := by rw [hz1]; exact hs
  by_cases h0 : ys = []
  · subst h0
    obtain ⟨a, cap, rfl, hc1, _⟩ := h.len
    have hr := run_append_nothing (P := Tryd.prog) w 45 tx ty 5 i ht hi a xs.length cap hc1 x hs1
    exact ⟨_, _, hr, by simpa using h, Below.refl _ _⟩
  have hpos : 0 < ys.length := List.length_pos_iff.2 h0
  -- a new row
  have grow : ∀ (base : Option Addr) (sc : Nat), v = .slice base xs.length sc → sc < xs.length + ys.length →
      (Builtin.firstCells i.size xs.length (.slice base xs.length sc)).run Tryd.prog w.drew = .ok (cellsOf xs).toArray w.drew →
      ∃ v' w', (Builtin.append_ #[45, tx] ty #[v, x]).run Tryd.prog w = .ok v' w' ∧ Seg w' B v' (xs ++ ys) ∧ Below B w w' := by
    rintro base sc rfl hg hold
    have hrun := run_append_grow_src (P := Tryd.prog) w 45 tx ty 5 i _ ht hi hz0 base xs.length sc (cellsOf xs) hold x ys.length (cellsOf ys) hs1 hg (by omega) (growslice_fits hg (by rw [hz2]; omega))
    have hge := grownCap_ge w (xs.length + ys.length) sc 5
    have hcm := grownCap_le_maxLen w (xs.length + ys.length) sc 5 (by unfold maxLen; omega)
    refine ⟨_, _, hrun, Or.inr ⟨w.heap.size, 0, _, _, by rw [List.length_append], hB, heap_alloc_new w.drew _, by rw [List.length_append]; exact hge, hcm, ?_, ?_⟩, (Below.refl B w).drew.alloc hB _⟩
    · have e : (Value.int IntKind.u8 0).cells.size = 1 := rfl
      simp only [Array.size_append, List.size_toArray, List.length_append, size_zeroCells, cellsOf_len, e, Nat.mul_one]
      omega
    · intro j hj
      rw [← cellsOf_app, Nat.zero_add, Array.getElem?_append_left (by simp [cellsOf_len] at hj ⊢; exact hj)]
      simp
  rcases h with ⟨rfl, rfl⟩ | ⟨g, off, cap, cur, rfl, h2, h3, h4, h5, h6, h7⟩
  · exact grow none 0 rfl (by simpa using hpos) (by simpa [cellsOf] using run_firstCells_none (P := Tryd.prog) w.drew i.size 0 0 0)
  · by_cases hroom : xs.length + ys.length ≤ cap
    · have hst := run_storeCells_at Tryd.prog g (off + xs.length) 5 (cellsOf ys) 0 cur w h3 (by rw [cellsOf_len]; omega) (cellsOf_one ys)
      simp only [Nat.add_zero, List.append_assoc] at hst
      have hrun : (Builtin.append_ #[45, tx] ty #[.slice (some ⟨g, off, none⟩) xs.length cap, x]).run Tryd.prog w = .ok (.slice (some ⟨g, off, none⟩) (xs.length + ys.length) cap) (w.setRow g (cur.toList.take (off + xs.length) ++ (cellsOf ys ++ cur.toList.drop (off + xs.length + (cellsOf ys).length))).toArray) := by
        rcases hs.kind with ⟨e', hk⟩ | hk <;> simp [Builtin.append_, run_underlying ht, run_underlying hk, sizeOf, typeInfo, hi, hs.len, hroom, hs.cells, hz1, Addr.add_lit, hst]
      refine ⟨_, _, hrun, Or.inr ⟨g, off, cap, _, by rw [List.length_append], h2, setRow_heap w g cur _ _ _ h3, by rw [List.length_append]; exact hroom, h5, ?_, ?_⟩, ?_⟩
      · simp [cellsOf_len]; omega
      · intro j hj
        rw [List.length_append] at hj
        rw [cellsOf_app]
        show (cur.toList.take (off + xs.length) ++ (cellsOf ys ++ cur.toList.drop (off + xs.length + (cellsOf ys).length))).toArray[off + j]? = (cellsOf xs ++ cellsOf ys)[j]?
        rw [List.getElem?_toArray]
        have hcl : cur.toList.length = cur.size := Array.length_toList
        by_cases hj1 : j < xs.length
        · rw [List.getElem?_append_left (by rw [List.length_take, hcl]; omega), List.getElem?_take_of_lt (by omega), List.getElem?_append_left (by rw [cellsOf_len]; exact hj1), ← h7 j hj1, Array.getElem?_toList]
        · have e : (cur.toList.take (off + xs.length)).length = off + xs.length := by rw [List.length_take, hcl]; omega
          rw [List.getElem?_append_right (by rw [e]; omega), e, List.getElem?_append_left (by rw [cellsOf_len]; omega), List.getElem?_append_right (by rw [cellsOf_len]; omega), cellsOf_len]
          exact congrArg (fun n => (cellsOf ys)[n]?) (show off + j - (off + xs.length) = j - xs.length by omega)
      · exact ⟨rfl, rfl, rfl, by simp [World.setRow], fun k hk => setRow_other w g k _ (by omega)⟩
    · refine grow _ cap rfl (by omega) ?_
      refine run_firstCells_some w.drew i.size xs.length ⟨g, off, none⟩ xs.length cap (cellsOf xs) (by rw [cellsOf_len, hz1, Nat.mul_one]) (fun j u hu => ?_)
      have hj : j < xs.length := by
        have := (List.getElem?_eq_some_iff.1 hu).1
        rwa [cellsOf_len] at this
      have e : (⟨g, off, none⟩ : Addr).add j = ⟨g, off + j, none⟩ := by simp [Addr.add]
      rw [e, ← hu, ← h7 j hj]
      show w.cell? _ = _
      simp [World.cell?, h3]

/-- .. at the operation, for the walk. -/
theorem wpList_append_seg (w : World) {ops : Array Oper} {rest : List Oper} {o : Oper} {a : Act} {Q : Exit → Act → World → Prop} (hgd : o.guard = none) (s x : Operand) (tx : TypeId)
    (ho : o.op = .call { callee := .builtin .append, args := #[s, x], argTypes := #[45, tx] })
    {B : Nat} {v : Value} {xs : List UInt8} (hv : a.eval s = v) (h : Seg w B v xs) (u : Value) (hu : a.eval x = u) (n : Nat) (ys : List UInt8) (hn : ys.length = n) (hs : Src Tryd.prog 1 tx u n (cellsOf ys) w)
    (h47 : xs.length + ys.length ≤ 140737488355328) (hB : B ≤ w.heap.size)
    (hK : ∀ v' w', Seg w' B v' (xs ++ ys) → Below B w w' → wpList Tryd.prog ops Q rest (a.put o.dst v') w') : wpList Tryd.prog ops Q (o :: rest) a w := by
  refine wpList_plain hgd fun K hK' => ?_
  obtain ⟨v', w', hrun, h1, h2⟩ := append_seg w o.type tx h u n ys hn hs h47 hB
  unfold Oper.wp
  simp [execOp, ho, resolve, invoke, builtin, hv, hu, hrun, Result.andThen]
  exact hK' _ _ (hK v' w' h1 h2)

/-- A piece as a text. -/
theorem seg_string {w : World} {B : Nat} {v : Value} {xs : List UInt8} (h : Seg w B v xs) :
    (convert 45 9 v).run Tryd.prog w = .ok (.string ⟨xs.toArray⟩) w := by
  rcases h with ⟨rfl, rfl⟩ | ⟨g, off, cap, cur, rfl, h2, h3, h4, h5, h6, h7⟩
  · exact Lib.run_convert_nil_bytes w 45 9 5 0 Tryd.underlying45 Tryd.underlying5 Tryd.underlying9
  · refine run_convert_bytes_back (P := Tryd.prog) w 45 9 5 ⟨g, off, none⟩ cap xs Tryd.underlying45 Tryd.underlying5 Tryd.underlying9 (fun j hj => ?_)
    have e : (⟨g, off, none⟩ : Addr).add j = ⟨g, off + j, none⟩ := by simp [Addr.add]
    rw [e, ← cellsOf_get xs j hj, ← h7 j hj]
    simp [World.cell?, h3]

end Num
end Go.Proofs.YtcalgpkcefccmaaDoor
namespace Go.Proofs.YtcalgpkcefccmaaDoor
namespace Num
open Go.RowKit

/-- A row that has just been built. -/
theorem Seg.built (w : World) (B g : Nat) (hg : g = w.heap.size) (hB : B ≤ g) (l : List UInt8) (n : Nat) (hn : l.length = n) (h0 : n ≤ 1000) :
    Seg (w.alloc (.cells (cellsOf l).toArray 5)) B (.slice (some ⟨g, 0, none⟩) n n) l := by
  subst hg; subst hn
  refine Or.inr ⟨w.heap.size, 0, l.length, _, rfl, hB, heap_alloc_new w _, Nat.le_refl _, by unfold maxLen; omega, by simp [cellsOf_len], fun j hj => ?_⟩
  simp

theorem digits_le (u : Nat) (h : u < 18446744073709551616) : (Lib.decDigits u).length ≤ 20 := by
  rw [Lib.decDigits_length]
  by_cases h1 : 1 ≤ u
  · have := Lib.numDigits_eq u h1 h
    split at this <;> omega
  · rw [Lib.nDigits_small (by omega)]; omega

def lenV : Value → Nat
  | .slice _ n _ => n
  | _ => 0
theorem ret_s {a b : ByteArray} (h : a = b) : Ending.returned (.string a) = .returned (.string b) := by rw [h]

theorem dec_step (k : Nat) (h : k / 10 ≠ 0) : Lib.decDigits k = Lib.decDigits (k / 10) ++ [UInt8.ofNat (48 + k % 10)] := by
  rw [Lib.decDigits, dif_neg (by omega)]
theorem dec_last (k : Nat) (h : k / 10 = 0) : Lib.decDigits k = [UInt8.ofNat (48 + k % 10)] := by
  rw [Lib.decDigits, dif_pos (by omega), Nat.mod_eq_of_lt (by omega)]

/-- What the loop of the numerals holds. -/
def DecAt (n k : Nat) (ys : List UInt8) : Prop := if k = 0 ∧ ys ≠ [] then Lib.decDigits n = ys else Lib.decDigits n = Lib.decDigits k ++ ys

theorem dec_next (n k : Nat) (ys : List UInt8) (h : DecAt n k ys) (hk : ¬ (k = 0 ∧ ys ≠ [])) : DecAt n (k / 10) (UInt8.ofNat (48 + k % 10) :: ys) := by
  unfold DecAt at *
  rw [if_neg hk] at h
  by_cases h0 : k / 10 = 0
  · rw [if_pos ⟨h0, by simp⟩, h, dec_last k h0]; rfl
  · rw [if_neg (fun x => h0 x.1), h, dec_step k h0]; simp
theorem dec_short (n k : Nat) (ys : List UInt8) (hn : n < 18446744073709551616) (h : DecAt n k ys) : ys.length ≤ 20 := by
  have := digits_le n hn
  unfold DecAt at h
  split at h <;> rw [h] at this
  · exact this
  · rw [List.length_append] at this; omega

def decM (z o : Value) : Nat := 2 * (intOf z).toNat + (if lenV o = 0 then 1 else 0)

set_option maxHeartbeats 2000000 in
set_option maxRecDepth 100000 in
theorem decimal_any (x : Int) (w : World) (h0 : -9223372036854775808 ≤ x) (h1 : x ≤ 9223372036854775807) :
    Calls Tryd.prog 20 #[.int .i64 x] w fun e w' => e = .returned (.string ⟨(Lib.itoa x).toArray⟩) ∧ Below w.heap.size w w' := by
  by_cases hneg : x < 0
  · obtain ⟨n, rfl⟩ : ∃ n : Nat, x = -(n : Int) := ⟨x.natAbs, by omega⟩
    have hn : n ≤ 9223372036854775808 := by omega
    have hn1 : 1 ≤ n := by omega
    have hn0 : 0 < n := by omega
    have Hf : Hid (Lib.itoa (-(n : Int)) = 45 :: Lib.decDigits n) := Lib.hid (Lib.itoa_neg n hn1)
    clear h0 h1
    go_enter Tryd.func20, Tryd.ntmps20
    go_wp2_with fail
    go_loopw [3, 4] (fun z o wr => ∃ (k : Nat) (ys : List UInt8), z = .int .u64 k ∧ k ≤ n ∧ Seg wr w.heap.size o ys ∧ DecAt n k ys ∧ Below w.heap.size w wr) (fun z o _ => decM z o)
    case atStart => exact ⟨n, [], by go_num, Nat.le_refl _, Seg.nil _ _, by unfold DecAt; rw [if_neg (by simp)]; simp, Below.refl _ _⟩
    case round =>
      obtain ⟨k, ys, rfl, hk, hseg, hat, hw⟩ := hrel
      have hys := dec_short n k ys (by omega) hat
      have hBr : w.heap.size ≤ wr.heap.size := hw.size
      obtain ⟨a, cap, rfl, hcl, hcm⟩ := hseg.len
      have Hs := Lib.hid hseg
      have Hat := Lib.hid hat
      clear hseg hat
      by_cases hend : k = 0 ∧ ys ≠ []
      · obtain ⟨rfl, hne⟩ := hend
        have hyl : ((ys.length : Int) == 0) = false := by
          have : 0 < ys.length := List.length_pos_iff.2 hne
          exact beq_eq_false_iff_ne.2 (by omega)
        have Hq : Hid (Lib.itoa (-(n : Int)) = 45 :: ys) := Lib.hid (by
          have := Hat.out
          unfold DecAt at this
          rw [if_pos ⟨rfl, hne⟩] at this
          rw [Hf.out, this])
        have Hrow : Hid (Seg (wr.alloc (.cells #[.int .u8 45] 5)) w.heap.size (.slice (some ⟨wr.heap.size, 0, none⟩) 1 1) [45]) := Lib.hid (Seg.built wr w.heap.size _ rfl hBr [45] 1 rfl (by decide))
        go_wp2_with (at_builtin; refine wpList_append_seg _ rfl _ _ 45 rfl rfl Hrow.out _ rfl ys.length ys rfl (Hs.out.keep ((Below.refl _ _).alloc (Nat.le_refl _) _)).src ?c1 ?c2 ?_)
        case c1 => simp only [List.length_cons, List.length_nil]; omega
        case c2 => simp; omega
        intro v' w1 hs1 hb1
        have hcv := seg_string hs1
        rw [← Hq.out] at hcv
        have hb2 : Below w.heap.size w w1 := (hw.alloc hBr _).trans hb1
        clear hs1 hb1
        go_wp2_with fail
        go_ret
        exact ⟨rfl, hb2⟩
      · have Hn := Lib.hid (dec_next n k ys Hat.out hend)
        obtain ⟨c, hc⟩ : ∃ c : UInt8, UInt8.ofNat (48 + k % 10) = c := ⟨_, rfl⟩
        have hcn : (c.toNat : Int) = 48 + (k : Int) % 10 := by
          rw [← hc, UInt8.toNat_ofNat']; omega
        rw [hc] at Hn
        have hk10 : k / 10 ≤ n := Nat.le_trans (Nat.div_le_self _ _) hk
        by_cases hk0 : k = 0
        · have hy0 : ys = [] := by
            cases ys with
            | nil => rfl
            | cons _ _ => exact absurd ⟨hk0, by simp⟩ hend
          subst hk0; subst hy0
          have Hrow : Hid (Seg (wr.alloc (.cells #[.int .u8 48] 5)) w.heap.size (.slice (some ⟨wr.heap.size, 0, none⟩) 1 1) [c]) := Lib.hid (by
            have h48 : (48 : Int) = (c.toNat : Int) := by rw [hcn]; decide
            rw [h48]; exact Seg.built wr w.heap.size _ rfl hBr [c] 1 rfl (by decide))
          clear hend hc hcn
          go_wp2_with (at_builtin; refine wpList_append_seg _ rfl _ _ 45 rfl rfl Hrow.out _ rfl 0 [] rfl (Hs.out.keep ((Below.refl _ _).alloc (Nat.le_refl _) _)).src ?c1 ?c2 ?_)
          case c1 => simp
          case c2 => simp; omega
          intro v' w1 hs1 hb1
          have hb2 : Below w.heap.size w w1 := (hw.alloc hBr _).trans hb1
          obtain ⟨a1, cap1, rfl, _, _⟩ := hs1.len
          have Hs1 := Lib.hid hs1
          clear hs1 hb1
          go_wp2_with fail
          go_roundw
          case rel => exact ⟨0 / 10, [c], by go_num, by omega, Hs1.out, Hn.out, hb2⟩
          case measure => simp [decM, lenV, intOf]
        · have Hrow : Hid (Seg (wr.alloc (.cells #[.int .u8 (48 + (k : Int) % 10)] 5)) w.heap.size (.slice (some ⟨wr.heap.size, 0, none⟩) 1 1) [c]) := Lib.hid (by
            rw [← hcn]; exact Seg.built wr w.heap.size _ rfl hBr [c] 1 rfl (by decide))
          clear hend hc hcn
          go_wp2_with (at_builtin; refine wpList_append_seg _ rfl _ _ 45 rfl rfl Hrow.out _ rfl ys.length ys rfl (Hs.out.keep ((Below.refl _ _).alloc (Nat.le_refl _) _)).src ?c1 ?c2 ?_)
          case c1 => simp only [List.length_cons, List.length_nil]; omega
          case c2 => simp; omega
          intro v' w1 hs1 hb1
          have hb2 : Below w.heap.size w w1 := (hw.alloc hBr _).trans hb1
          obtain ⟨a1, cap1, rfl, _, _⟩ := hs1.len
          have Hs1 := Lib.hid hs1
          clear hs1 hb1
          go_wp2_with fail
          go_roundw
          case rel => exact ⟨k / 10, c :: ys, by go_num, hk10, Hs1.out, Hn.out, hb2⟩
          case measure => simp [decM, lenV, intOf]; split <;> omega
  · obtain ⟨n, rfl⟩ : ∃ n : Nat, x = n := ⟨x.toNat, by omega⟩
    have hn : n < 9223372036854775808 := by omega
    have Hf : Hid (Lib.itoa (n : Int) = Lib.decDigits n) := Lib.hid (Lib.itoa_nonneg n)
    clear hneg h0 h1
    go_enter Tryd.func20, Tryd.ntmps20
    go_wp2_with fail
    go_loopw [3, 4] (fun z o wr => ∃ (k : Nat) (ys : List UInt8), z = .int .u64 k ∧ k ≤ n ∧ Seg wr w.heap.size o ys ∧ DecAt n k ys ∧ Below w.heap.size w wr) (fun z o _ => decM z o)
    case atStart => exact ⟨n, [], by go_num, Nat.le_refl _, Seg.nil _ _, by unfold DecAt; rw [if_neg (by simp)]; simp, Below.refl _ _⟩
    case round =>
      obtain ⟨k, ys, rfl, hk, hseg, hat, hw⟩ := hrel
      have hys := dec_short n k ys (by omega) hat
      have hBr : w.heap.size ≤ wr.heap.size := hw.size
      obtain ⟨a, cap, rfl, hcl, hcm⟩ := hseg.len
      have Hs := Lib.hid hseg
      have Hat := Lib.hid hat
      clear hseg hat
      by_cases hend : k = 0 ∧ ys ≠ []
      · obtain ⟨rfl, hne⟩ := hend
        have hyl : ((ys.length : Int) == 0) = false := by
          have : 0 < ys.length := List.length_pos_iff.2 hne
          exact beq_eq_false_iff_ne.2 (by omega)
        have hcv := seg_string Hs.out
        have Hq : Hid (Lib.itoa (n : Int) = ys) := Lib.hid (by
          have := Hat.out
          unfold DecAt at this
          rw [if_pos ⟨rfl, hne⟩] at this
          rw [Hf.out, this])
        go_wp2_with fail
        go_ret
        exact ⟨ret_s (by rw [Hq.out]), hw⟩
      · have Hn := Lib.hid (dec_next n k ys Hat.out hend)
        obtain ⟨c, hc⟩ : ∃ c : UInt8, UInt8.ofNat (48 + k % 10) = c := ⟨_, rfl⟩
        have hcn : (c.toNat : Int) = 48 + (k : Int) % 10 := by
          rw [← hc, UInt8.toNat_ofNat']; omega
        rw [hc] at Hn
        have hk10 : k / 10 ≤ n := Nat.le_trans (Nat.div_le_self _ _) hk
        by_cases hk0 : k = 0
        · have hy0 : ys = [] := by
            cases ys with
            | nil => rfl
            | cons _ _ => exact absurd ⟨hk0, by simp⟩ hend
          subst hk0; subst hy0
          have Hrow : Hid (Seg (wr.alloc (.cells #[.int .u8 48] 5)) w.heap.size (.slice (some ⟨wr.heap.size, 0, none⟩) 1 1) [c]) := Lib.hid (by
            have h48 : (48 : Int) = (c.toNat : Int) := by rw [hcn]; decide
            rw [h48]; exact Seg.built wr w.heap.size _ rfl hBr [c] 1 rfl (by decide))
          clear hend hc hcn
          go_wp2_with (at_builtin; refine wpList_append_seg _ rfl _ _ 45 rfl rfl Hrow.out _ rfl 0 [] rfl (Hs.out.keep ((Below.refl _ _).alloc (Nat.le_refl _) _)).src ?c1 ?c2 ?_)
          case c1 => simp
          case c2 => simp; omega
          intro v' w1 hs1 hb1
          have hb2 : Below w.heap.size w w1 := (hw.alloc hBr _).trans hb1
          obtain ⟨a1, cap1, rfl, _, _⟩ := hs1.len
          have Hs1 := Lib.hid hs1
          clear hs1 hb1
          go_wp2_with fail
          go_roundw
          case rel => exact ⟨0 / 10, [c], by go_num, by omega, Hs1.out, Hn.out, hb2⟩
          case measure => simp [decM, lenV, intOf]
        · have Hrow : Hid (Seg (wr.alloc (.cells #[.int .u8 (48 + (k : Int) % 10)] 5)) w.heap.size (.slice (some ⟨wr.heap.size, 0, none⟩) 1 1) [c]) := Lib.hid (by
            rw [← hcn]; exact Seg.built wr w.heap.size _ rfl hBr [c] 1 rfl (by decide))
          clear hend hc hcn
          go_wp2_with (at_builtin; refine wpList_append_seg _ rfl _ _ 45 rfl rfl Hrow.out _ rfl ys.length ys rfl (Hs.out.keep ((Below.refl _ _).alloc (Nat.le_refl _) _)).src ?c1 ?c2 ?_)
          case c1 => simp only [List.length_cons, List.length_nil]; omega
          case c2 => simp; omega
          intro v' w1 hs1 hb1
          have hb2 : Below w.heap.size w w1 := (hw.alloc hBr _).trans hb1
          obtain ⟨a1, cap1, rfl, _, _⟩ := hs1.len
          have Hs1 := Lib.hid hs1
          clear hs1 hb1
          go_wp2_with fail
          go_roundw
          case rel => exact ⟨k / 10, c :: ys, by go_num, hk10, Hs1.out, Hn.out, hb2⟩
          case measure => simp [decM, lenV, intOf]; split <;> omega

end Num
end Go.Proofs.YtcalgpkcefccmaaDoor
