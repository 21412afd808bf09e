/-
  The document's own numerals.
-/
import Derived.Test.YtjoohpdohdehgaaGreatDoorNumSeg
import Derived.Lib.ItoaNum
import Derived.Shelf.Strconv.AppendUint10
import Derived.WalkLawsBesides
namespace Go.Proofs.YtjoohpdohdehgaaGreatDoor
namespace Num
open Go.RowKit

/-- A row that has just been built. -/
theorem Seg.built (w : World) (B g : Nat) (hg : g = w.heap.size) (hB : B ≤ g) (l : List UInt8) (n : Nat) (hn : l.length = n) (h0 : n ≤ 1000) :
    Seg (w.alloc (.cells (cellsOf l).toArray 5)) B (.slice (some ⟨g, 0, none⟩) n n) l := by
  subst hg; subst hn
  refine Or.inr ⟨w.heap.size, 0, l.length, _, rfl, hB, heap_alloc_new w _, Nat.le_refl _, by unfold maxLen; omega, by simp [cellsOf_len], fun j hj => ?_⟩
  simp

theorem digits_le (u : Nat) (h : u < 18446744073709551616) : (Lib.decDigits u).length ≤ 20 := by
  rw [Lib.decDigits_length]
  by_cases h1 : 1 ≤ u
  · have := Lib.numDigits_eq u h1 h
    split at this <;> omega
  · rw [Lib.nDigits_small (by omega)]; omega

def lenV : Value → Nat
  | .slice _ n _ => n
  | _ => 0
theorem ret_s {a b : ByteArray} (h : a = b) : Ending.returned (.string a) = .returned (.string b) := by rw [h]

theorem dec_step (k : Nat) (h : k / 10 ≠ 0) : Lib.decDigits k = Lib.decDigits (k / 10) ++ [UInt8.ofNat (48 + k % 10)] := by
  rw [Lib.decDigits, dif_neg (by omega)]
theorem dec_last (k : Nat) (h : k / 10 = 0) : Lib.decDigits k = [UInt8.ofNat (48 + k % 10)] := by
  rw [Lib.decDigits, dif_pos (by omega), Nat.mod_eq_of_lt (by omega)]

/-- What the loop of the numerals holds. -/
def DecAt (n k : Nat) (ys : List UInt8) : Prop := if k = 0 ∧ ys ≠ [] then Lib.decDigits n = ys else Lib.decDigits n = Lib.decDigits k ++ ys

theorem dec_next (n k : Nat) (ys : List UInt8) (h : DecAt n k ys) (hk : ¬ (k = 0 ∧ ys ≠ [])) : DecAt n (k / 10) (UInt8.ofNat (48 + k % 10) :: ys) := by
  unfold DecAt at *
  rw [if_neg hk] at h
  by_cases h0 : k / 10 = 0
  · rw [if_pos ⟨h0, by simp⟩, h, dec_last k h0]; rfl
  · rw [if_neg (fun x => h0 x.1), h, dec_step k h0]; simp
theorem dec_short (n k : Nat) (ys : List UInt8) (hn : n < 18446744073709551616) (h : DecAt n k ys) : ys.length ≤ 20 := by
  have := digits_le n hn
  unfold DecAt at h
  split at h <;> rw [h] at this
  · exact this
  · rw [List.length_append] at this; omega

def decM (z o : Value) : Nat := 2 * (intOf z).toNat + (if lenV o = 0 then 1 else 0)

set_option maxHeartbeats 2000000 in
set_option maxRecDepth 100000 in
theorem decimal_any (x : Int) (w : World) (h0 : -9223372036854775808 ≤ x) (h1 : x ≤ 9223372036854775807) :
    Calls Tryz.prog 15 #[.int .i64 x] w fun e w' => e = .returned (.string ⟨(Lib.itoa x).toArray⟩) ∧ Below w.heap.size w w' := by
  by_cases hneg : x < 0
  · obtain ⟨n, rfl⟩ : ∃ n : Nat, x = -(n : Int) := ⟨x.natAbs, by omega⟩
    have hn : n ≤ 9223372036854775808 := by omega
    have hn1 : 1 ≤ n := by omega
    have hn0 : 0 < n := by omega
    have Hf : Hid (Lib.itoa (-(n : Int)) = 45 :: Lib.decDigits n) := Lib.hid (Lib.itoa_neg n hn1)
    clear h0 h1
    go_enter Tryz.func15, Tryz.ntmps15
    go_wp2_with fail
    go_loopw [3, 4] (fun z o wr => ∃ (k : Nat) (ys : List UInt8), z = .int .u64 k ∧ k ≤ n ∧ Seg wr w.heap.size o ys ∧ DecAt n k ys ∧ Below w.heap.size w wr) (fun z o _ => decM z o)
    case atStart => exact ⟨n, [], by go_num, Nat.le_refl _, Seg.nil _ _, by unfold DecAt; rw [if_neg (by simp)]; simp, Below.refl _ _⟩
    case round =>
      obtain ⟨k, ys, rfl, hk, hseg, hat, hw⟩ := hrel
      have hys := dec_short n k ys (by omega) hat
      have hBr : w.heap.size ≤ wr.heap.size := hw.size
      obtain ⟨a, cap, rfl, hcl, hcm⟩ := hseg.len
      have Hs := Lib.hid hseg
      have Hat := Lib.hid hat
      clear hseg hat
      by_cases hend : k = 0 ∧ ys ≠ []
      · obtain ⟨rfl, hne⟩ := hend
        have hyl : ((ys.length : Int) == 0) = false := by
          have : 0 < ys.length := List.length_pos_iff.2 hne
          exact beq_eq_false_iff_ne.2 (by omega)
        have Hq : Hid (Lib.itoa (-(n : Int)) = 45 :: ys) := Lib.hid (by
          have := Hat.out
          unfold DecAt at this
          rw [if_pos ⟨rfl, hne⟩] at this
          rw [Hf.out, this])
        have Hrow : Hid (Seg (wr.alloc (.cells #[.int .u8 45] 5)) w.heap.size (.slice (some ⟨wr.heap.size, 0, none⟩) 1 1) [45]) := Lib.hid (Seg.built wr w.heap.size _ rfl hBr [45] 1 rfl (by decide))
        go_wp2_with (at_builtin; refine wpList_append_seg _ rfl _ _ 38 rfl rfl Hrow.out _ rfl ys.length ys rfl (Hs.out.keep ((Below.refl _ _).alloc (Nat.le_refl _) _)).src ?c1 ?c2 ?_)
        case c1 => simp only [List.length_cons, List.length_nil]; omega
        case c2 => simp; omega
        intro v' w1 hs1 hb1
        have hcv := seg_string hs1
        rw [← Hq.out] at hcv
        have hb2 : Below w.heap.size w w1 := (hw.alloc hBr _).trans hb1
        clear hs1 hb1
        go_wp2_with fail
        go_ret
        exact ⟨rfl, hb2⟩
      · have Hn := Lib.hid (dec_next n k ys Hat.out hend)
        obtain ⟨c, hc⟩ : ∃ c : UInt8, UInt8.ofNat (48 + k % 10) = c := ⟨_, rfl⟩
        have hcn : (c.toNat : Int) = 48 + (k : Int) % 10 := by
          rw [← hc, UInt8.toNat_ofNat']; omega
        rw [hc] at Hn
        have hk10 : k / 10 ≤ n := Nat.le_trans (Nat.div_le_self _ _) hk
        by_cases hk0 : k = 0
        · have hy0 : ys = [] := by
            cases ys with
            | nil => rfl
            | cons _ _ => exact absurd ⟨hk0, by simp⟩ hend
          subst hk0; subst hy0
          have Hrow : Hid (Seg (wr.alloc (.cells #[.int .u8 48] 5)) w.heap.size (.slice (some ⟨wr.heap.size, 0, none⟩) 1 1) [c]) := Lib.hid (by
            have h48 : (48 : Int) = (c.toNat : Int) := by rw [hcn]; decide
            rw [h48]; exact Seg.built wr w.heap.size _ rfl hBr [c] 1 rfl (by decide))
          clear hend hc hcn
          go_wp2_with (at_builtin; refine wpList_append_seg _ rfl _ _ 38 rfl rfl Hrow.out _ rfl 0 [] rfl (Hs.out.keep ((Below.refl _ _).alloc (Nat.le_refl _) _)).src ?c1 ?c2 ?_)
          case c1 => simp
          case c2 => simp; omega
          intro v' w1 hs1 hb1
          have hb2 : Below w.heap.size w w1 := (hw.alloc hBr _).trans hb1
          obtain ⟨a1, cap1, rfl, _, _⟩ := hs1.len
          have Hs1 := Lib.hid hs1
          clear hs1 hb1
          go_wp2_with fail
          go_roundw
          case rel => exact ⟨0 / 10, [c], by go_num, by omega, Hs1.out, Hn.out, hb2⟩
          case measure => simp [decM, lenV, intOf]
        · have Hrow : Hid (Seg (wr.alloc (.cells #[.int .u8 (48 + (k : Int) % 10)] 5)) w.heap.size (.slice (some ⟨wr.heap.size, 0, none⟩) 1 1) [c]) := Lib.hid (by
            rw [← hcn]; exact Seg.built wr w.heap.size _ rfl hBr [c] 1 rfl (by decide))
          clear hend hc hcn
          go_wp2_with (at_builtin; refine wpList_append_seg _ rfl _ _ 38 rfl rfl Hrow.out _ rfl ys.length ys rfl (Hs.out.keep ((Below.refl _ _).alloc (Nat.le_refl _) _)).src ?c1 ?c2 ?_)
          case c1 => simp only [List.length_cons, List.length_nil]; omega
          case c2 => simp; omega
          intro v' w1 hs1 hb1
          have hb2 : Below w.heap.size w w1 := (hw.alloc hBr _).trans hb1
          obtain ⟨a1, cap1, rfl, _, _⟩ := hs1.len
          have Hs1 := Lib.hid hs1
          clear hs1 hb1
          go_wp2_with fail
          go_roundw
          case rel => exact ⟨k / 10, c :: ys, by go_num, hk10, Hs1.out, Hn.out, hb2⟩
          case measure => simp [decM, lenV, intOf]; split <;> omega
  · obtain ⟨n, rfl⟩ : ∃ n : Nat, x = n := ⟨x.toNat, by omega⟩
    have hn : n < 9223372036854775808 := by omega
    have Hf : Hid (Lib.itoa (n : Int) = Lib.decDigits n) := Lib.hid (Lib.itoa_nonneg n)
    clear hneg h0 h1
    go_enter Tryz.func15, Tryz.ntmps15
    go_wp2_with fail
    go_loopw [3, 4] (fun z o wr => ∃ (k : Nat) (ys : List UInt8), z = .int .u64 k ∧ k ≤ n ∧ Seg wr w.heap.size o ys ∧ DecAt n k ys ∧ Below w.heap.size w wr) (fun z o _ => decM z o)
    case atStart => exact ⟨n, [], by go_num, Nat.le_refl _, Seg.nil _ _, by unfold DecAt; rw [if_neg (by simp)]; simp, Below.refl _ _⟩
    case round =>
      obtain ⟨k, ys, rfl, hk, hseg, hat, hw⟩ := hrel
      have hys := dec_short n k ys (by omega) hat
      have hBr : w.heap.size ≤ wr.heap.size := hw.size
      obtain ⟨a, cap, rfl, hcl, hcm⟩ := hseg.len
      have Hs := Lib.hid hseg
      have Hat := Lib.hid hat
      clear hseg hat
      by_cases hend : k = 0 ∧ ys ≠ []
      · obtain ⟨rfl, hne⟩ := hend
        have hyl : ((ys.length : Int) == 0) = false := by
          have : 0 < ys.length := List.length_pos_iff.2 hne
          exact beq_eq_false_iff_ne.2 (by omega)
        have hcv := seg_string Hs.out
        have Hq : Hid (Lib.itoa (n : Int) = ys) := Lib.hid (by
          have := Hat.out
          unfold DecAt at this
          rw [if_pos ⟨rfl, hne⟩] at this
          rw [Hf.out, this])
        go_wp2_with fail
        go_ret
        exact ⟨ret_s (by rw [Hq.out]), hw⟩
      · have Hn := Lib.hid (dec_next n k ys Hat.out hend)
        obtain ⟨c, hc⟩ : ∃ c : UInt8, UInt8.ofNat (48 + k % 10) = c := ⟨_, rfl⟩
        have hcn : (c.toNat : Int) = 48 + (k : Int) % 10 := by
          rw [← hc, UInt8.toNat_ofNat']; omega
        rw [hc] at Hn
        have hk10 : k / 10 ≤ n := Nat.le_trans (Nat.div_le_self _ _) hk
        by_cases hk0 : k = 0
        · have hy0 : ys = [] := by
            cases ys with
            | nil => rfl
            | cons _ _ => exact absurd ⟨hk0, by simp⟩ hend
          subst hk0; subst hy0
          have Hrow : Hid (Seg (wr.alloc (.cells #[.int .u8 48] 5)) w.heap.size (.slice (some ⟨wr.heap.size, 0, none⟩) 1 1) [c]) := Lib.hid (by
            have h48 : (48 : Int) = (c.toNat : Int) := by rw [hcn]; decide
            rw [h48]; exact Seg.built wr w.heap.size _ rfl hBr [c] 1 rfl (by decide))
          clear hend hc hcn
          go_wp2_with (at_builtin; refine wpList_append_seg _ rfl _ _ 38 rfl rfl Hrow.out _ rfl 0 [] rfl (Hs.out.keep ((Below.refl _ _).alloc (Nat.le_refl _) _)).src ?c1 ?c2 ?_)
          case c1 => simp
          case c2 => simp; omega
          intro v' w1 hs1 hb1
          have hb2 : Below w.heap.size w w1 := (hw.alloc hBr _).trans hb1
          obtain ⟨a1, cap1, rfl, _, _⟩ := hs1.len
          have Hs1 := Lib.hid hs1
          clear hs1 hb1
          go_wp2_with fail
          go_roundw
          case rel => exact ⟨0 / 10, [c], by go_num, by omega, Hs1.out, Hn.out, hb2⟩
          case measure => simp [decM, lenV, intOf]
        · have Hrow : Hid (Seg (wr.alloc (.cells #[.int .u8 (48 + (k : Int) % 10)] 5)) w.heap.size (.slice (some ⟨wr.heap.size, 0, none⟩) 1 1) [c]) := Lib.hid (by
            rw [← hcn]; exact Seg.built wr w.heap.size _ rfl hBr [c] 1 rfl (by decide))
          clear hend hc hcn
          go_wp2_with (at_builtin; refine wpList_append_seg _ rfl _ _ 38 rfl rfl Hrow.out _ rfl ys.length ys rfl (Hs.out.keep ((Below.refl _ _).alloc (Nat.le_refl _) _)).src ?c1 ?c2 ?_)
          case c1 => simp only [List.length_cons, List.length_nil]; omega
          case c2 => simp; omega
          intro v' w1 hs1 hb1
          have hb2 : Below w.heap.size w w1 := (hw.alloc hBr _).trans hb1
          obtain ⟨a1, cap1, rfl, _, _⟩ := hs1.len
          have Hs1 := Lib.hid hs1
          clear hs1 hb1
          go_wp2_with fail
          go_roundw
          case rel => exact ⟨k / 10, c :: ys, by go_num, hk10, Hs1.out, Hn.out, hb2⟩
          case measure => simp [decM, lenV, intOf]; split <;> omega

end Num
end Go.Proofs.YtjoohpdohdehgaaGreatDoor
