/-
  The contracts of bytes.TrimLeft and bytes.TrimRight at noughts, over a piece of a row.
-/
import Derived.Test.YtinjaopgnlpncaaGreatDoorNumCuts
namespace Go.Proofs.YtinjaopgnlpncaaGreatDoor
namespace Num
open Go.RowKit

/-- A piece without its first byte. -/
theorem Seg.tail {w : World} {B g off cap : Nat} {c : UInt8} {t : List UInt8} (h : Seg w B (.slice (some ⟨g, off, none⟩) (t.length + 1) cap) (c :: t)) :
    Seg w B (.slice (some ⟨g, off + 1, none⟩) t.length (cap - 1)) t := by
  rcases h with ⟨h, _⟩ | ⟨g', off', cap', cur, h1, h2, h3, h4, h5, h6, h7⟩
  · cases h
  · simp only [Value.slice.injEq, Option.some.injEq, Addr.mk.injEq, List.length_cons] at h1
    obtain ⟨⟨rfl, rfl, _⟩, _, rfl⟩ := h1
    rw [List.length_cons] at h4
    refine Or.inr ⟨g, off + 1, cap - 1, cur, rfl, h2, h3, by omega, by unfold maxLen at *; omega, by omega, fun j hj => ?_⟩
    have := h7 (j + 1) (by simp; omega)
    rw [show off + 1 + j = off + (j + 1) from by omega, this]
    simp [cellsOf]
theorem Seg.empty {w : World} {B g off cap : Nat} {v : Value} {xs : List UInt8} (h : Seg w B v xs) (hv : v = .slice (some ⟨g, off, none⟩) xs.length cap) : Seg w B (.slice (some ⟨g, off, none⟩) 0 0) [] := by
  subst hv
  rcases h with ⟨h, _⟩ | ⟨g', off', cap', cur, h1, h2, h3, h4, h5, h6, h7⟩
  · cases h
  · simp only [Value.slice.injEq, Option.some.injEq, Addr.mk.injEq] at h1
    obtain ⟨⟨rfl, rfl, _⟩, _, rfl⟩ := h1
    exact Or.inr ⟨g, off, 0, cur, rfl, h2, h3, Nat.le_refl _, by omega, by omega, fun j hj => absurd hj (by simp)⟩
theorem Seg.front {w : World} {B g off cap : Nat} {xs ys : List UInt8} (h : Seg w B (.slice (some ⟨g, off, none⟩) (xs ++ ys).length cap) (xs ++ ys)) :
    Seg w B (.slice (some ⟨g, off, none⟩) xs.length cap) xs := by
  rcases h with ⟨h, _⟩ | ⟨g', off', cap', cur, h1, h2, h3, h4, h5, h6, h7⟩
  · cases h
  · simp only [Value.slice.injEq, Option.some.injEq, Addr.mk.injEq] at h1
    obtain ⟨⟨rfl, rfl, _⟩, _, rfl⟩ := h1
    rw [List.length_append] at h4 h7
    refine Or.inr ⟨g, off, cap, cur, rfl, h2, h3, by omega, h5, h6, fun j hj => ?_⟩
    rw [h7 j (by omega), cellsOf_app, List.getElem?_append_left (by rw [cellsOf_len]; exact hj)]

/-- The bytes c at the head are gone. -/
def lopL (c : UInt8) (l : List UInt8) : List UInt8 := l.dropWhile (fun b => b == c)

def lenV : Value → Nat
  | .slice _ n _ => n
  | _ => 0

/-- A piece comes back that reads ys; nothing turns. -/
def SegSame (B : Nat) (w : World) (ys : List UInt8) (e : Ending) (w' : World) : Prop := (∃ v', e = .returned v' ∧ Seg w B v' ys) ∧ w = w'

theorem byte_eq (a c : UInt8) : ((a.toNat : Int) == (c.toNat : Int)) = (a == c) := by
  rw [Bool.eq_iff_iff, beq_iff_eq, beq_iff_eq, ← UInt8.toNat_inj]; omega

/-- The look of a piece that is not empty. -/
theorem Seg.cons {w : World} {B : Nat} {v : Value} {c : UInt8} {t : List UInt8} (h : Seg w B v (c :: t)) :
    ∃ g off cap, v = .slice (some ⟨g, off, none⟩) (t.length + 1) cap ∧ t.length + 1 ≤ cap ∧ cap ≤ maxLen ∧ w.cell? ⟨g, off, none⟩ = some (.int .u8 (c.toNat : Int)) := by
  obtain ⟨g, off, cap, rfl, _, h3, h4, _, h6⟩ := h.form (by simp)
  exact ⟨g, off, cap, rfl, h3, h4, by have := h6 0 (by simp); simpa [cellsOf] using this⟩

set_option maxHeartbeats 1000000 in
theorem trimLeftByte_any (B : Nat) (v : Value) (xs : List UInt8) (c : UInt8) (w : World) (h : Seg w B v xs) :
    Calls Tryz.prog 60 #[v, .int .u8 (c.toNat : Int)] w (SegSame B w (lopL c xs)) := by
  have H := Lib.hid h; clear h
  go_enter Tryz.func60, Tryz.ntmps60
  go_wp2_with fail
  go_loop [0] (fun a => ∃ ys : List UInt8, Seg w B a ys ∧ lopL c ys = lopL c xs) (fun a => lenV a)
  case atStart => exact ⟨xs, H.out, rfl⟩
  case round =>
    obtain ⟨ys, hs, hl⟩ := hrel
    have Hl := Lib.hid hl; clear hl
    cases ys with
    | nil =>
      obtain ⟨a, cap, rfl, _, _⟩ := hs.len
      clear hs
      go_wp2_with fail
      go_ret
      exact ⟨⟨_, rfl, by rw [← Hl.out]; exact Seg.nil w B⟩, rfl⟩
    | cons d t =>
      obtain ⟨g, off, cap, rfl, h1, h2, h3⟩ := hs.cons
      have Hs := Lib.hid hs; clear hs
      unfold maxLen at h2
      cases hd : (d == c)
      · have he : (((d.toNat : Int)) == (c.toNat : Int)) = false := by rw [byte_eq, hd]
        have Hf : Hid (lopL c (d :: t) = d :: t) := Lib.hid (by simp [lopL, hd])
        clear hd
        go_wp2_with fail
        go_ret
        exact ⟨⟨_, rfl, by rw [← Hl.out, Hf.out]; exact Hs.out⟩, rfl⟩
      · have he : (((d.toNat : Int)) == (c.toNat : Int)) = true := by rw [byte_eq, hd]
        have Hf : Hid (lopL c (d :: t) = lopL c t) := Lib.hid (by simp [lopL, hd])
        clear hd
        by_cases hc : cap = 1
        · subst hc
          obtain rfl : t = [] := List.length_eq_zero_iff.1 (by omega)
          have hn : Seg w B (.slice (some ⟨g, off, none⟩) 0 0) [] := Hs.out.empty rfl
          have Hn := Lib.hid hn; clear hn
          go_wp2_with fail
          go_round
          case rel => exact ⟨[], Hn.out, by rw [← Hl.out, Hf.out]⟩
          case measure => simp [lenV]
        · have hcap : 1 < cap := by omega
          have hn : Seg w B (.slice (some ⟨g, off + 1, none⟩) t.length (cap - 1)) t := Hs.out.tail
          have Hn := Lib.hid hn; clear hn
          have Hc := Lib.hid hc; clear hc
          go_wp2_with fail
          go_round
          case rel => exact ⟨t, Hn.out, by rw [← Hl.out, Hf.out]⟩
          case measure => simp [lenV]

/-- The bytes c at the end are gone. -/
def lopR (c : UInt8) (l : List UInt8) : List UInt8 := (l.reverse.dropWhile (fun b => b == c)).reverse

/-- The look of a piece that is not empty, from its end. -/
theorem Seg.snoc {w : World} {B : Nat} {v : Value} {d : UInt8} {t : List UInt8} (h : Seg w B v (t ++ [d])) :
    ∃ g off cap, v = .slice (some ⟨g, off, none⟩) (t.length + 1) cap ∧ t.length + 1 ≤ cap ∧ cap ≤ maxLen ∧ w.cell? ⟨g, off + t.length, none⟩ = some (.int .u8 (d.toNat : Int)) := by
  obtain ⟨g, off, cap, rfl, _, h3, h4, _, h6⟩ := h.form (by simp)
  refine ⟨g, off, cap, by simp, by simpa using h3, h4, ?_⟩
  have := h6 t.length (by simp)
  rw [this]
  simp [cellsOf]

set_option maxHeartbeats 1000000 in
theorem trimRightByte_any (B : Nat) (v : Value) (xs : List UInt8) (c : UInt8) (w : World) (h : Seg w B v xs) :
    Calls Tryz.prog 66 #[v, .int .u8 (c.toNat : Int)] w (SegSame B w (lopR c xs)) := by
  have H := Lib.hid h; clear h
  go_enter Tryz.func66, Tryz.ntmps66
  go_wp2_with fail
  go_loop [0] (fun a => ∃ ys : List UInt8, Seg w B a ys ∧ lopR c ys = lopR c xs) (fun a => lenV a)
  case atStart => exact ⟨xs, H.out, rfl⟩
  case round =>
    obtain ⟨ys, hs, hl⟩ := hrel
    have Hl := Lib.hid hl; clear hl
    rcases List.eq_nil_or_concat ys with rfl | ⟨t, d, rfl⟩
    · obtain ⟨a, cap, rfl, _, _⟩ := hs.len
      have Hs := Lib.hid hs; clear hs
      go_wp2_with fail
      go_ret
      exact ⟨⟨_, rfl, by rw [← Hl.out]; exact Hs.out⟩, rfl⟩
    · rw [List.concat_eq_append] at hs Hl
      obtain ⟨g, off, cap, rfl, h1, h2, h3⟩ := hs.snoc
      have Hs := Lib.hid hs; clear hs
      unfold maxLen at h2
      cases hd : (d == c)
      · have he : (((d.toNat : Int)) == (c.toNat : Int)) = false := by rw [byte_eq, hd]
        have Hf : Hid (lopR c (t ++ [d]) = t ++ [d]) := Lib.hid (by simp [lopR, hd])
        clear hd
        go_wp2_with fail
        go_ret
        exact ⟨⟨_, rfl, by rw [← Hl.out, Hf.out]; exact Hs.out⟩, rfl⟩
      · have he : (((d.toNat : Int)) == (c.toNat : Int)) = true := by rw [byte_eq, hd]
        have Hf : Hid (lopR c (t ++ [d]) = lopR c t) := Lib.hid (by simp [lopR, hd])
        clear hd
        have hn : Seg w B (.slice (some ⟨g, off, none⟩) t.length cap) t := by
          have := Hs.out
          exact Seg.front (ys := [d]) (by simpa using this)
        have Hn := Lib.hid hn; clear hn
        go_wp2_with fail
        go_round
        case rel => exact ⟨t, Hn.out, by rw [← Hl.out, Hf.out]⟩
        case measure => simp [lenV]

theorem trimLeftByte_0 (B : Nat) (v : Value) (xs : List UInt8) (w : World) (h : Seg w B v xs) :
    Calls Tryz.prog 60 #[v, .int .u8 48] w (SegSame B w (lopL 48 xs)) := by
  have h2 := trimLeftByte_any B v xs 48 w h
  rw [show (((48 : UInt8).toNat : Nat) : Int) = 48 from rfl] at h2
  exact h2

set_option maxHeartbeats 1000000 in
set_option maxRecDepth 100000 in
theorem trimLeft_any (B : Nat) (v : Value) (xs : List UInt8) (w : World) (h : Seg w B v xs) :
    Calls Tryz.prog 36 #[v, .string ⟨#[48]⟩] w (SegSame B w (aheadL xs)) := by
  cases xs with
  | nil =>
    obtain ⟨a, cap, rfl, _, _⟩ := h.len
    clear h
    go_enter Tryz.func36, Tryz.ntmps36
    go_wp2_with fail
    go_ret
    exact ⟨⟨_, rfl, Seg.nil w B⟩, rfl⟩
  | cons d t =>
    obtain ⟨g, off, cap, rfl, h1, h2, h3⟩ := h.cons
    have H := Lib.hid h; clear h
    have hn : ((t.length + 1 : Nat) : Int) ≠ 0 := by omega
    have hz : (((t.length : Int) + 1) == 0) = false := beq_eq_false_iff_ne.2 (by omega)
    clear hn
    go_enter Tryz.func36, Tryz.ntmps36
    go_wp2_with fail
    refine (trimLeftByte_0 B _ (d :: t) _ H.out).mono ?_
    rintro e w1 ⟨⟨v', rfl, hs⟩, rfl⟩
    have Hs := Lib.hid hs; clear hs
    go_wp2_with fail
    go_ret
    exact ⟨⟨_, rfl, Hs.out⟩, rfl⟩

theorem trimZ_lop (l : List UInt8) : trimZ l = lopR 48 l := rfl

theorem trimRightByte_0 (B : Nat) (v : Value) (xs : List UInt8) (w : World) (h : Seg w B v xs) :
    Calls Tryz.prog 66 #[v, .int .u8 48] w (SegSame B w (lopR 48 xs)) := by
  have h2 := trimRightByte_any B v xs 48 w h
  rw [show (((48 : UInt8).toNat : Nat) : Int) = 48 from rfl] at h2
  exact h2

set_option maxHeartbeats 1000000 in
set_option maxRecDepth 100000 in
theorem trimRight_any (B : Nat) (v : Value) (xs : List UInt8) (w : World) (h : Seg w B v xs) :
    Calls Tryz.prog 39 #[v, .string ⟨#[48]⟩] w (SegSame B w (trimZ xs)) := by
  cases xs with
  | nil =>
    obtain ⟨a, cap, rfl, _, _⟩ := h.len
    have H := Lib.hid h; clear h
    go_enter Tryz.func39, Tryz.ntmps39
    go_wp2_with fail
    go_ret
    exact ⟨⟨_, rfl, H.out⟩, rfl⟩
  | cons d t =>
    obtain ⟨g, off, cap, rfl, h1, h2, h3⟩ := h.cons
    have H := Lib.hid h; clear h
    have hz : (((t.length : Int) + 1) == 0) = false := beq_eq_false_iff_ne.2 (by omega)
    go_enter Tryz.func39, Tryz.ntmps39
    go_wp2_with fail
    refine (trimRightByte_0 B _ (d :: t) _ H.out).mono ?_
    rintro e w1 ⟨⟨v', rfl, hs⟩, rfl⟩
    have Hs := Lib.hid hs; clear hs
    go_wp2_with fail
    go_ret
    exact ⟨⟨_, rfl, Hs.out⟩, rfl⟩

end Num
end Go.Proofs.YtinjaopgnlpncaaGreatDoor
