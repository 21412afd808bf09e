/-
  Letters, digits and _ are passed.
-/
import Derived.Test.YtggibhlmnfodaaaDoorLexName
import Derived.Test.YtggibhlmnfodaaaDoorLexSuf
namespace Go.Proofs.YtggibhlmnfodaaaDoor
namespace Lex
open Go.RowKit
open Str (lenL runeL)

theorem low_or (x : UInt8) : bits .or .i64 (x.toNat : Int) 32 = ((x ||| 32).toNat : Int) := by
  have h := x.toNat_lt
  have := Uni.i64_or_nat x.toNat 32 (by omega) (by omega)
  rw [UInt8.toNat_or]
  exact this

/-- What a call comes to that tells whether all was digits. -/
def PostB (K : Box) (w : World) (r : Bool × List UInt8) (e : Ending) (w' : World) : Prop := e = .returned (.bool r.1) ∧ Rd K r.2 w' ∧ Bar K.b w w'
theorem post_b {K : Box} {w w' : World} {r : Bool × List UInt8} {a : Bool} {m : List UInt8} (h1 : r.1 = a) (h2 : r.2 = m) (h3 : Rd K m w') (h4 : Bar K.b w w') : PostB K w r (.returned (.bool a)) w' := by subst h1; subst h2; exact ⟨rfl, h3, h4⟩

set_option maxHeartbeats 4000000 in
set_option maxRecDepth 20000 in
theorem digits_any (K : Box) (l : List UInt8) (w : World) (h : Rd K l w) :
    Calls Tryd.prog 48 #[K.ptr] w (PostB K w (digsP l)) := by
  obtain ⟨R, hR⟩ : ∃ R, digsP l = R := ⟨_, rfl⟩
  rw [hR]
  have HR := Lib.hid hR
  have hs := h.small
  have H := Lib.hid h
  clear h hR
  go_enter Tryd.func48, Tryd.ntmps48
  go_wp2_with fail
  go_loopg [3, 4, 5] l.length (fun n a _ _ wr => ∃ m v, a = .bool v ∧ n = m.length ∧ R.1 = (v && (digsP m).1) ∧ R.2 = (digsP m).2 ∧ Rd K m wr ∧ Bar K.b w wr)
  case atStart => exact ⟨l, true, rfl, rfl, by rw [HR.out]; rfl, by rw [HR.out], H.out, Bar.refl _ _⟩
  case round =>
    clear H
    obtain ⟨m, v, rfl, hn, hr1, hr2, hRd, hBar⟩ := hrel
    have hle := at_le K m
    have g0 := hRd.cell0
    have g1 := hRd.cell1
    cases m with
    | nil =>
      have hge : ¬ K.at [] < K.s.size := by rw [at_nil]; omega
      have Hf : Hid (R.1 = v ∧ R.2 = []) := Lib.hid ⟨by rw [hr1]; show (v && true) = v; simp, hr2⟩
      have HRd := Lib.hid hRd
      have HBar := Lib.hid hBar
      clear hRd hBar hr1 hr2 hn
      generalize hi : K.at [] = i at *
      have Hi := Lib.hid hi
      clear hi
      go_wp2_with fail
      go_quiet (fail)
      go_wp2_with fail
      go_ret
      exact post_b Hf.out.1 Hf.out.2 (HRd.out.drewN _) (HBar.out.drewN _)
    | cons x t =>
      have hlt : K.at (x :: t) < K.s.size := at_lt hRd.len (List.cons_ne_nil _ _)
      have Hh := Lib.hid (at_byte hRd.suf hlt)
      have Hat : Hid (((K.at (x :: t) : Nat) : Int) + 1 = (K.at t : Nat)) := Lib.hid (at_drop K (x :: t) 1 hRd.len (by simp))
      have f0 := hRd.frozen 0
      have HRd := Lib.hid hRd
      have HBar := Lib.hid hBar
      have Hn := Lib.hid hn
      have Hr1 := Lib.hid hr1
      have Hr2 := Lib.hid hr2
      clear hRd hBar hn hr1 hr2
      generalize hi : K.at (x :: t) = i at *
      have Hi := Lib.hid hi
      clear hi
      have gb : ((K.s[i]'hlt).toNat : Int) < 256 := by have := (K.s[i]'hlt).toNat_lt; omega
      go_wp2_with fail
      go_quiet (fail)
      go_wp2_with fail
      go_quiet (fail)
      go_wp2_with fail
      rw [Hh.out] at gb ⊢
      generalize hw : wr.drewN _ = w1
      have HX := Lib.hid (And.intro (show Rd K (x :: t) w1 from hw ▸ HRd.out.drewN _) (show Bar K.b w w1 from hw ▸ HBar.out.drewN _))
      clear hw g0 g1 f0 HRd HBar
      have g0 := HX.out.1.cell0
      have f0 := HX.out.1.frozen 0
      rw [Hi.out] at g0
      have hlow := low_or x
      obtain ⟨y, hy⟩ : ∃ y, x ||| 32 = y := ⟨_, rfl⟩
      rw [hy] at hlow
      have hy9 := y.toNat_lt
      have Hy := Lib.hid hy
      clear hy
      obtain ⟨b, hb⟩ : ∃ b, digC x.toNat = b := ⟨_, rfl⟩
      have Hb := Lib.hid hb
      clear hb
      refine (digit_any _ b Hb.out _).mono ?_
      rintro e w2 ⟨rfl, rfl⟩
      cases b with
      | true =>
        have Hg : Hid (R.1 = (v && (digsP t).1) ∧ R.2 = (digsP t).2) := Lib.hid (by rw [Hr1.out, Hr2.out, digsP, if_pos (Or.inl Hb.out)]; exact ⟨rfl, rfl⟩)
        go_wp2_with fail
        go_roundg t.length
        case rel => exact ⟨t, v, rfl, rfl, Hg.out.1, Hg.out.2, HX.out.1.to (List.suffix_cons _ _) Hat.out, HX.out.2.set _ _ _⟩
        case measure => rw [Hn.out]; exact Nat.lt_succ_self _
      | false =>
        by_cases e1 : x = 95
        · have b1 : ((x.toNat : Int) != 95) = false := by rw [e1]; rfl
          have He1 := Lib.hid e1
          clear e1
          have Hg : Hid (R.1 = (v && (digsP t).1) ∧ R.2 = (digsP t).2) := Lib.hid (by rw [Hr1.out, Hr2.out, digsP, if_pos (Or.inr He1.out)]; exact ⟨rfl, rfl⟩)
          go_wp2_with fail
          go_roundg t.length
          case rel => exact ⟨t, v, rfl, rfl, Hg.out.1, Hg.out.2, HX.out.1.to (List.suffix_cons _ _) Hat.out, HX.out.2.set _ _ _⟩
          case measure => rw [Hn.out]; exact Nat.lt_succ_self _
        · have b1 : ((x.toNat : Int) != 95) = true := bne_iff_ne.2 (fun e => e1 (UInt8.toNat_inj.1 (by show x.toNat = 95; omega)))
          have He1 : Hid (¬ (digC x.toNat = true ∨ x = 95)) := Lib.hid (by rw [Hb.out]; exact fun h => h.elim (fun h => by cases h) e1)
          clear e1
          by_cases e2 : y.toNat < 97
          · have Hf : Hid (R.1 = v ∧ R.2 = x :: t) := Lib.hid (by
              have hc : (x ||| 32) < 97 ∨ 122 < (x ||| 32) := Or.inl (by rw [Hy.out]; exact UInt8.lt_iff_toNat_lt.2 e2)
              rw [Hr1.out, Hr2.out, digsP, if_neg He1.out, if_pos hc]; exact ⟨by simp, rfl⟩)
            go_wp2_with fail
            go_ret
            exact post_b Hf.out.1 Hf.out.2 HX.out.1 HX.out.2
          · by_cases e3 : 122 < y.toNat
            · have Hf : Hid (R.1 = v ∧ R.2 = x :: t) := Lib.hid (by
                have hc : (x ||| 32) < 97 ∨ 122 < (x ||| 32) := Or.inr (by rw [Hy.out]; exact UInt8.lt_iff_toNat_lt.2 e3)
                rw [Hr1.out, Hr2.out, digsP, if_neg He1.out, if_pos hc]; exact ⟨by simp, rfl⟩)
              go_wp2_with fail
              go_ret
              exact post_b Hf.out.1 Hf.out.2 HX.out.1 HX.out.2
            · have hc : ¬ ((x ||| 32) < 97 ∨ 122 < (x ||| 32)) := by
                rw [Hy.out, UInt8.lt_iff_toNat_lt, UInt8.lt_iff_toNat_lt]; exact fun h => h.elim e2 e3
              have Hc := Lib.hid hc
              clear hc
              have Hg : Hid (R.1 = (false && (digsP t).1) ∧ R.2 = (digsP t).2) := Lib.hid (by rw [Hr1.out, Hr2.out, digsP, if_neg He1.out, if_neg Hc.out]; exact ⟨by simp, rfl⟩)
              go_wp2_with fail
              go_roundg t.length
              case rel => exact ⟨t, false, rfl, rfl, Hg.out.1, Hg.out.2, HX.out.1.to (List.suffix_cons _ _) Hat.out, HX.out.2.set _ _ _⟩
              case measure => rw [Hn.out]; exact Nat.lt_succ_self _

end Lex
end Go.Proofs.YtggibhlmnfodaaaDoor
