/-
  Digits in braces; properties; what stands behind a backslash.
-/
import Derived.Test.YtjoohpdohdehgaaGreatDoorRegHex
namespace Go.Proofs.YtjoohpdohdehgaaGreatDoor
namespace Reg
open Go.RowKit
open Str (lenL runeL hexV)

theorem hexs_split {l d m : List UInt8} (e : l = d ++ m) (hx : ∀ x ∈ d, hexB x.toNat = true) (hm : hexB (hd m) = false) : hexsL l = d ∧ l.drop d.length = m := by
  subst e
  refine ⟨?_, by simp⟩
  unfold hexsL
  rw [List.takeWhile_append_of_pos hx]
  cases m with
  | nil => simp
  | cons x t => rw [List.takeWhile_cons_of_neg (by rw [show hexB (x.toNat : Int) = false from hm]; simp), List.append_nil]
theorem hex_head {m : List UInt8} (h : hexB (hd m) = true) : ∃ x t, m = x :: t ∧ hexB (x.toNat : Int) = true := by
  cases m with
  | nil => exact absurd h (by decide)
  | cons x t => exact ⟨x, t, rfl, h⟩

set_option maxHeartbeats 4000000 in
set_option maxRecDepth 20000 in
theorem braced_any (K : Box) (l : List UInt8) (w : World) (h : Rd K l w) :
    Calls Tryz.prog 96 #[K.ptr] w (Post K w (fun v : Nat => .int .i64 v) (braP l)) := by
  have hs := h.small
  have hle := at_le K l
  have h1 := h.cell1
  have H := Lib.hid h; clear h
  go_enter Tryz.func96, Tryz.ntmps96
  go_wp2_with fail
  go_loopg [10] l.length (fun k _ wr => ∃ d m, k = m.length ∧ l = d ++ m ∧ (∀ x ∈ d, hexB (x.toNat : Int) = true) ∧ Rd K m wr ∧ Bar K.b w wr)
  case atStart => exact ⟨[], l, rfl, rfl, fun x hx => (by cases hx), H.out, Bar.refl _ _⟩
  case round =>
    obtain ⟨d, m, hk, hl, hdig, hrd, hbar⟩ := hrel
    have HK := Lib.hid hk; have HL := Lib.hid hl; have HD := Lib.hid hdig; have HR := Lib.hid hrd
    clear hk hl hdig hrd h1
    go_wp2_with fail
    refine (peek_any K m _ HR.out).mono ?_
    rintro e w1 ⟨rfl, hr1, hb1⟩
    have HR1 := Lib.hid hr1; clear hr1
    go_wp2_with fail
    refine (hexadecimal_same _ _).mono ?_
    rintro e w2 ⟨rfl, rfl⟩
    cases hD : hexB (hd m) with
    | true =>
      obtain ⟨x, t, hm, hx⟩ := hex_head hD
      subst hm
      have HX := Lib.hid hx; clear hx hD
      have Ht := Lib.hid (at_tail K x t HR1.out.len)
      have hle1 := at_le K (x :: t)
      have g1 := HR1.out.cell1
      have gf := HR1.out.frozen 1
      go_wp2_with fail
      go_roundg t.length
      case measure => rw [HK.out]; simp
      case rel =>
        refine ⟨d ++ [x], t, rfl, by rw [HL.out]; simp, fun y hy => ?_, HR1.out.to (tail_suf _) Ht.out, (hbar.on hb1).set _ _ _⟩
        rcases List.mem_append.1 hy with h | h
        · exact HD.out y h
        · rw [List.mem_singleton.1 h]; exact HX.out
    | false =>
      have HS := Lib.hid (hexs_split HL.out HD.out hD)
      have ham := at_mid H.out.len HL.out
      have HDn : Hid (hexB (hd l) = false ↔ d = []) := Lib.hid (by
        cases hd2 : d with
        | nil => rw [HL.out, hd2, List.nil_append, hD]; simp
        | cons y t => rw [HL.out, hd2]; simp only [List.cons_append, hd]; exact ⟨fun e => (by rw [HD.out y (by rw [hd2]; simp)] at e; cases e), fun e => (by cases e)⟩)
      obtain ⟨ham1, ham2, -⟩ := ham
      have hi1 : ((K.at l : Nat) : Int) ≤ (K.at m : Nat) := by omega
      have hdl : d.length ≤ 4096 := by have e := congrArg List.length HL.out; have := H.out.len; rw [List.length_append] at e; omega
      have HE := Lib.hid (extract_mid H.out.suf HL.out)
      have h0 := HR1.out.cell0
      have h1 := HR1.out.cell1
      have hK : Rd K m w1 := HR1.out
      have hB : Bar K.b w w1 := hbar.on hb1
      have CD : ∀ wx n, Rd K m wx → Rd K m (wx.drewN n) := fun wx n hx => hx.drewN n
      have CE : ∀ wx n, Bar K.b w wx → Bar K.b w (wx.drewN n) := fun wx n hx => hx.drewN n
      clear hbar hb1 hD
      by_cases hbad : d = [] ∨ ¬ valL 0 d ≤ 4294967295
      · have CC := Lib.hid (pu_bad K m w d _ HE.out hdl HD.out hbad)
        have He : Hid (braP l = wrong m) := Lib.hid (by
          unfold braP
          rw [HS.out.1, HS.out.2]
          exact if_pos (hbad.elim (fun e => Or.inl (HDn.out.2 e)) (fun e => Or.inr (by omega))))
        clear hbad hdl
        go_upto_region 4 with fail
        go_cut [4, 5] from 20 to 33 (fun a b wx => ∃ v N, a = .int .u64 v ∧ b = .iface 117 (.pointer (some ⟨N, 0, none⟩)) ∧ Rd K m wx ∧ Bar K.b w wx)
        case first =>
          go_region_held3 (fun wx => wx.cell? ⟨K.b, 0, none⟩ = some (.string K.s) ∧ wx.cell? ⟨K.b, 1, none⟩ = some (.int .i64 (K.at m)) ∧ Rd K m wx ∧ Bar K.b w wx)
            (first | exact ⟨h0, h1, hK, hB⟩ | exact ⟨h0, h1, CD _ 1 hK, CE _ 1 hB⟩ | assumption)
            (first
            | (go_at_call 108; refine (CC.out _ ?_ ?_).mono ?_; (first | exact hK | assumption | exact CD _ 1 hK); (first | exact hB | assumption | exact CE _ 1 hB); rintro e wx ⟨v, N, rfl, h0, h1, hK, hB⟩))
          all_goals (go_wp2_with fail; go_meet; exact ⟨_, _, rfl, rfl, hK, hB⟩)
        case rest =>
          obtain ⟨v, N, rfl, rfl, hx, hxb⟩ := hcut
          have HX2 := Lib.hid hx
          clear h0 h1 hK hx CD CE CC hB
          go_wp2_with fail
          refine (refuse_any K m _ HX2.out).mono ?_
          rintro e w4 ⟨rfl, rfl⟩
          unfold thrown
          go_wp2_with fail
          rw [He.out]
          exact ⟨rfl, rfl, hxb⟩
      · have hdn : d ≠ [] := fun e => hbad (Or.inl e)
        have hvl : valL 0 d ≤ 4294967295 := by
          rcases Nat.lt_or_ge 4294967295 (valL 0 d) with h | h
          · exact absurd (Or.inr (by omega)) hbad
          · exact h
        have CC := Lib.hid (pu_held K m w d _ HE.out hdl hdn HD.out hvl)
        have He : Hid (braP l = if 1114111 < valL 0 d then wrong m else match expP 125 m with
          | .error e => .error e
          | .ok m => .ok (valL 0 d, m)) := Lib.hid (by
            unfold braP
            rw [HS.out.1, HS.out.2]
            by_cases c : 1114111 < valL 0 d
            · rw [if_pos (Or.inr c), if_pos c]
            · rw [if_neg (fun e => e.elim (fun e => hdn (HDn.out.1 e)) c), if_neg c]; rfl)
        clear hbad hdl hdn
        generalize valL 0 d = v at *
        go_upto_region 4 with fail
        go_cut [4, 5] from 20 to 33 (fun a b wx => a = .int .u64 v ∧ b = .nilIface ∧ Rd K m wx ∧ Bar K.b w wx)
        case first =>
          go_region_held3 (fun wx => wx.cell? ⟨K.b, 0, none⟩ = some (.string K.s) ∧ wx.cell? ⟨K.b, 1, none⟩ = some (.int .i64 (K.at m)) ∧ Rd K m wx ∧ Bar K.b w wx)
            (first | exact ⟨h0, h1, hK, hB⟩ | exact ⟨h0, h1, CD _ 1 hK, CE _ 1 hB⟩ | assumption)
            (first
            | (go_at_call 108; refine (CC.out _ ?_ ?_).mono ?_; (first | exact hK | assumption | exact CD _ 1 hK); (first | exact hB | assumption | exact CE _ 1 hB); rintro e wx ⟨rfl, h0, h1, hK, hB⟩))
          all_goals (go_wp2_with fail; go_meet; exact ⟨rfl, rfl, hK, hB⟩)
        case rest =>
          obtain ⟨rfl, rfl, hx, hxb⟩ := hcut
          have HX2 := Lib.hid hx
          clear h0 h1 hK hx CD CE CC hB
          have hv2 : (v : Int) ≤ 4294967295 := by omega
          by_cases c : 1114111 < v
          · have c2 : (1114111 : Int) < v := by omega
            have He2 : Hid (braP l = wrong m) := Lib.hid (by rw [He.out, if_pos c])
            clear c
            go_wp2_with fail
            refine (refuse_any K m _ HX2.out).mono ?_
            rintro e w4 ⟨rfl, rfl⟩
            unfold thrown
            go_wp2_with fail
            rw [He2.out]
            exact ⟨rfl, rfl, hxb⟩
          · have c2 : ¬ (1114111 : Int) < v := by omega
            have He2 : Hid (braP l = match expP 125 m with
              | .error e => .error e
              | .ok m => .ok (v, m)) := Lib.hid (by rw [He.out, if_neg c])
            clear c
            go_wp2_with fail
            refine (expect_any K m 125 (by decide) _ HX2.out).mono ?_
            intro e w4 hp
            cases hc : expP 125 m with
            | error x =>
              rw [hc] at hp
              obtain ⟨rfl, hb4⟩ := hp
              have He3 : Hid (braP l = .error x) := Lib.hid (by rw [He2.out, hc])
              clear hc
              unfold thrown
              go_wp2_with fail
              rw [He3.out]
              exact ⟨rfl, rfl, hxb.trans hb4⟩
            | ok t =>
              rw [hc] at hp
              obtain ⟨rfl, hr4, hb4⟩ := hp
              have He3 : Hid (braP l = .ok (v, t)) := Lib.hid (by rw [He2.out, hc])
              have HR4 := Lib.hid hr4
              clear hc hr4
              go_wp2_with fail
              go_ret
              rw [He3.out]
              exact ⟨rfl, HR4.out, hxb.trans hb4⟩

end Reg
end Go.Proofs.YtjoohpdohdehgaaGreatDoor
