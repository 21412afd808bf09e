/-
  Numbers and names are read; numbers are compared.
-/
import Derived.Test.YtjoohpdohdehgaaGreatDoorRegChar
import Derived.Deep.LoopGhost
namespace Go.Proofs.YtjoohpdohdehgaaGreatDoor
namespace Reg
open Go.RowKit
open Str (lenL runeL hexV)

theorem ofL_eq (s : ByteArray) : Str.ofL s.data.toList = s := by apply ByteArray.ext; simp [Str.ofL]
theorem ofL_toList (l : List UInt8) : (Str.ofL l).toList = l := by rw [Lib.toList_data]; rfl

/-- A piece of the body. -/
theorem extract_mid {K : Box} {l d m : List UInt8} (h : l <:+ K.s.data.toList) (e : l = d ++ m) : K.s.extract (K.at l) (K.at m) = Str.ofL d := by
  obtain ⟨t, ht⟩ := h
  have hl : K.s.size = t.length + d.length + m.length := by
    have : K.s.data.toList.length = (t ++ l).length := by rw [ht]
    rw [e] at this
    simp only [List.length_append] at this
    have h2 : K.s.size = K.s.data.toList.length := by simp
    omega
  apply ByteArray.ext
  apply Array.ext'
  show (K.s.extract (K.at l) (K.at m)).data.toList = d
  simp only [ByteArray.data_extract, Array.toList_extract, List.extract_eq_take_drop]
  rw [← ht, e]
  have e1 : K.at (d ++ m) = t.length := by unfold Box.at; rw [List.length_append]; omega
  have e2 : K.at m - t.length = d.length := by unfold Box.at; omega
  rw [e1, e2, List.drop_left, List.take_left]
theorem at_mid {K : Box} {l d m : List UInt8} (h : l.length ≤ K.s.size) (e : l = d ++ m) : K.at l ≤ K.at m ∧ K.at m ≤ K.s.size ∧ (K.at m = K.at l ↔ d = []) := by
  subst e
  simp only [Box.at, List.length_append] at *
  refine ⟨by omega, by omega, fun h => List.eq_nil_of_length_eq_zero (by omega), fun h => by subst h; simp⟩

set_option maxHeartbeats 400000 in
theorem less_any (a b : ByteArray) (w : World) :
    Calls Tryz.prog 81 #[.string a, .string b] w fun e w' => e = .returned (.bool (lessB a.data.toList b.data.toList)) ∧ w = w' := by
  have la : a.data.toList.length = a.size := by simp
  have lb : b.data.toList.length = b.size := by simp
  by_cases h : a.size = b.size
  · have He : Hid (lessB a.data.toList b.data.toList = Op.bytesLess a.toList b.toList) := Lib.hid (by rw [lessB, la, lb, if_pos h, Lib.toList_data, Lib.toList_data])
    have hd : ((a.size : Int) != (b.size : Int)) = false := by rw [h]; simp
    clear la lb h
    go_enter Tryz.func81, Tryz.ntmps81
    go_wp2_with fail
    go_ret
    exact ⟨Uni.ret_bool He.out.symm, rfl⟩
  · have He : Hid (lessB a.data.toList b.data.toList = decide (a.size < b.size)) := Lib.hid (by rw [lessB, la, lb, if_neg h])
    have hd : ((a.size : Int) != (b.size : Int)) = true := by rw [bne_iff_ne]; omega
    clear la lb h
    go_enter Tryz.func81, Tryz.ntmps81
    go_wp2_with fail
    go_ret
    exact ⟨Uni.ret_bool He.out.symm, rfl⟩

theorem less_ofL (a b : List UInt8) (w : World) :
    Calls Tryz.prog 81 #[.string (Str.ofL a), .string (Str.ofL b)] w fun e w' => e = .returned (.bool (lessB a b)) ∧ w = w' := less_any (Str.ofL a) (Str.ofL b) w

theorem digs_split {l d m : List UInt8} (e : l = d ++ m) (hx : ∀ x ∈ d, digB x.toNat = true) (hm : digB (hd m) = false) : digsL l = d ∧ l.drop d.length = m := by
  subst e
  refine ⟨?_, by simp⟩
  unfold digsL
  rw [List.takeWhile_append_of_pos hx]
  cases m with
  | nil => simp
  | cons x t => rw [List.takeWhile_cons_of_neg (by rw [show digB (x.toNat : Int) = false from hm]; simp), List.append_nil]
theorem dig_head {m : List UInt8} (h : digB (hd m) = true) : ∃ x t, m = x :: t ∧ digB (x.toNat : Int) = true := by
  cases m with
  | nil => exact absurd h (by decide)
  | cons x t => exact ⟨x, t, rfl, h⟩

set_option maxHeartbeats 1000000 in
set_option maxRecDepth 20000 in
theorem number_any (K : Box) (l : List UInt8) (w : World) (h : Rd K l w) :
    Calls Tryz.prog 77 #[K.ptr] w (Post K w (fun x => .string (Str.ofL x)) (numP l)) := by
  have hs := h.small
  have hle := at_le K l
  have h1 := h.cell1
  have H := Lib.hid h; clear h
  go_enter Tryz.func77, Tryz.ntmps77
  go_wp2_with fail
  go_loopg [8] l.length (fun k _ wr => ∃ d m, k = m.length ∧ l = d ++ m ∧ (∀ x ∈ d, digB (x.toNat : Int) = true) ∧ Rd K m wr ∧ Bar K.b w wr)
  case atStart => exact ⟨[], l, rfl, rfl, fun x hx => (by cases hx), H.out, Bar.refl _ _⟩
  case round =>
    obtain ⟨d, m, hk, hl, hdig, hrd, hbar⟩ := hrel
    have HK := Lib.hid hk; have HL := Lib.hid hl; have HD := Lib.hid hdig; have HR := Lib.hid hrd
    clear hk hl hdig hrd h1
    go_wp2_with fail
    refine (peek_any K m _ HR.out).mono ?_
    rintro e w1 ⟨rfl, hr1, hb1⟩
    have HR1 := Lib.hid hr1; clear hr1
    go_wp2_with fail
    refine (digit_any _ _).mono ?_
    rintro e w2 ⟨rfl, rfl⟩
    cases hD : digB (hd m) with
    | true =>
      obtain ⟨x, t, hm, hx⟩ := dig_head hD
      subst hm
      have HX := Lib.hid hx; clear hx hD
      have Ht := Lib.hid (at_tail K x t HR1.out.len)
      have hle1 := at_le K (x :: t)
      have g1 := HR1.out.cell1
      have gf := HR1.out.frozen 1
      go_wp2_with fail
      go_roundg t.length
      case measure => rw [HK.out]; simp
      case rel =>
        refine ⟨d ++ [x], t, rfl, by rw [HL.out]; simp, fun y hy => ?_, HR1.out.to (tail_suf _) Ht.out, (hbar.on hb1).set _ _ _⟩
        rcases List.mem_append.1 hy with h | h
        · exact HD.out y h
        · rw [List.mem_singleton.1 h]; exact HX.out
    | false =>
      have hsp := digs_split HL.out HD.out hD
      have ham := at_mid H.out.len HL.out
      have HE := Lib.hid (extract_mid H.out.suf HL.out)
      have HS := Lib.hid hsp
      clear hsp
      have HDn : Hid (digB (hd l) = true ↔ d ≠ []) := Lib.hid (by
        cases hd2 : d with
        | nil => rw [HL.out, hd2, List.nil_append, hD]; simp
        | cons y t => rw [HL.out, hd2]; simp only [List.cons_append, hd]; exact ⟨fun _ => List.cons_ne_nil _ _, fun _ => HD.out y (by rw [hd2]; simp)⟩)
      obtain ⟨ham1, ham2, ham3⟩ := ham
      have HA := Lib.hid ham3
      have g1 := HR1.out.cell1
      have g0 := HR1.out.cell0
      clear hD ham3
      by_cases hn : d = []
      · have hb : (((K.at m : Nat) : Int) == ((K.at l : Nat) : Int)) = true := beq_iff_eq.2 (by rw [HA.out.2 hn])
        have He : Hid (numP l = wrong l ∧ m = l) := Lib.hid ⟨if_neg (fun h => HDn.out.1 h hn), by rw [HL.out, hn]; rfl⟩
        clear hn
        go_wp2_with fail
        refine (refuse_any K m _ HR1.out).mono ?_
        rintro e w3 ⟨rfl, rfl⟩
        unfold thrown
        go_wp2_with fail
        rw [He.out.1, He.out.2]
        exact ⟨rfl, rfl, hbar.on hb1⟩
      · have hb : (((K.at m : Nat) : Int) == ((K.at l : Nat) : Int)) = false := beq_eq_false_iff_ne.2 (fun h => hn (HA.out.1 (by omega)))
        have He : Hid (numP l = .ok (lop d, m)) := Lib.hid (by rw [numP, if_pos (HDn.out.2 hn), HS.out.1, HS.out.2])
        clear hn
        have hi1 : ((K.at l : Nat) : Int) ≤ (K.at m : Nat) := by omega
        go_wp2_with fail
        go_quiet ((go_at_call 92; exact Calls.quiet_of_same (Tryz.strings_TrimLeft_one _ 48 (by decide) _)))
        go_wp2_with fail
        go_ret
        rw [He.out, HE.out]
        exact ⟨rfl, HR1.out.drewN _, (hbar.on hb1).drewN _⟩

theorem chr_ok {p : Int → Bool} {l : List UInt8} {r : Nat × List UInt8} (h : chrP p l = .ok r) : ∃ c, l = c ++ r.2 ∧ c ≠ [] := by
  unfold chrP at h
  by_cases e : lenL l = 0 ∨ Uni.endsB (runeL l) = true ∨ p (runeL l) = false
  · rw [if_pos e] at h; cases h
  · rw [if_neg e] at h
    cases h
    have := Str.lenL_le l
    refine ⟨l.take (lenL l), (List.take_append_drop _ _).symm, fun hc => ?_⟩
    have hl : (l.take (lenL l)).length = 0 := by rw [hc]; rfl
    rw [List.length_take] at hl
    exact e (Or.inl (by omega))
theorem chr_bad {p : Int → Bool} {l : List UInt8} {x : Nat × Nat} (h : chrP p l = .error x) : x = (l.length, 400) := by
  unfold chrP at h
  by_cases e : lenL l = 0 ∨ Uni.endsB (runeL l) = true ∨ p (runeL l) = false
  · rw [if_pos e] at h; unfold wrong at h; cases h; rfl
  · rw [if_neg e] at h; cases h
theorem take_left {l d m : List UInt8} (e : l = d ++ m) : l.take (l.length - m.length) = d := by
  subst e; rw [List.length_append, Nat.add_sub_cancel, List.take_left]

set_option maxHeartbeats 1000000 in
set_option maxRecDepth 20000 in
theorem name_any (K : Box) (l : List UInt8) (w : World) (h : Rd K l w) :
    Calls Tryz.prog 74 #[K.ptr] w (Post K w (fun x => .string (Str.ofL x)) (nameP l)) := by
  have hs := h.small
  have hle := at_le K l
  have h1 := h.cell1
  have H := Lib.hid h; clear h
  obtain ⟨R, hR⟩ : ∃ R, nameP l = R := ⟨_, rfl⟩
  have HN := Lib.hid hR
  rw [hR]; clear hR
  go_enter Tryz.func74, Tryz.ntmps74
  go_wp2_with fail
  refine (character_start K l _ H.out).mono ?_
  intro e w1 hp
  cases hc : chrP Uni.startB l with
  | error x =>
    rw [hc] at hp
    obtain ⟨rfl, hb⟩ := hp
    have He : Hid (R = .error x) := Lib.hid (by rw [← HN.out, nameP, hc])
    clear hc
    unfold thrown
    go_wp2_with fail
    rw [He.out]
    exact ⟨rfl, rfl, hb⟩
  | ok r =>
    rw [hc] at hp
    obtain ⟨rfl, hr, hb⟩ := hp
    obtain ⟨c, hcl, -⟩ := chr_ok hc
    have HN2 : Hid (R = match tillP Uni.partB 62 (r.2.length + 1) r.2 with
      | .error e => .error e
      | .ok m => .ok (l.take (l.length - m.length), m.tail)) := Lib.hid (by rw [← HN.out, nameP, hc]; rfl)
    have HR0 := Lib.hid hr; have HCL := Lib.hid hcl
    clear hc hr hcl h1
    go_wp2_with fail
    go_loopg [11] r.2.length (fun k _ wr => ∃ d m n, k = m.length ∧ l = d ++ m ∧ m.length < n ∧ tillP Uni.partB 62 (r.2.length + 1) r.2 = tillP Uni.partB 62 n m ∧ Rd K m wr ∧ Bar K.b w wr)
    case atStart => exact ⟨c, r.2, _, rfl, HCL.out, Nat.lt_succ_self _, rfl, HR0.out, hb⟩
    case round =>
      obtain ⟨d, m, n, hk, hl, hn, ht, hrd, hbar⟩ := hrel
      obtain ⟨n, rfl⟩ : ∃ n', n = n' + 1 := ⟨n - 1, by omega⟩
      have HK := Lib.hid hk; have HL := Lib.hid hl; have HT := Lib.hid ht; have HR := Lib.hid hrd; have Hn := Lib.hid hn
      clear hk hl ht hrd hn
      go_wp2_with fail
      refine (peek_any K m _ HR.out).mono ?_
      rintro e w2 ⟨rfl, hr1, hb1⟩
      have HR1 := Lib.hid hr1; clear hr1
      by_cases hq : hd m = 62
      · have eb : (hd m != 62) = false := by rw [hq]; rfl
        obtain ⟨x, t, hm, hx⟩ := hd_cons hq (by decide)
        subst hm
        have He : Hid (R = .ok (d, t)) := Lib.hid (by rw [HN2.out, HT.out, tillP, if_pos hq]; simp only [take_left HL.out]; rfl)
        have ham := at_mid H.out.len HL.out
        have HE := Lib.hid (extract_mid H.out.suf HL.out)
        obtain ⟨ham1, ham2, -⟩ := ham
        have hi1 : ((K.at l : Nat) : Int) ≤ (K.at (x :: t) : Nat) := by omega
        have Ht := Lib.hid (at_tail K x t HR1.out.len)
        have g1 := HR1.out.cell1
        have g0 := HR1.out.cell0
        have gf := HR1.out.frozen 1
        clear hq hx
        go_wp2_with fail
        go_quiet (fail)
        go_wp2_with fail
        go_ret
        rw [He.out, HE.out]
        exact ⟨rfl, (HR1.out.drewN _).to (tail_suf _) Ht.out, ((hbar.on hb1).drewN _).set _ _ _⟩
      · have eb : (hd m != 62) = true := by rw [bne_iff_ne]; exact hq
        go_wp2_with fail
        refine (character_part K m _ HR1.out).mono ?_
        intro e w3 hp
        cases hc : chrP Uni.partB m with
        | error x =>
          rw [hc] at hp
          obtain ⟨rfl, hb3⟩ := hp
          have He : Hid (R = .error x) := Lib.hid (by rw [HN2.out, HT.out, tillP, if_neg hq, hc])
          clear hc hq
          unfold thrown
          go_wp2_with fail
          rw [He.out]
          exact ⟨rfl, rfl, (hbar.on hb1).trans hb3⟩
        | ok q =>
          rw [hc] at hp
          obtain ⟨rfl, hr3, hb3⟩ := hp
          obtain ⟨c', hcm, hcn⟩ := chr_ok hc
          have HR3 := Lib.hid hr3; have HC := Lib.hid hcm; have HCN := Lib.hid hcn
          have He : Hid (tillP Uni.partB 62 (r.2.length + 1) r.2 = tillP Uni.partB 62 n q.2) := Lib.hid (by rw [HT.out, tillP, if_neg hq, hc])
          clear hc hq hr3 hcm hcn
          have hlen : Hid (q.2.length < m.length) := Lib.hid (by
            have := Str.pos_of_ne HCN.out
            have e := congrArg List.length HC.out
            rw [List.length_append] at e; omega)
          go_wp2_with fail
          go_roundg q.2.length
          case measure => rw [HK.out]; exact hlen.out
          case rel => exact ⟨d ++ c', q.2, n, rfl, by rw [HL.out, List.append_assoc, ← HC.out], by have := hlen.out; have := Hn.out; omega, He.out, HR3.out, (hbar.on hb1).trans hb3⟩

end Reg
end Go.Proofs.YtjoohpdohdehgaaGreatDoor
