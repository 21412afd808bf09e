/-
  The document's own escape: all other characters.
-/
import Derived.Test.YtddldddehgnobaaDoorStrRefEse
namespace Go.Proofs.YtddldddehgnobaaDoor
namespace Str
open Go.RowKit

set_option maxHeartbeats 8000000 in
set_option maxRecDepth 20000 in
theorem resc_else0 (s : ByteArray) (i : Nat) (w : World) (hz : s.size ≤ 16777216) (hlt : i + 1 < s.size) (c : Nat) (hc : (s[i + 1]'hlt).toNat = c) (h1 : c ≠ 120) (h2 : c ≠ 117) (h3 : ¬ (48 ≤ c ∧ c ≤ 57)) (h6 : c ≠ 98 ∧ c ≠ 102 ∧ c ≠ 110 ∧ c ≠ 114 ∧ c ≠ 116 ∧ c ≠ 118) (h13 : c ≠ 13) (h0 : lenL (sufL s (i + 1)) = 0) :
    Calls Tryd.prog 32 #[.string s, .int .i64 i] w (PartAt i ((escL (sufL s (i + 1))).1 + 1, (escL (sufL s (i + 1))).2) (headV (sufL s (i + 1))) w) := by
  have hh := headV_at s (i + 1) hlt
  rw [hc] at hh
  have hc256 : c < 256 := by have := (s[i + 1]'hlt).toNat_lt; omega
  have Ex : Hid (escL (sufL s (i + 1)) = (0, none)) := Lib.hid (by rw [esc_chr s (i + 1) hlt c hc h1 h2 h3 h13, if_pos h0, h0])
  have hsv : simV c = -1 := by unfold simV; rw [if_neg h6.1, if_neg h6.2.1, if_neg h6.2.2.1, if_neg h6.2.2.2.1, if_neg h6.2.2.2.2.1, if_neg h6.2.2.2.2.2]
  have HS := Lib.hid (fun W => simple_any c W (by omega))
  rw [hsv] at HS
  have HR := Lib.hid (fun W => rune_any s (i + 1) W hz hlt)
  have g1 : ((c : Int) == 120) = false := beq_eq_false_iff_ne.2 (by omega)
  have g2 : ((c : Int) == 117) = false := beq_eq_false_iff_ne.2 (by omega)
  have g3 : ((c : Int) == 48) = false := beq_eq_false_iff_ne.2 (by omega)
  have g45 : (¬ (49 : Int) ≤ (c : Int)) ∨ ((49 : Int) ≤ (c : Int) ∧ ¬ (c : Int) ≤ 57) := by omega
  have HH := Lib.hid hh
  clear hh hsv
  obtain ⟨L, hL⟩ : ∃ L, lenL (sufL s (i + 1)) = L := ⟨_, rfl⟩
  obtain ⟨r, hr⟩ : ∃ r, runeL (sufL s (i + 1)) = r := ⟨_, rfl⟩
  rw [hL, hr] at HR
  have HL := Lib.hid hL
  have HRR := Lib.hid hr
  clear hL hr
  have hL0 : L = 0 := by rw [← HL.out]; exact h0
  subst hL0
  simp only [if_true] at HR
  clear h1 h2 h3 h6 h13 h0
  rcases g45 with g4 | ⟨g4, g5⟩
  all_goals
    go_enter Tryd.func32, Tryd.ntmps32
    go_wp2_with fail
    obtain ⟨W, hW, hPB⟩ := start_world w i
    rw [hW]
    have HPB := Lib.hid hPB
    clear hPB hW
    refine (HS.out _).mono ?_
    rintro e w2 ⟨rfl, hb2⟩
    have hPB2 := HPB.out.keep hb2
    have HPB2 := Lib.hid hPB2
    obtain ⟨b0, b1, b2, b3⟩ := hPB2.b
    obtain ⟨a0, a1, a2, a3⟩ := hPB2.a
    have fb := fun o => hPB2.fb o
    have fa := fun o => hPB2.fa o
    clear hPB2 hb2
    go_wp2_with fail
    refine (HR.out _).mono ?_
    rintro e w3 ⟨rfl, rfl⟩
    go_wp2_with fail
    refine bodyPost_ret (v := .tuple #[.agg #[.int .i64 i, .int .i64 ((i : Int) + 1), .slice none 0 0, .int .i64 0], .bool false]) ?_ rfl ⟨none, 0, 0, 0, ?_, ?_, ?_⟩
    · simp [results, Tryd.results32, go_sem, a0, a1, a2, a3]
    · rw [Ex.out]; exact agg_eq (by simp) rfl
    · rw [Ex.out]; intro val h; cases h
    · exact (((HPB2.out.below.setCell (by simp) _).setCell (by simp) _).setCell (by simp) _).setCell (by simp) _

set_option maxHeartbeats 8000000 in
set_option maxRecDepth 20000 in
theorem resc_r (s : ByteArray) (i : Nat) (w : World) (hz : s.size ≤ 16777216) (hlt : i + 1 < s.size) (c : Nat) (hc : (s[i + 1]'hlt).toNat = c) (h1 : c ≠ 120) (h2 : c ≠ 117) (h3 : ¬ (48 ≤ c ∧ c ≤ 57)) (h6 : c ≠ 98 ∧ c ≠ 102 ∧ c ≠ 110 ∧ c ≠ 114 ∧ c ≠ 116 ∧ c ≠ 118) (h13 : c = 13) :
    Calls Tryd.prog 32 #[.string s, .int .i64 i] w (PartAt i ((escL (sufL s (i + 1))).1 + 1, (escL (sufL s (i + 1))).2) (headV (sufL s (i + 1))) w) := by
  have hh := headV_at s (i + 1) hlt
  rw [hc] at hh
  have hc256 : c < 256 := by have := (s[i + 1]'hlt).toNat_lt; omega
  have Ex : Hid (escL (sufL s (i + 1)) = (if headV (sufL s (i + 2)) = 10 then 2 else 1, some (-1))) := Lib.hid (by rw [esc_r _ (by rw [hh, h13]; rfl), suf_tail s (i + 1) hlt])
  have HQ : Hid (((0 : Int) = 39 ↔ headV (sufL s (i + 1)) = 39) ∧ ((0 : Int) = 34 ↔ headV (sufL s (i + 1)) = 34)) := Lib.hid (quotes0 _ (by rw [hh]; omega) (by rw [hh]; omega))
  have hca := chr_ascii s (i + 1) hlt c hc (by omega)
  have hlr : lenL (sufL s (i + 1)) = 1 ∧ runeL (sufL s (i + 1)) = 13 := by
    unfold chrR at hca
    injection hca with e1 e2
    rw [e1] at e2
    exact ⟨e1, by have : (runeL (sufL s (i + 1)) : Int) = c := by simpa using e2
                  omega⟩
  clear hca
  have hsv : simV c = -1 := by unfold simV; rw [if_neg h6.1, if_neg h6.2.1, if_neg h6.2.2.1, if_neg h6.2.2.2.1, if_neg h6.2.2.2.2.1, if_neg h6.2.2.2.2.2]
  have HS := Lib.hid (fun W => simple_any c W (by omega))
  rw [hsv] at HS
  have HR := Lib.hid (fun W => rune_any s (i + 1) W hz hlt)
  have g1 : ((c : Int) == 120) = false := beq_eq_false_iff_ne.2 (by omega)
  have g2 : ((c : Int) == 117) = false := beq_eq_false_iff_ne.2 (by omega)
  have g3 : ((c : Int) == 48) = false := beq_eq_false_iff_ne.2 (by omega)
  have g45 : (¬ (49 : Int) ≤ (c : Int)) ∨ ((49 : Int) ≤ (c : Int) ∧ ¬ (c : Int) ≤ 57) := by omega
  have HH := Lib.hid hh
  clear hh hsv
  obtain ⟨L, hL⟩ : ∃ L, lenL (sufL s (i + 1)) = L := ⟨_, rfl⟩
  obtain ⟨r, hr⟩ : ∃ r, runeL (sufL s (i + 1)) = r := ⟨_, rfl⟩
  rw [hL, hr] at HR
  have HL := Lib.hid hL
  have HRR := Lib.hid hr
  clear hL hr
  have HE := Lib.hid (fun W => Uni.rends_any 13 W)
  have HA2 := Lib.hid (fun h => headV_at s (i + 2) h)
  have hL0 : L = 1 := by rw [← HL.out]; exact hlr.1
  have hr0 : r = 13 := by rw [← HRR.out]; exact hlr.2
  subst hL0
  subst hr0
  simp only [show ¬ ((1 : Nat) = 0) by decide, if_false] at HR
  clear hlr
  clear h1 h2 h3 h6 h13
  rcases g45 with g4 | ⟨g4, g5⟩
  all_goals
    go_enter Tryd.func32, Tryd.ntmps32
    go_wp2_with fail
    obtain ⟨W, hW, hPB⟩ := start_world w i
    rw [hW]
    have HPB := Lib.hid hPB
    clear hPB hW
    refine (HS.out _).mono ?_
    rintro e w2 ⟨rfl, hb2⟩
    have hPB2 := HPB.out.keep hb2
    have HPB2 := Lib.hid hPB2
    obtain ⟨b0, b1, b2, b3⟩ := hPB2.b
    obtain ⟨a0, a1, a2, a3⟩ := hPB2.a
    have fb := fun o => hPB2.fb o
    have fa := fun o => hPB2.fa o
    clear hPB2 hb2
    go_wp2_with fail
    refine (HR.out _).mono ?_
    rintro e w3 ⟨rfl, rfl⟩
    by_cases h2 : i + 2 < s.size
    · have hd := HA2.out h2
      have gb : ((s[i + 2]'h2).toNat : Int) < 256 := by have := (s[i + 2]'h2).toNat_lt; omega
      obtain ⟨d, hdd⟩ : ∃ d : Nat, (s[i + 2]'h2).toNat = d := ⟨_, rfl⟩
      rw [hdd] at hd gb
      by_cases hd10 : d = 10
      · have Ex2 : Hid (escL (sufL s (i + 1)) = (2, some (-1))) := Lib.hid (by rw [Ex.out, if_pos (by rw [hd, hd10]; rfl)])
        subst hd10
        clear hd
        go_wp2_with fail
        refine (HE.out _).mono ?_
        rintro e w3 ⟨rfl, hb3⟩
        have hPB3 := ((HPB2.out.setTo ((i : Int) + 1 + 1)).setTo ((i : Int) + 1 + 1 + 1)).keep hb3
        have HPB3 := Lib.hid hPB3
        clear hb3 b0 b1 b2 b3 fb a0 a1 a2 a3 fa
        obtain ⟨b0, b1, b2, b3⟩ := hPB3.b
        obtain ⟨a0, a1, a2, a3⟩ := hPB3.a
        have fb := fun o => hPB3.fb o
        have fa := fun o => hPB3.fa o
        clear hPB3
        go_wp2_with fail
        refine bodyPost_ret (v := .tuple #[.agg #[.int .i64 i, .int .i64 ((i : Int) + 1 + 1 + 1), .slice none 0 0, .int .i64 0], .bool true]) ?_ rfl ⟨none, 0, 0, 0, ?_, ?_, ?_⟩
        · simp [results, Tryd.results32, go_sem, a0, a1, a2, a3]
        · rw [Ex2.out]; exact agg_eq (by simp; omega) rfl
        · rw [Ex2.out]; intro val h
          obtain rfl : (-1 : Int) = val := by simpa using h
          exact ⟨Or.inl ⟨rfl, rfl⟩, HQ.out⟩
        · exact (((HPB3.out.below.setCell (by simp) _).setCell (by simp) _).setCell (by simp) _).setCell (by simp) _
      · have Ex2 : Hid (escL (sufL s (i + 1)) = (1, some (-1))) := Lib.hid (by rw [Ex.out, if_neg (by rw [hd]; omega)])
        have g10 : ((d : Int) == 10) = false := beq_eq_false_iff_ne.2 (by omega)
        clear hd hd10
        go_wp2_with fail
        refine (HE.out _).mono ?_
        rintro e w3 ⟨rfl, hb3⟩
        have hPB3 := (HPB2.out.setTo ((i : Int) + 1 + 1)).keep hb3
        have HPB3 := Lib.hid hPB3
        clear hb3 b0 b1 b2 b3 fb a0 a1 a2 a3 fa
        obtain ⟨b0, b1, b2, b3⟩ := hPB3.b
        obtain ⟨a0, a1, a2, a3⟩ := hPB3.a
        have fb := fun o => hPB3.fb o
        have fa := fun o => hPB3.fa o
        clear hPB3
        go_wp2_with fail
        refine bodyPost_ret (v := .tuple #[.agg #[.int .i64 i, .int .i64 ((i : Int) + 1 + 1), .slice none 0 0, .int .i64 0], .bool true]) ?_ rfl ⟨none, 0, 0, 0, ?_, ?_, ?_⟩
        · simp [results, Tryd.results32, go_sem, a0, a1, a2, a3]
        · rw [Ex2.out]; exact agg_eq (by simp; omega) rfl
        · rw [Ex2.out]; intro val h
          obtain rfl : (-1 : Int) = val := by simpa using h
          exact ⟨Or.inl ⟨rfl, rfl⟩, HQ.out⟩
        · exact (((HPB3.out.below.setCell (by simp) _).setCell (by simp) _).setCell (by simp) _).setCell (by simp) _
    · have Ex2 : Hid (escL (sufL s (i + 1)) = (1, some (-1))) := Lib.hid (by rw [Ex.out, if_neg (by rw [suf_nil s (i + 2) h2]; decide)])
      go_wp2_with fail
      refine (HE.out _).mono ?_
      rintro e w3 ⟨rfl, hb3⟩
      have hPB3 := (HPB2.out.setTo ((i : Int) + 1 + 1)).keep hb3
      have HPB3 := Lib.hid hPB3
      clear hb3 b0 b1 b2 b3 fb a0 a1 a2 a3 fa
      obtain ⟨b0, b1, b2, b3⟩ := hPB3.b
      obtain ⟨a0, a1, a2, a3⟩ := hPB3.a
      have fb := fun o => hPB3.fb o
      have fa := fun o => hPB3.fa o
      clear hPB3
      go_wp2_with fail
      refine bodyPost_ret (v := .tuple #[.agg #[.int .i64 i, .int .i64 ((i : Int) + 1 + 1), .slice none 0 0, .int .i64 0], .bool true]) ?_ rfl ⟨none, 0, 0, 0, ?_, ?_, ?_⟩
      · simp [results, Tryd.results32, go_sem, a0, a1, a2, a3]
      · rw [Ex2.out]; exact agg_eq (by simp; omega) rfl
      · rw [Ex2.out]; intro val h
        obtain rfl : (-1 : Int) = val := by simpa using h
        exact ⟨Or.inl ⟨rfl, rfl⟩, HQ.out⟩
      · exact (((HPB3.out.below.setCell (by simp) _).setCell (by simp) _).setCell (by simp) _).setCell (by simp) _

end Str
end Go.Proofs.YtddldddehgnobaaDoor
