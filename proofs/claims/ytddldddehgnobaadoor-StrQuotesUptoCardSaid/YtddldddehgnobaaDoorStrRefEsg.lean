/-
  The document's own escape: characters that stand for themselves, line terminators; the whole.
-/
import Derived.Test.YtddldddehgnobaaDoorStrRefEsf
namespace Go.Proofs.YtddldddehgnobaaDoor
namespace Str
open Go.RowKit

set_option maxHeartbeats 8000000 in
set_option maxRecDepth 20000 in
theorem resc_else (s : ByteArray) (i : Nat) (w : World) (hz : s.size ≤ 16777216) (hlt : i + 1 < s.size) (c : Nat) (hc : (s[i + 1]'hlt).toNat = c) (h1 : c ≠ 120) (h2 : c ≠ 117) (h3 : ¬ (48 ≤ c ∧ c ≤ 57)) (h6 : c ≠ 98 ∧ c ≠ 102 ∧ c ≠ 110 ∧ c ≠ 114 ∧ c ≠ 116 ∧ c ≠ 118) (h13 : c ≠ 13) (h0 : lenL (sufL s (i + 1)) ≠ 0) :
    Calls Tryd.prog 32 #[.string s, .int .i64 i] w (PartAt i ((escL (sufL s (i + 1))).1 + 1, (escL (sufL s (i + 1))).2) (headV (sufL s (i + 1))) w) := by
  have hh := headV_at s (i + 1) hlt
  rw [hc] at hh
  have hc256 : c < 256 := by have := (s[i + 1]'hlt).toNat_lt; omega
  have Ex : Hid (escL (sufL s (i + 1)) = (lenL (sufL s (i + 1)), some (denV (runeL (sufL s (i + 1)))))) := Lib.hid (by rw [esc_chr s (i + 1) hlt c hc h1 h2 h3 h13, if_neg h0])
  have hrf := rune_first s (i + 1) hlt c hc h0
  have hden : denV (runeL (sufL s (i + 1))) = if Uni.endsB (runeL (sufL s (i + 1))) = true then -1 else (runeL (sufL s (i + 1)) : Int) := by
    have e : ∀ n : Nat, n < 128 → c ≠ n → ((runeL (sufL s (i + 1)) : Int) = n) = False := fun n hn hcn => eq_false (fun e => hcn ((hrf n hn).1 (by omega)))
    unfold denV
    rw [if_neg (by rw [show (98 : Int) = ((98 : Nat) : Int) from rfl, e 98 (by decide) h6.1]; exact id), if_neg (by rw [show (116 : Int) = ((116 : Nat) : Int) from rfl, e 116 (by decide) h6.2.2.2.2.1]; exact id),
      if_neg (by rw [show (110 : Int) = ((110 : Nat) : Int) from rfl, e 110 (by decide) h6.2.2.1]; exact id), if_neg (by rw [show (118 : Int) = ((118 : Nat) : Int) from rfl, e 118 (by decide) h6.2.2.2.2.2]; exact id),
      if_neg (by rw [show (102 : Int) = ((102 : Nat) : Int) from rfl, e 102 (by decide) h6.2.1]; exact id), if_neg (by rw [show (114 : Int) = ((114 : Nat) : Int) from rfl, e 114 (by decide) h6.2.2.2.1]; exact id)]
  have hq39 : runeL (sufL s (i + 1)) = 39 ↔ c = 39 := hrf 39 (by decide)
  have hq34 : runeL (sufL s (i + 1)) = 34 ↔ c = 34 := hrf 34 (by decide)
  have hr13 : runeL (sufL s (i + 1)) = 13 ↔ c = 13 := hrf 13 (by decide)
  have hrle := runeL_le _ h0
  have hkle := lenL_le (sufL s (i + 1))
  rw [suf_len] at hkle
  have hkl : i + 1 + lenL (sufL s (i + 1)) ≤ s.size := by omega
  clear hkle
  rw [hden] at Ex
  clear hden hrf
  have hsv : simV c = -1 := by unfold simV; rw [if_neg h6.1, if_neg h6.2.1, if_neg h6.2.2.1, if_neg h6.2.2.2.1, if_neg h6.2.2.2.2.1, if_neg h6.2.2.2.2.2]
  have HS := Lib.hid (fun W => simple_any c W (by omega))
  rw [hsv] at HS
  have HR := Lib.hid (fun W => rune_any s (i + 1) W hz hlt)
  have g1 : ((c : Int) == 120) = false := beq_eq_false_iff_ne.2 (by omega)
  have g2 : ((c : Int) == 117) = false := beq_eq_false_iff_ne.2 (by omega)
  have g3 : ((c : Int) == 48) = false := beq_eq_false_iff_ne.2 (by omega)
  have g45 : (¬ (49 : Int) ≤ (c : Int)) ∨ ((49 : Int) ≤ (c : Int) ∧ ¬ (c : Int) ≤ 57) := by omega
  have HH := Lib.hid hh
  clear hh hsv
  obtain ⟨L, hL⟩ : ∃ L, lenL (sufL s (i + 1)) = L := ⟨_, rfl⟩
  obtain ⟨r, hr⟩ : ∃ r, runeL (sufL s (i + 1)) = r := ⟨_, rfl⟩
  rw [hL, hr] at HR
  have HL := Lib.hid hL
  have HRR := Lib.hid hr
  clear hL hr
  rw [HL.out] at h0 hkl
  rw [HL.out, HRR.out] at Ex
  rw [HRR.out] at hq39 hq34 hr13 hrle
  rw [if_neg h0, if_neg h0] at HR
  have HQ : Hid (((r : Int) = 39 ↔ headV (sufL s (i + 1)) = 39) ∧ ((r : Int) = 34 ↔ headV (sufL s (i + 1)) = 34)) := Lib.hid (by rw [HH.out]; omega)
  have gr13 : ((r : Int) == 13) = false := beq_eq_false_iff_ne.2 (by omega)
  have HE := Lib.hid (fun W => Uni.rends_any r W)
  have HU := Lib.hid (fun W => runits_any r W hrle)
  have HQ0 : Hid (Uni.endsB r = true → ((0 : Int) = 39 ↔ headV (sufL s (i + 1)) = 39) ∧ ((0 : Int) = 34 ↔ headV (sufL s (i + 1)) = 34)) := Lib.hid (fun h => by
    have h39 : r ≠ 39 := by rintro rfl; exact absurd h (by decide)
    have h34 : r ≠ 34 := by rintro rfl; exact absurd h (by decide)
    exact quotes0 _ (fun e => h39 (by have := HQ.out.1.2 e; omega)) (fun e => h34 (by have := HQ.out.2.2 e; omega)))
  have gr0 : ¬ (r : Int) < 0 := by omega
  have hkpos : 1 ≤ L := by omega
  clear hq39 hq34 hr13 h0 h1 h2 h3 h6 h13
  rcases g45 with g4 | ⟨g4, g5⟩
  all_goals
    go_enter Tryd.func32, Tryd.ntmps32
    go_wp2_with fail
    obtain ⟨W, hW, hPB⟩ := start_world w i
    rw [hW]
    have HPB := Lib.hid hPB
    clear hPB hW
    refine (HS.out _).mono ?_
    rintro e w2 ⟨rfl, hb2⟩
    have hPB2 := HPB.out.keep hb2
    have HPB2 := Lib.hid hPB2
    obtain ⟨b0, b1, b2, b3⟩ := hPB2.b
    obtain ⟨a0, a1, a2, a3⟩ := hPB2.a
    have fb := fun o => hPB2.fb o
    have fa := fun o => hPB2.fa o
    clear hPB2 hb2
    go_wp2_with fail
    refine (HR.out _).mono ?_
    rintro e w3 ⟨rfl, rfl⟩
    go_wp2_with fail
    refine (HE.out _).mono ?_
    rintro e w3 ⟨rfl, hb3⟩
    have hPB3 := (HPB2.out.setTo ((i : Int) + 1 + (L : Int))).keep hb3
    have HPB3 := Lib.hid hPB3
    clear hb3 b0 b1 b2 b3 fb a0 a1 a2 a3 fa
    obtain ⟨b0, b1, b2, b3⟩ := hPB3.b
    obtain ⟨a0, a1, a2, a3⟩ := hPB3.a
    have fb := fun o => hPB3.fb o
    have fa := fun o => hPB3.fa o
    clear hPB3
    cases hE : Uni.endsB r
    · rw [hE] at Ex
      have HEE := Lib.hid hE
      clear hE
      go_wp2_with fail
      refine (HU.out _).mono ?_
      rintro e w4 ⟨g, n, rfl, hu, hb4⟩
      have hPB4 := HPB3.out.keep hb4
      have HPB4 := Lib.hid hPB4
      have HI := Lib.hid hu
      clear hb4 hu b0 b1 b2 b3 fb a0 a1 a2 a3 fa
      obtain ⟨b0, b1, b2, b3⟩ := hPB4.b
      obtain ⟨a0, a1, a2, a3⟩ := hPB4.a
      have fb := fun o => hPB4.fb o
      have fa := fun o => hPB4.fa o
      clear hPB4
      go_wp2_with fail
      refine bodyPost_ret (v := .tuple #[.agg #[.int .i64 i, .int .i64 ((i : Int) + 1 + (L : Int)), .slice (some ⟨g, 0, none⟩) n n, .int .i64 r], .bool true]) ?_ rfl ⟨some ⟨g, 0, none⟩, n, n, r, ?_, ?_, ?_⟩
      · simp [results, Tryd.results32, go_sem, a0, a1, a2, a3]
      · rw [Ex.out]; exact agg_eq (by simp; omega) rfl
      · rw [Ex.out]; intro val h
        obtain rfl : (r : Int) = val := by simpa using h
        rw [uOf_nat]
        refine ⟨?_, HQ.out⟩
        exact ints_sets (NotInt.of HPB4.out.res (by decide)) (NotInt.of HPB4.out.part (by decide)) HI.out
          [(⟨w.heap.size + 1, 2, none⟩, .slice (some ⟨g, 0, none⟩) n n), (⟨w.heap.size + 1, 3, none⟩, .int .i64 r), (⟨w.heap.size, 0, none⟩, .int .i64 i), (⟨w.heap.size, 1, none⟩, .int .i64 ((i : Int) + 1 + (L : Int))), (⟨w.heap.size, 2, none⟩, .slice (some ⟨g, 0, none⟩) n n), (⟨w.heap.size, 3, none⟩, .int .i64 r)]
          (by simp)
      · exact (((((HPB4.out.below.setCell (by simp) _).setCell (by simp) _).setCell (by simp) _).setCell (by simp) _).setCell (by simp) _).setCell (by simp) _
    · rw [hE] at Ex
      have HEE := Lib.hid hE
      clear hE
      go_wp2_with fail
      refine bodyPost_ret (v := .tuple #[.agg #[.int .i64 i, .int .i64 ((i : Int) + 1 + (L : Int)), .slice none 0 0, .int .i64 0], .bool true]) ?_ rfl ⟨none, 0, 0, 0, ?_, ?_, ?_⟩
      · simp [results, Tryd.results32, go_sem, a0, a1, a2, a3]
      · rw [Ex.out]; exact agg_eq (by simp; omega) rfl
      · rw [Ex.out]; intro val h
        obtain rfl : (-1 : Int) = val := by simpa using h
        exact ⟨Or.inl ⟨rfl, rfl⟩, HQ0.out HEE.out⟩
      · exact (((HPB3.out.below.setCell (by simp) _).setCell (by simp) _).setCell (by simp) _).setCell (by simp) _

theorem resc_any (s : ByteArray) (i : Nat) (w : World) (hz : s.size ≤ 16777216) (hi : i < s.size) :
    Calls Tryd.prog 32 #[.string s, .int .i64 i] w (PartAt i ((escL (sufL s (i + 1))).1 + 1, (escL (sufL s (i + 1))).2) (headV (sufL s (i + 1))) w) := by
  by_cases hlt : i + 1 < s.size
  · obtain ⟨c, hc⟩ : ∃ c, (s[i + 1]'hlt).toNat = c := ⟨_, rfl⟩
    by_cases c1 : c = 120
    · exact resc_x s i w hz hlt (hc.trans c1)
    by_cases c2 : c = 117
    · by_cases h2 : i + 2 < s.size
      · by_cases h3 : (s[i + 2]'h2).toNat = 123
        · exact resc_ub s i w hz hlt (hc.trans c2) h2 h3
        · exact resc_u s i w hz hlt (hc.trans c2) (by rw [headV_at s (i + 2) h2]; omega)
      · exact resc_u s i w hz hlt (hc.trans c2) (by rw [suf_nil s (i + 2) h2]; decide)
    by_cases c3 : c = 48
    · by_cases h2 : i + 2 < s.size
      · by_cases h3 : ((s[i + 2]'h2).toNat : Int) < 48
        · exact resc_0a s i w hz hlt (hc.trans c3) h2 h3
        by_cases h4 : (57 : Int) < ((s[i + 2]'h2).toNat : Int)
        · exact resc_0b s i w hz hlt (hc.trans c3) h2 h4
        · exact resc_0c s i w hz hlt (hc.trans c3) h2 (by omega) (by omega)
      · exact resc_0d s i w hz hlt (hc.trans c3) h2
    by_cases c4 : 49 ≤ c ∧ c ≤ 57
    · exact resc_9 s i w hz hlt c hc c4
    by_cases c5 : c = 98 ∨ c = 102 ∨ c = 110 ∨ c = 114 ∨ c = 116 ∨ c = 118
    · exact resc_sim s i w hz hlt c hc c5
    have c6 : c ≠ 98 ∧ c ≠ 102 ∧ c ≠ 110 ∧ c ≠ 114 ∧ c ≠ 116 ∧ c ≠ 118 := by omega
    by_cases c7 : c = 13
    · exact resc_r s i w hz hlt c hc c1 c2 (by omega) c6 c7
    by_cases c8 : lenL (sufL s (i + 1)) = 0
    · exact resc_else0 s i w hz hlt c hc c1 c2 (by omega) c6 c7 c8
    · exact resc_else s i w hz hlt c hc c1 c2 (by omega) c6 c7 c8
  · exact resc_end s i w hz hi hlt

end Str
end Go.Proofs.YtddldddehgnobaaDoor
