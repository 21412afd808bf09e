/-
  The document's own escape: escaped letters, and all other characters.
-/
import Derived.Test.YtddldddehgnobaaDoorStrRefEsd
namespace Go.Proofs.YtddldddehgnobaaDoor
namespace Str
open Go.RowKit

theorem chr_ascii (s : ByteArray) (i : Nat) (h : i < s.size) (c : Nat) (hc : (s[i]'h).toNat = c) (h1 : c < 128) : chrR (sufL s i) = (1, some (c : Int)) := by
  rw [suf_cons s i h]
  unfold chrR
  rcases lenL_cons (s[i]'h) (sufL s (i + 1)) with ⟨_, h3⟩ | ⟨h2, _, h4⟩ | ⟨_, h3, _⟩
  · omega
  · rw [h2, h4, hc]; rfl
  · omega
theorem PB.setUnits {w0 W : World} {f t : Int} {v : Value} {ch : Int} (h : PB w0 W f t v ch) (v' : Value) : PB w0 (W.setCell ⟨w0.heap.size + 1, 2, none⟩ v') f t v' ch := by
  refine ⟨?_, ?_, h.below.setCell (by simp) _⟩
  · rw [Below.heap_setCell _ _ _ _ (by simp)]; exact h.res
  · show (W.heap.modify (w0.heap.size + 1) _)[w0.heap.size + 1]? = _
    rw [Array.getElem?_modify, if_pos rfl, h.part]; rfl
theorem PB.setChar {w0 W : World} {f t : Int} {v : Value} {ch : Int} (h : PB w0 W f t v ch) (ch' : Int) : PB w0 (W.setCell ⟨w0.heap.size + 1, 3, none⟩ (.int .i64 ch')) f t v ch' := by
  refine ⟨?_, ?_, h.below.setCell (by simp) _⟩
  · rw [Below.heap_setCell _ _ _ _ (by simp)]; exact h.res
  · show (W.heap.modify (w0.heap.size + 1) _)[w0.heap.size + 1]? = _
    rw [Array.getElem?_modify, if_pos rfl, h.part]; rfl

theorem start_world (w : World) (i : Nat) : ∃ W, (w.alloc (.cells #[.int .i64 0, .int .i64 0, .slice none 0 0, .int .i64 0] 56)).alloc (.cells #[.int .i64 i, .int .i64 ((i : Int) + 1), .slice none 0 0, .int .i64 0] 56) = W ∧
    PB w W i ((i : Int) + 1) (.slice none 0 0) 0 := ⟨_, rfl, PB.start w i ((i : Int) + 1) (.slice none 0 0) 0⟩

set_option maxHeartbeats 8000000 in
set_option maxRecDepth 20000 in
theorem resc_sim (s : ByteArray) (i : Nat) (w : World) (hz : s.size ≤ 16777216) (hlt : i + 1 < s.size) (c : Nat) (hc : (s[i + 1]'hlt).toNat = c) (h6 : c = 98 ∨ c = 102 ∨ c = 110 ∨ c = 114 ∨ c = 116 ∨ c = 118) :
    Calls Tryd.prog 32 #[.string s, .int .i64 i] w (PartAt i ((escL (sufL s (i + 1))).1 + 1, (escL (sufL s (i + 1))).2) (headV (sufL s (i + 1))) w) := by
  have hh := headV_at s (i + 1) hlt
  rw [hc] at hh
  have hch := chr_ascii s (i + 1) hlt c hc (by omega)
  have hV : denV (c : Int) = simV c ∧ 0 ≤ simV c ∧ simV c ≤ 13 := by rcases h6 with rfl | rfl | rfl | rfl | rfl | rfl <;> decide
  have Ex : Hid (escL (sufL s (i + 1)) = (1, some (simV c))) := Lib.hid (by
    rw [esc_else _ (by rw [hh]; omega) (by rw [hh]; omega) (by rw [hh]; omega) (by rw [hh]; omega), hch, ← hV.1]; rfl)
  have HQ : Hid (((0 : Int) = 39 ↔ headV (sufL s (i + 1)) = 39) ∧ ((0 : Int) = 34 ↔ headV (sufL s (i + 1)) = 34)) := Lib.hid (quotes0 _ (by rw [hh]; omega) (by rw [hh]; omega))
  have HS := Lib.hid (fun W => simple_any c W (by omega))
  obtain ⟨_, hV0, hV1⟩ := hV
  obtain ⟨V, hVV⟩ : ∃ V, simV c = V := ⟨_, rfl⟩
  rw [hVV] at HS Ex hV0 hV1
  have g1 : ((c : Int) == 120) = false := beq_eq_false_iff_ne.2 (by omega)
  have g2 : ((c : Int) == 117) = false := beq_eq_false_iff_ne.2 (by omega)
  have g3 : ((c : Int) == 48) = false := beq_eq_false_iff_ne.2 (by omega)
  have g4 : ¬ (c : Int) ≤ 57 := by omega
  have g5 : (49 : Int) ≤ (c : Int) := by omega
  clear hh hch hVV h6
  go_enter Tryd.func32, Tryd.ntmps32
  go_wp2_with fail
  obtain ⟨W, hW, hPB⟩ := start_world w i
  rw [hW]
  have HPB := Lib.hid hPB
  clear hPB hW
  refine (HS.out _).mono ?_
  rintro e w2 ⟨rfl, hb2⟩
  have hPB2 := HPB.out.keep hb2
  have HPB2 := Lib.hid hPB2
  obtain ⟨b0, b1, b2, b3⟩ := hPB2.b
  have fb := fun o => hPB2.fb o
  clear hPB2 hb2
  go_wp2_with fail
  refine (HS.out _).mono ?_
  rintro e w3 ⟨rfl, hb3⟩
  have hPB3 := (HPB2.out.setTo ((i : Int) + 2)).keep hb3
  have HPB3 := Lib.hid hPB3
  have hsz := hPB3.sizes
  have n1 : ¬ w.heap.size = w3.heap.size := by omega
  have n2 : ¬ w.heap.size + 1 = w3.heap.size := by omega
  have n3 : w.heap.size < w3.heap.size := by omega
  clear hb3 b0 b1 b2 b3 fb
  obtain ⟨b0, b1, b2, b3⟩ := hPB3.b
  obtain ⟨a0, a1, a2, a3⟩ := hPB3.a
  have fb := fun o => hPB3.fb o
  have fa := fun o => hPB3.fa o
  clear hPB3
  have hI := ints_new w3 [V] _ rfl
  have HI := Lib.hid hI
  clear hI
  go_wp2_with fail
  refine bodyPost_ret (v := .tuple #[.agg #[.int .i64 i, .int .i64 ((i : Int) + 2), .slice (some ⟨w3.heap.size, 0, none⟩) 1 1, .int .i64 0], .bool true]) ?_ rfl ⟨some ⟨w3.heap.size, 0, none⟩, 1, 1, 0, ?_, ?_, ?_⟩
  · simp [results, Tryd.results32, go_sem, a0, a1, a2, a3, n3]
  · rw [Ex.out]; exact agg_eq (by simp; try omega) rfl
  · rw [Ex.out]
    intro val h
    obtain rfl : V = val := by simpa using h
    have hu : uOf V = [V] := by unfold uOf unitsL; rw [if_neg (by omega), if_neg (by omega)]
    rw [hu]
    exact ⟨ints_new _ [V] _ (by simp), HQ.out⟩
  · exact (((((HPB3.out.below.setCell (by simp) _).setCell (by simp) _).setCell (by simp) _).setCell (by simp) _).setCell (by simp) _).alloc (by simp; omega) _

/-- What all other characters are. -/
theorem esc_chr (s : ByteArray) (i : Nat) (h : i < s.size) (c : Nat) (hc : (s[i]'h).toNat = c) (h1 : c ≠ 120) (h2 : c ≠ 117) (h3 : ¬ (48 ≤ c ∧ c ≤ 57)) (h4 : c ≠ 13) :
    escL (sufL s i) = (lenL (sufL s i), if lenL (sufL s i) = 0 then none else some (denV (runeL (sufL s i)))) := by
  have hh := headV_at s i h
  rw [hc] at hh
  rw [esc_else _ (by rw [hh]; omega) (by rw [hh]; omega) (by rw [hh]; omega) (by rw [hh]; omega)]
  unfold chrR
  by_cases e : lenL (sufL s i) = 0
  · rw [if_pos e, if_pos e]; rfl
  · rw [if_neg e, if_neg e]; rfl
/-- Such a character is a quote just if its first byte is; and no letter that stands for something else, if the byte is none. -/
theorem rune_first (s : ByteArray) (i : Nat) (h : i < s.size) (c : Nat) (hc : (s[i]'h).toNat = c) (hne : lenL (sufL s i) ≠ 0) (n : Nat) (hn : n < 128) : runeL (sufL s i) = n ↔ c = n := by
  rw [suf_cons s i h] at hne ⊢
  rcases lenL_cons (s[i]'h) (sufL s (i + 1)) with ⟨h3, _⟩ | ⟨_, h3, h4⟩ | ⟨_, h3, h4, _⟩
  · exact absurd h3 hne
  · rw [h4, hc]
  · omega

end Str
end Go.Proofs.YtddldddehgnobaaDoor
