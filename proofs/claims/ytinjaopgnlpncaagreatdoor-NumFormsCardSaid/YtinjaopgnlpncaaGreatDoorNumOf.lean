/-
  The document's own taking apart.
-/
import Derived.Test.YtinjaopgnlpncaaGreatDoorNumRadix
import Derived.Deep.DeepCutAuto
namespace Go.Proofs.YtinjaopgnlpncaaGreatDoor
namespace Num
open Go.RowKit

theorem OfVal.raw {o : Option Parts} {e : Ending} (h : OfVal o e) : ∃ b wh d f x m pw g ok, e = .returned (.tuple #[rawV b wh d f x m pw g, .bool ok]) := by
  cases o with
  | some p => exact ⟨_, _, _, _, _, _, _, _, _, h⟩
  | none =>
    obtain ⟨b, wh, d, f, x, m, pw, g, h⟩ := h
    exact ⟨b, wh, d, f, x, m, pw, g, false, h⟩

/-- The letter behind the nought, and its base. -/
def markOf (c : UInt8) (r : Nat) : Prop := (r = 16 ∧ (c = 120 ∨ c = 88)) ∨ (r = 8 ∧ (c = 111 ∨ c = 79)) ∨ (r = 2 ∧ (c = 98 ∨ c = 66))
theorem low_all (P : UInt8 → Prop) [DecidablePred P] (h : ∀ n : Fin 256, P (UInt8.ofNat n.val)) (c : UInt8) : P c := by
  have := h ⟨c.toNat, c.toNat_lt⟩
  simpa [UInt8.ofNat_toNat] using this
theorem mark_of (c : UInt8) (r : Nat) (h : markOf c r) : radN (lowN c) = r := by
  rcases h with ⟨rfl, rfl | rfl⟩ | ⟨rfl, rfl | rfl⟩ | ⟨rfl, rfl | rfl⟩ <;> decide
theorem mark_no (c : UInt8) (h1 : c ≠ 120) (h2 : c ≠ 88) (h3 : c ≠ 111) (h4 : c ≠ 79) (h5 : c ≠ 98) (h6 : c ≠ 66) : radN (lowN c) = 0 := by
  rw [lowN]
  split
  · rename_i h
    have e : ∀ x : UInt8, c ≠ x - 32 → c + 32 ≠ x := by
      intro x h e; apply h; rw [← e]; rw [UInt8.add_sub_cancel]
    rw [radN, if_neg (e 120 (by simpa using h2)), if_neg (e 111 (by simpa using h4)), if_neg (e 98 (by simpa using h6))]
  · rw [radN, if_neg h1, if_neg h3, if_neg h5]

theorem two_bytes (s : ByteArray) (h : 1 < s.size) : s.data.toList = s[0] :: s[1] :: s.data.toList.drop 2 := by
  have h0 := drop_byte s 0 (by omega)
  have h1 := drop_byte s 1 h
  rw [List.drop_zero] at h0
  conv => lhs; rw [h0, h1]

set_option maxHeartbeats 4000000 in
set_option maxRecDepth 100000 in
theorem of_mark_any (s : ByteArray) (w : World) (hs : s.size ≤ 140737488354000) (h1 : 1 < s.size) (h0 : s[0] = 48) (r : Nat) (hm : markOf s[1] r) :
    Calls Tryz.prog 24 #[.string s] w fun e w' => OfVal (ofL s.data.toList) e ∧ Below w.heap.size w w' := by
  have hf : ofL s.data.toList = baseOf r (s.data.toList.drop 2) := by
    have hr := mark_of _ _ hm
    have hr0 : radN (lowN s[1]) ≠ 0 := by rw [hr]; rcases hm with ⟨rfl, _⟩ | ⟨rfl, _⟩ | ⟨rfl, _⟩ <;> decide
    conv => lhs; rw [two_bytes s h1]
    rw [ofL, if_pos ⟨h0, hr0⟩, hr]
  rw [hf]
  clear hf
  have hr16 : r ≤ 16 := by rcases hm with ⟨rfl, _⟩ | ⟨rfl, _⟩ | ⟨rfl, _⟩ <;> decide
  have H := Lib.hid (fun W => radix_of s r W hs (by omega) hr16)
  have t0 : (((s[0]'(by omega)).toNat : Int) == 48) = true := by rw [t48, h0]; rfl
  clear h0 hr16
  generalize ofBase : baseOf r (s.data.toList.drop 2) = o at *
  clear ofBase
  obtain ⟨c, hc⟩ : ∃ c : UInt8, s[1] = c := ⟨_, rfl⟩
  rw [hc] at hm
  rcases hm with ⟨rfl, rfl | rfl⟩ | ⟨rfl, rfl | rfl⟩ | ⟨rfl, rfl | rfl⟩
  all_goals
    go_enter Tryz.func24, Tryz.ntmps24
    go_wp2_with fail
    refine (H.out _).mono ?_
    rintro e w1 ⟨hov, hb1⟩
    obtain ⟨b, wh, d, f, x, m, pw, g, ok, rfl⟩ := hov.raw
    have Hov := Lib.hid hov
    clear hov
    have hz : w.heap.size < w1.heap.size := by have := hb1.size; simp at this; omega
    have Hb : Hid (Below w.heap.size w w1) := Lib.hid (((Below.refl _ _).alloc (Nat.le_refl _) _).trans (hb1.mono (by simp)))
    obtain ⟨hc1, hf1⟩ := bcell hb1
    have q : ∀ o, w1.cell? ⟨w.heap.size, o, none⟩ = (w.alloc (.cells #[.int .i64 0, .string ⟨#[]⟩, .bool false, .string ⟨#[]⟩, .bool false, .bool false, .string ⟨#[]⟩, .bool false] 46)).cell? ⟨w.heap.size, o, none⟩ := fun o => hc1 _ _ (by simp)
    have g0 := q 0
    have g1 := q 1
    have g2 := q 2
    have g3 := q 3
    have g4 := q 4
    have g5 := q 5
    have g6 := q 6
    have g7 := q 7
    rw [World.cell?_alloc_at _ _ _ _ rfl] at g0 g1 g2 g3 g4 g5 g6 g7
    unfold rawV at *
    go_wp2_with fail
    clear q hc1 hf1
    refine bodyPost_ret (v := .tuple #[.agg #[.int .i64 b, .string wh, .bool d, .string f, .bool x, .bool m, .string pw, .bool g], .bool ok]) ?_ rfl ⟨Hov.out, ?_⟩
    · simp [results, Tryz.results24, go_sem, g0, g1, g2, g3, g4, g5, g6, g7]
    · exact (((((((Hb.out.setCell (by simp) _).setCell (by simp) _).setCell (by simp) _).setCell (by simp) _).setCell (by simp) _).setCell (by simp) _).setCell (by simp) _).setCell (by simp) _

end Num
end Go.Proofs.YtinjaopgnlpncaaGreatDoor
