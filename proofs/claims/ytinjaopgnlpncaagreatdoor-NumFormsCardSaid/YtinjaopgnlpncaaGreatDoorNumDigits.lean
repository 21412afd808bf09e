/-
  The contract of the laws' own 'digits': the digits of a whole number in a base.
-/
import Derived.Test.YtinjaopgnlpncaaGreatDoorNumPrint
namespace Go.Proofs.YtinjaopgnlpncaaGreatDoor
namespace Num
open Go.RowKit

def chrN (d : Nat) : UInt8 := if d < 10 then (48 + d).toUInt8 else (87 + d).toUInt8
def digsL (b : Nat) : Nat → Nat → List UInt8
  | 0, _ => []
  | f + 1, x => if x = 0 then [] else digsL b f (x / b) ++ [chrN (x % b)]
def sixteen : List UInt8 := [48, 49, 50, 51, 52, 53, 54, 55, 56, 57, 97, 98, 99, 100, 101, 102]

theorem chr_all : ∀ d : Nat, d < 16 → valN (chrN d) = d ∧ (chrN d = 48 ↔ d = 0) := by decide
theorem chr_cut : ∀ d : Nat, d < 16 → (sixteen.drop d).take 1 = [chrN d] := by decide
theorem chr_str (d : Nat) (h : d < 16) : (⟨sixteen.toArray⟩ : ByteArray).extract d (d + 1) = ⟨[chrN d].toArray⟩ := by
  refine str_ext _ _ ?_
  rw [← Lib.toList_data, Lib.extract_toList]
  show List.take (d + 1 - d) (List.drop d sixteen) = [chrN d]
  rw [show d + 1 - d = 1 from by omega, chr_cut d h]

theorem wrap_nat (q : Nat) (h : q < 1152921504606846976) : wrap64 (q : Int) = q := by unfold wrap64; omega

theorem digs_len (b : Nat) : ∀ f x, (digsL b f x).length ≤ f := by
  intro f
  induction f with
  | zero => intro x; simp [digsL]
  | succ f ih =>
    intro x
    rw [digsL]
    by_cases h : x = 0
    · rw [if_pos h]; simp
    · rw [if_neg h]; simpa using ih (x / b)
theorem digs_under (b : Nat) (hb : 0 < b) (hb16 : b ≤ 16) : ∀ f x, ∀ c ∈ digsL b f x, valN c < b := by
  intro f
  induction f with
  | zero => intro x c hc; simp [digsL] at hc
  | succ f ih =>
    intro x c hc
    rw [digsL] at hc
    by_cases h : x = 0
    · rw [if_pos h] at hc; simp at hc
    · rw [if_neg h] at hc
      rcases List.mem_append.1 hc with h1 | h1
      · exact ih _ c h1
      · rw [List.mem_singleton.1 h1]
        have := Nat.mod_lt x hb
        rw [(chr_all _ (by omega)).1]; exact this
theorem digs_zero (b f : Nat) : digsL b f 0 = [] := by cases f <;> simp [digsL]
theorem digs_more (b : Nat) (hb : 2 ≤ b) : ∀ f x, x < 2 ^ f → x ≠ 0 → digsL b f x ≠ [] := by
  intro f
  cases f with
  | zero => intro x h h0; simp at h; exact absurd h h0
  | succ f => intro x h h0; rw [digsL, if_neg h0]; simp
theorem digs_head (b : Nat) (hb : 2 ≤ b) (hb16 : b ≤ 16) : ∀ f x, x < 2 ^ f → x ≠ 0 → ∃ c r, digsL b f x = c :: r ∧ c ≠ 48 := by
  intro f
  induction f with
  | zero => intro x h h0; simp at h; exact absurd h h0
  | succ f ih =>
    intro x h h0
    rw [digsL, if_neg h0]
    by_cases hq : x / b = 0
    · have hlt : x < b := (Nat.div_eq_zero_iff_lt (by omega)).1 hq
      rw [hq, digs_zero, Nat.mod_eq_of_lt hlt]
      exact ⟨chrN x, [], rfl, fun e => h0 ((chr_all x (by omega)).2.1 e)⟩
    · have hlt : x / b < 2 ^ f := by
        refine Nat.div_lt_of_lt_mul ?_
        have : 2 * 2 ^ f ≤ b * 2 ^ f := Nat.mul_le_mul_right _ hb
        rw [Nat.pow_succ] at h; omega
      obtain ⟨c, r, e, hc⟩ := ih _ hlt hq
      exact ⟨c, r ++ [chrN (x % b)], by rw [e]; rfl, hc⟩

set_option maxHeartbeats 2000000 in
set_option maxRecDepth 100000 in
theorem digits_any (f v b : Nat) (w : World) (hf : f ≤ 60) (hv : v < 2 ^ f) (h0 : v ≠ 0) (hb : 2 ≤ b) (hb16 : b ≤ 16) :
    Calls Tryz.prog 15 #[.int .i64 v, .int .i64 b] w fun e w' => e = .returned (.string ⟨(digsL b f v).toArray⟩) ∧ Below w.heap.size w w' := by
  have h60 : v < 2 ^ 60 := Nat.lt_of_lt_of_le hv (Nat.pow_le_pow_right (by decide) hf)
  go_enter Tryz.func15, Tryz.ntmps15
  go_wp2_with fail
  go_loopw [0, 6] (fun a t wr => ∃ (x g : Nat) (ys : List UInt8), a = .int .i64 x ∧ t = .string ⟨ys.toArray⟩ ∧ x < 2 ^ 60 ∧ g ≤ f ∧ x < 2 ^ g ∧ digsL b f v = digsL b g x ++ ys ∧ (x = 0 → ys ≠ []) ∧ ys.length ≤ 60 - g ∧ Below w.heap.size w wr) (fun a _ _ => (intOf a).toNat)
  case atStart => exact ⟨v, f, [], rfl, rfl, h60, Nat.le_refl _, hv, by simp, fun h => absurd h h0, Nat.zero_le _, Below.refl _ _⟩
  case round =>
    obtain ⟨x, g, ys, rfl, rfl, hx60, hgf, hxg, heq, hne, hlen, hbr⟩ := hrel
    by_cases hx : x = 0
    · subst hx
      have q : ys.isEmpty = false := by
        cases ys with
        | nil => exact absurd rfl (hne rfl)
        | cons _ _ => rfl
      have Hf : Hid (digsL b f v = ys) := Lib.hid (by rw [heq, digs_zero]; rfl)
      clear heq hne
      go_wp2_with fail
      go_ret
      exact ⟨by rw [Hf.out]; rfl, hbr⟩
    · have hmod : x % b < 16 := Nat.lt_of_lt_of_le (Nat.mod_lt x (by omega)) hb16
      have hdl : x / b < x := Nat.div_lt_self (by omega) (by omega)
      obtain ⟨g', rfl⟩ : ∃ g', g = g' + 1 := by
        cases g with
        | zero => simp at hxg; omega
        | succ g' => exact ⟨g', rfl⟩
      have hq2 : x / b < 2 ^ g' := by
        refine Nat.div_lt_of_lt_mul ?_
        have : 2 * 2 ^ g' ≤ b * 2 ^ g' := Nat.mul_le_mul_right _ hb
        rw [Nat.pow_succ] at hxg; omega
      have Hn : Hid (digsL b f v = digsL b g' (x / b) ++ (chrN (x % b) :: ys)) := Lib.hid (by rw [heq, digsL, if_neg hx]; simp)
      have Hs : Hid (({ data := #[48, 49, 50, 51, 52, 53, 54, 55, 56, 57, 97, 98, 99, 100, 101, 102] } : ByteArray).extract (x % b) (x % b + 1) ++ { data := ys.toArray } = ⟨(chrN (x % b) :: ys).toArray⟩) := Lib.hid (by
        refine str_ext _ _ ?_
        rw [show ({ data := #[48, 49, 50, 51, 52, 53, 54, 55, 56, 57, 97, 98, 99, 100, 101, 102] } : ByteArray) = ⟨sixteen.toArray⟩ from rfl, chr_str _ hmod]
        simp)
      have hw : Hid (wrap64 ((x : Int) / (b : Int)) = ((x / b : Nat) : Int)) := Lib.hid (by
        rw [← Int.natCast_ediv]; exact wrap_nat _ (by omega))
      clear heq hne hxg hv
      go_wp2_with fail
      go_region
      all_goals go_wp2_with fail
      all_goals go_round
      case rel => exact ⟨x / b, g', _, by rw [hw.out], by rw [Hs.out], by omega, by omega, hq2, Hn.out, (fun _ => by simp), by simp; omega, hbr.drew⟩
      case measure => rw [hw.out]; simp only [intOf, Int.toNat_natCast]; exact hdl
end Num
end Go.Proofs.YtinjaopgnlpncaaGreatDoor
