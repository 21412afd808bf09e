/-
  The document's own taking apart, plain: what each way means for the parts.
-/
import Derived.Test.YtinjaopgnlpncaaGreatDoorNumOf
import Derived.Test.YtinjaopgnlpncaaGreatDoorNumPrint
namespace Go.Proofs.YtinjaopgnlpncaaGreatDoor
namespace Num
open Go.RowKit

def expAt (w : List UInt8) (dot : Bool) (f sg t : List UInt8) : Option Parts :=
  match runL 10 false t with
  | none => none
  | some k => if k = 0 ∨ 9 < (aheadL (plainL (t.take k))).length ∨ t.drop k ≠ [] then none else some ⟨10, w, dot, f, true, sg, t.take k, false⟩

theorem exp_at (w : List UInt8) (dot : Bool) (f : List UInt8) (c : UInt8) (t : List UInt8) (hc : c = 101 ∨ c = 69) : expOf w dot f (c :: t) = expAt w dot f (signL t).1 (signL t).2 := by
  rw [expOf, if_pos hc, expAt]
  cases runL 10 false (signL t).2 <;> rfl
theorem exp_not (w : List UInt8) (dot : Bool) (f : List UInt8) (c : UInt8) (t : List UInt8) (h1 : c ≠ 101) (h2 : c ≠ 69) : expOf w dot f (c :: t) = none := by
  rw [expOf, if_neg (by rintro (h | h); exact h1 h; exact h2 h)]
theorem sign_yes (c : UInt8) (t : List UInt8) (h : c = 43 ∨ c = 45) : signL (c :: t) = ([c], t) := by rw [signL, if_pos h]
theorem sign_no (c : UInt8) (t : List UInt8) (h1 : c ≠ 43) (h2 : c ≠ 45) : signL (c :: t) = ([], c :: t) := by
  rw [signL, if_neg (by rintro (h | h); exact h1 h; exact h2 h)]
theorem at_none (w : List UInt8) (dot : Bool) (f sg t : List UInt8) (h : runI 10 t < 1) : expAt w dot f sg t = none := by
  unfold expAt
  unfold runI at h
  cases hk : runL 10 false t with
  | none => rfl
  | some k =>
    rw [hk] at h
    have : k = 0 := by simp only [] at h; omega
    simp only []
    rw [if_pos (Or.inl this)]
theorem at_long (w : List UInt8) (dot : Bool) (f sg t : List UInt8) (k : Nat) (h : runL 10 false t = some k) (hl : 9 < (aheadL (plainL (t.take k))).length) : expAt w dot f sg t = none := by
  unfold expAt; rw [h]; simp only []; rw [if_pos (Or.inr (Or.inl hl))]
theorem at_rest (w : List UInt8) (dot : Bool) (f sg t : List UInt8) (k : Nat) (h : runL 10 false t = some k) (hl : t.drop k ≠ []) : expAt w dot f sg t = none := by
  unfold expAt; rw [h]; simp only []; rw [if_pos (Or.inr (Or.inr hl))]
theorem at_some (w : List UInt8) (dot : Bool) (f sg t : List UInt8) (k : Nat) (h : runL 10 false t = some k) (hk : k ≠ 0) (hl : ¬ 9 < (aheadL (plainL (t.take k))).length) (hd : t.drop k = []) : expAt w dot f sg t = some ⟨10, w, dot, f, true, sg, t.take k, false⟩ := by
  unfold expAt; rw [h]; simp only []; rw [if_neg]
  rintro (h | h | h)
  · exact hk h
  · exact hl h
  · exact h hd

theorem dec_bad (l : List UInt8) (h : runI 10 l < 0) : decOf l = none := by
  unfold decOf
  unfold runI at h
  cases hk : runL 10 false l with
  | none => rfl
  | some k => rw [hk] at h; simp only [] at h; omega
theorem dec_lead (l : List UInt8) (i : Nat) (h : runL 10 false l = some i) (h1 : 1 < i) (h2 : l.head? = some 48) : decOf l = none := by
  unfold decOf; rw [h]; simp only []; rw [if_pos ⟨h1, h2⟩]
theorem dec_tail (l : List UInt8) (i : Nat) (h : runL 10 false l = some i) (hn : ¬ (1 < i ∧ l.head? = some 48)) : decOf l = tailOf (l.take i) (l.drop i) := by
  unfold decOf; rw [h]; simp only []; rw [if_neg hn]

theorem run_eq (s : ByteArray) (i : Nat) (z : Int) (w : World) (hz : z = i) (hs : s.size ≤ 140737488354000) (hi : i ≤ s.size) :
    Calls Tryz.prog 50 #[.string s, .int .i64 z, .int .i64 10] w fun e w' => e = .returned (.int .i64 (runI 10 (s.data.toList.drop i))) ∧ w = w' := by
  subst hz; exact run_any s i 10 w (by unfold maxLen; omega) hi (by decide)

theorem ofL_decs (s : ByteArray) (h : ¬ (∃ h : 1 < s.size, s[0] = 48 ∧ radN (lowN s[1]) ≠ 0)) : ofL s.data.toList = decOf s.data.toList := by
  by_cases h1 : 1 < s.size
  · conv => lhs; rw [two_bytes s h1]
    rw [ofL, if_neg (fun x => h ⟨h1, x⟩)]
    conv => rhs; rw [two_bytes s h1]
  · have hl : s.data.toList.length ≤ 1 := by rw [← Lib.size_eq]; omega
    match hm : s.data.toList, hl with
    | [], _ => rfl
    | [_], _ => rfl

theorem head_byte (s : ByteArray) (h : 0 < s.size) : s.data.toList.head? = some s[0] := by
  have := drop_byte s 0 h
  rw [List.drop_zero] at this
  rw [this]; rfl
theorem take_len (s : ByteArray) (i : Nat) (h : i ≤ s.size) : (s.extract 0 i).size = i := by simp; omega

end Num
end Go.Proofs.YtinjaopgnlpncaaGreatDoor
