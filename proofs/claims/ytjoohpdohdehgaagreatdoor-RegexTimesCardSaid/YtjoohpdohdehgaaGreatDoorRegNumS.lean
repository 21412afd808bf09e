/-
  The numbers that the laws write.
-/
import Derived.Test.YtjoohpdohdehgaaGreatDoorRegDecimal
import Derived.Test.YtjoohpdohdehgaaGreatDoorRegVal
namespace Go.Proofs.YtjoohpdohdehgaaGreatDoor
namespace Reg
open Go.RowKit

/-- A number's numeral. -/
def numS (m : Nat) : ByteArray := ⟨(decF 9 m).toArray⟩
theorem numeral_any (m : Nat) (h : m < 1000000000) (w : World) :
    Calls Tryz.prog 15 #[.int .i64 (m : Int)] w fun e w' => e = .returned (.string (numS m)) ∧ Below w.heap.size w w' := by
  have h1 := Num.decimal_any (m : Int) w (by omega) (by omega)
  rw [Lib.itoa_nonneg, ← decF_eq 9 m (by decide) h] at h1
  exact h1
theorem decF_len : ∀ (f n : Nat), (decF f n).length ≤ f
  | 0, _ => Nat.le_refl _
  | f + 1, n => by
    rw [decF]
    split
    · simp
    · rw [List.length_append, List.length_singleton]; have := decF_len f (n / 10); omega
theorem numS_size (m : Nat) : (numS m).size ≤ 9 := by
  have := decF_len 9 m
  show (decF 9 m).toArray.size ≤ 9
  simpa using this
theorem numS_data (m : Nat) : (numS m).data.toList = decF 9 m := rfl

theorem digV_nines : ∀ (k v : Nat), digV v (List.replicate k 57) + 1 = (v + 1) * 10 ^ k
  | 0, v => by rw [List.replicate_zero, digV_nil]; omega
  | k + 1, v => by
    rw [List.replicate_succ, digV_cons, digV_nines k, Nat.pow_succ]
    have : (57 : UInt8).toNat - 48 = 9 := rfl
    rw [this, show v * 10 + 9 + 1 = (v + 1) * 10 from by omega, Nat.mul_comm (10 ^ k) 10, Nat.mul_assoc]
theorem digV_noughts : ∀ (k : Nat), digV 0 (List.replicate k 48) = 0
  | 0 => rfl
  | k + 1 => by
    rw [List.replicate_succ, digV_cons]
    have : (48 : UInt8).toNat - 48 = 0 := rfl
    rw [this]; exact digV_noughts k
theorem digL_rep (c : UInt8) (h : 48 ≤ c.toNat ∧ c.toNat ≤ 57) (k : Nat) : DigL (List.replicate k c) := fun x hx => by rw [List.eq_of_mem_replicate hx]; exact h

theorem end_none (body : ByteArray) (h : body.size ≤ 4096) : endP body ⟨#[]⟩ = runP false body := by
  show (if 4096 < body.size then (0, 405) else runP false body) = _
  rw [if_neg (by omega)]
theorem end_u (body : ByteArray) (h : body.size ≤ 4096) : endP body ⟨#[117]⟩ = runP true body := by
  have e : bitsP 0 [117] = some 32 := by decide
  unfold endP
  rw [show (⟨#[117]⟩ : ByteArray).data.toList = [117] from rfl, e]
  show (if 4096 < body.size then (0, 405) else runP true body) = _
  rw [if_neg (by omega)]

/-- A quantifier of two long numbers. -/
theorem times_two (k x y : Nat) (hx : x < 1000000000) (hy : y < 1000000000) (body : ByteArray)
    (hb : body.data.toList = 97 :: 123 :: ((List.replicate k 48 ++ decF 9 x ++ List.replicate 20 57) ++ 44 :: ((decF 9 y ++ List.replicate 20 57) ++ 125 :: [63]))) (hs : body.size ≤ 4096) :
    endP body ⟨#[]⟩ = if x ≤ y then (0, 0) else (1, 403) := by
  rw [end_none _ hs]
  have d9 : ∀ k, DigL (List.replicate k 57) := digL_rep 57 (by decide)
  have d0 : ∀ k, DigL (List.replicate k 48) := digL_rep 48 (by decide)
  have da : DigL (List.replicate k 48 ++ decF 9 x ++ List.replicate 20 57) := ((d0 k).app (decF_dig 9 x)).app (d9 20)
  have db : DigL (decF 9 y ++ List.replicate 20 57) := (decF_dig 9 y).app (d9 20)
  have va : digV 0 (List.replicate k 48 ++ decF 9 x ++ List.replicate 20 57) + 1 = (x + 1) * 10 ^ 20 := by
    rw [val_app, val_app, digV_noughts, decF_val 9 x hx (by decide), digV_nines]
  have vb : digV 0 (decF 9 y ++ List.replicate 20 57) + 1 = (y + 1) * 10 ^ 20 := by
    rw [val_app, decF_val 9 y hy (by decide), digV_nines]
  have hq := quan_two da db (by simp) (by simp) [63]
  generalize hA : List.replicate k 48 ++ decF 9 x ++ List.replicate 20 57 = A at *
  generalize hB : decF 9 y ++ List.replicate 20 57 = B at *
  have hlen : body.size = (97 :: 123 :: (A ++ 44 :: (B ++ 125 :: [63])) : List UInt8).length := by rw [← hb]; rfl
  unfold runP
  rw [hb]
  by_cases h : x ≤ y
  · rw [if_neg (by omega)] at hq
    rw [if_pos h, body_good false _ hq]
  · rw [if_pos (by omega)] at hq
    rw [if_neg h, body_bad false _ _ hq]
    show (body.size - (123 :: (A ++ 44 :: (B ++ 125 :: [63])) : List UInt8).length, 403) = (1, 403)
    rw [hlen, List.length_cons]
    congr 1
    omega

/-- A quantifier of one number. -/
theorem times_one (x : Nat) (body : ByteArray) (hb : body.data.toList = 97 :: 123 :: (decF 9 x ++ 125 :: [])) (hs : body.size ≤ 4096) : endP body ⟨#[117]⟩ = (0, 0) := by
  rw [end_u _ hs]
  unfold runP
  rw [hb, body_good true _ (quan_one (decF_dig 9 x) (decF_ne 9 x (by decide)) []).1]
theorem times_more (x : Nat) (body : ByteArray) (hb : body.data.toList = 97 :: 123 :: (decF 9 x ++ 44 :: 125 :: [])) (hs : body.size ≤ 4096) : endP body ⟨#[]⟩ = (0, 0) := by
  rw [end_none _ hs]
  unfold runP
  rw [hb, body_good false _ (quan_one (decF_dig 9 x) (decF_ne 9 x (by decide)) []).2]

end Reg
end Go.Proofs.YtjoohpdohdehgaaGreatDoor
