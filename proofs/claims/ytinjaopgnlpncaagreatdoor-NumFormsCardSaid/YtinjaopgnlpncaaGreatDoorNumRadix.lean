/-
  The document's own taking apart: with a base.
-/
import Derived.Test.YtinjaopgnlpncaaGreatDoorNumRef
namespace Go.Proofs.YtinjaopgnlpncaaGreatDoor
namespace Num
open Go.RowKit

/-- A literal's parts, as the document's own code holds them. -/
def rawV (b : Int) (wh : ByteArray) (d : Bool) (f : ByteArray) (x m : Bool) (pw : ByteArray) (g : Bool) : Value := .agg #[.int .i64 b, .string wh, .bool d, .string f, .bool x, .bool m, .string pw, .bool g]
def partV (p : Parts) : Value := rawV p.base ⟨p.whole.toArray⟩ p.dot ⟨p.frac.toArray⟩ p.exp (decide (p.sgn = [45])) ⟨p.pow.toArray⟩ p.big
def OfVal (o : Option Parts) (e : Ending) : Prop := match o with
  | some p => e = .returned (.tuple #[partV p, .bool true])
  | none => ∃ b wh d f x m pw g, e = .returned (.tuple #[rawV b wh d f x m pw g, .bool false])

theorem of_no {e : Ending} (b : Int) (wh : ByteArray) (d : Bool) (f : ByteArray) (x m : Bool) (pw : ByteArray) (g : Bool) (h : e = .returned (.tuple #[rawV b wh d f x m pw g, .bool false])) : OfVal none e := ⟨b, wh, d, f, x, m, pw, g, h⟩

theorem base_none (r : Nat) (t : List UInt8) (h : runI r t < 1) : baseOf r t = none := by
  unfold baseOf
  unfold runI at h
  cases hk : runL r false t with
  | none => rfl
  | some k =>
    rw [hk] at h
    have : k = 0 := by simp only [] at h; omega
    simp only []
    rw [if_pos (Or.inl this)]
theorem base_some (r : Nat) (t : List UInt8) (k : Nat) (h : runI r t = k) : runL r false t = some k := by
  unfold runI at h
  cases hk : runL r false t with
  | none => rw [hk] at h; simp only [] at h; omega
  | some j => rw [hk] at h; simp only [] at h; exact congrArg some (by omega)

set_option maxHeartbeats 4000000 in
set_option maxRecDepth 100000 in
theorem radix_no (s : ByteArray) (r : Nat) (w : World) (hs : s.size ≤ 140737488354000) (h2 : 2 ≤ s.size) (hr : r ≤ 16) (h : runI r (s.data.toList.drop 2) < 1) :
    Calls Tryz.prog 49 #[.string s, .int .i64 r] w fun e w' => OfVal none e ∧ Below w.heap.size w w' := by
  have Hrun := Lib.hid (fun W => run_any s 2 r W (by unfold maxLen; omega) h2 hr)
  generalize runI r (s.data.toList.drop 2) = i at *
  go_enter Tryz.func49, Tryz.ntmps49
  go_wp2_with fail
  refine (Hrun.out _).mono ?_
  rintro e w1 ⟨rfl, rfl⟩
  go_wp2_with fail
  refine bodyPost_ret (v := .tuple #[rawV r ⟨#[]⟩ false ⟨#[]⟩ false false ⟨#[]⟩ false, .bool false]) ?_ rfl ⟨of_no _ _ _ _ _ _ _ _ rfl, ?_⟩
  · simp [results, Tryz.results49, go_sem, rawV]
  · exact ((Below.refl _ _).alloc (Nat.le_refl _) _).alloc (by simp) _

set_option maxHeartbeats 4000000 in
set_option maxRecDepth 100000 in
theorem radix_yes (s : ByteArray) (r k : Nat) (w : World) (hs : s.size ≤ 140737488354000) (h2 : 2 ≤ s.size) (hr : r ≤ 16) (hk : 0 < k) (h : runL r false (s.data.toList.drop 2) = some k) :
    Calls Tryz.prog 49 #[.string s, .int .i64 r] w fun e w' => OfVal (baseOf r (s.data.toList.drop 2)) e ∧ Below w.heap.size w w' := by
  have hle := runL_le _ _ _ _ h
  rw [List.length_drop, ← Lib.size_eq] at hle
  have Hrun := Lib.hid (fun W => run_any s 2 r W (by unfold maxLen; omega) h2 hr)
  have Hb : Hid (baseOf r (s.data.toList.drop 2) = if bigT (s.data.toList.drop (2 + k)) = false then none else some ⟨r, (s.data.toList.drop 2).take k, false, [], false, [], [], s.data.toList.drop (2 + k) != []⟩) := Lib.hid (by
    unfold baseOf
    rw [h]
    simp only [List.drop_drop]
    by_cases hb : bigT (s.data.toList.drop (2 + k)) = false
    · rw [if_pos (Or.inr hb), if_pos hb]
    · rw [if_neg (by rintro (x | x); omega; exact hb x), if_neg hb])
  rw [show runI r (s.data.toList.drop 2) = (k : Int) from by rw [runI, h]] at Hrun
  have Hx : Hid (s.extract 2 (2 + k) = ⟨((s.data.toList.drop 2).take k).toArray⟩) := Lib.hid (by
    refine str_ext _ _ ?_
    rw [← Lib.toList_data, Lib.extract_toList, Nat.add_sub_cancel_left])
  clear h
  have hk1 : 1 ≤ k := hk
  have hle2 : 2 + k ≤ s.size := by omega
  clear hle hk
  by_cases c1 : s.size = 2 + k
  · have Hf : Hid (baseOf r (s.data.toList.drop 2) = some ⟨r, (s.data.toList.drop 2).take k, false, [], false, [], [], false⟩) := Lib.hid (by
      rw [Hb.out, List.drop_of_length_le (by rw [← Lib.size_eq]; omega)]; rfl)
    have t1 : ((s.size : Int) == 3 + (k : Int)) = false := beq_eq_false_iff_ne.2 (by omega)
    have t2 : ((s.size : Int) == 2 + (k : Int)) = true := beq_iff_eq.2 (by omega)
    clear Hb c1
    go_enter Tryz.func49, Tryz.ntmps49
    go_wp2_with fail
    refine (Hrun.out _).mono ?_
    rintro e w1 ⟨rfl, rfl⟩
    go_wp2_with fail
    rw [Hf.out]
    refine bodyPost_ret (v := .tuple #[rawV r (s.extract 2 (2 + k)) false ⟨#[]⟩ false false ⟨#[]⟩ false, .bool true]) ?_ rfl ⟨?_, ?_⟩
    · simp [results, Tryz.results49, go_sem, rawV]
    · rw [Hx.out]; rfl
    · exact ((Below.refl _ _).alloc (Nat.le_refl _) _).alloc (by simp) _
  · have hlt : 2 + k < s.size := by omega
    have hby := drop_byte s (2 + k) hlt
    by_cases c2 : s.size = 3 + k
    · have t1 : ((s.size : Int) == 3 + (k : Int)) = true := beq_iff_eq.2 (by omega)
      have t2 : ((s.size : Int) == 2 + (k : Int)) = false := beq_eq_false_iff_ne.2 (by omega)
      have hd : s.data.toList.drop (2 + k) = [s[2 + k]] := by
        rw [hby, List.drop_of_length_le (by rw [← Lib.size_eq]; omega)]
      by_cases c3 : s[2 + k] = 110
      · have t3 : (((s[2 + k]'hlt).toNat : Int) == 110) = true := by rw [t110, c3]; rfl
        have Hf : Hid (baseOf r (s.data.toList.drop 2) = some ⟨r, (s.data.toList.drop 2).take k, false, [], false, [], [], true⟩) := Lib.hid (by
          rw [Hb.out, hd, c3]; rfl)
        clear Hb c1 c2 c3 hd hby
        go_enter Tryz.func49, Tryz.ntmps49
        go_wp2_with fail
        refine (Hrun.out _).mono ?_
        rintro e w1 ⟨rfl, rfl⟩
        go_wp2_with fail
        rw [Hf.out]
        refine bodyPost_ret (v := .tuple #[rawV r (s.extract 2 (2 + k)) false ⟨#[]⟩ false false ⟨#[]⟩ true, .bool true]) ?_ rfl ⟨?_, ?_⟩
        · simp [results, Tryz.results49, go_sem, rawV]
        · rw [Hx.out]; rfl
        · exact ((Below.refl _ _).alloc (Nat.le_refl _) _).alloc (by simp) _
      · have t3 : (((s[2 + k]'hlt).toNat : Int) == 110) = false := by rw [t110]; simp [c3]
        have Hf : Hid (baseOf r (s.data.toList.drop 2) = none) := Lib.hid (by
          rw [Hb.out, hd, if_pos]; simp [bigT, c3])
        clear Hb c1 c2 c3 hd hby
        go_enter Tryz.func49, Tryz.ntmps49
        go_wp2_with fail
        refine (Hrun.out _).mono ?_
        rintro e w1 ⟨rfl, rfl⟩
        go_wp2_with fail
        rw [Hf.out]
        refine bodyPost_ret (v := .tuple #[rawV r (s.extract 2 (2 + k)) false ⟨#[]⟩ false false ⟨#[]⟩ false, .bool false]) ?_ rfl ⟨of_no _ _ _ _ _ _ _ _ rfl, ?_⟩
        · simp [results, Tryz.results49, go_sem, rawV]
        · exact ((Below.refl _ _).alloc (Nat.le_refl _) _).alloc (by simp) _
    · have t1 : ((s.size : Int) == 3 + (k : Int)) = false := beq_eq_false_iff_ne.2 (by omega)
      have t2 : ((s.size : Int) == 2 + (k : Int)) = false := beq_eq_false_iff_ne.2 (by omega)
      have Hf : Hid (baseOf r (s.data.toList.drop 2) = none) := Lib.hid (by
        rw [Hb.out, hby, drop_byte s (2 + k + 1) (by omega), if_pos]; rfl)
      clear Hb c1 c2 hby
      go_enter Tryz.func49, Tryz.ntmps49
      go_wp2_with fail
      refine (Hrun.out _).mono ?_
      rintro e w1 ⟨rfl, rfl⟩
      go_wp2_with fail
      rw [Hf.out]
      refine bodyPost_ret (v := .tuple #[rawV r (s.extract 2 (2 + k)) false ⟨#[]⟩ false false ⟨#[]⟩ false, .bool false]) ?_ rfl ⟨of_no _ _ _ _ _ _ _ _ rfl, ?_⟩
      · simp [results, Tryz.results49, go_sem, rawV]
      · exact ((Below.refl _ _).alloc (Nat.le_refl _) _).alloc (by simp) _

theorem radix_of (s : ByteArray) (r : Nat) (w : World) (hs : s.size ≤ 140737488354000) (h2 : 2 ≤ s.size) (hr : r ≤ 16) :
    Calls Tryz.prog 49 #[.string s, .int .i64 r] w fun e w' => OfVal (baseOf r (s.data.toList.drop 2)) e ∧ Below w.heap.size w w' := by
  by_cases h : runI r (s.data.toList.drop 2) < 1
  · rw [base_none r _ h]; exact radix_no s r w hs h2 hr h
  · obtain ⟨k, hk⟩ : ∃ k : Nat, runI r (s.data.toList.drop 2) = k := ⟨(runI r (s.data.toList.drop 2)).toNat, by omega⟩
    exact radix_yes s r k w hs h2 hr (by omega) (base_some r _ k hk)

end Num
end Go.Proofs.YtinjaopgnlpncaaGreatDoor
