/-
  The document's own side: is a text in a list; reserved words; levels.
-/
import Derived.Test.YtggibhlmnfodaaaWordPlain
import Derived.Test.YtggibhlmnfodaaaUniWithin
import Derived.Below
import Derived.Lib.OthersKept
namespace Go.Proofs.Ytggibhlmnfodaaa
namespace Word
open Go.RowKit
open Uni (ret_bool ret_int)

def strV (l : List UInt8) : Value := .string ⟨l.toArray⟩
theorem drop_cons {α : Type} [Inhabited α] (l : List α) (i : Nat) (h : i < l.length) (d : α) : l.drop i = l.getD i d :: l.drop (i + 1) := by
  rw [List.drop_eq_getElem_cons h]
  simp [List.getD, List.getElem?_eq_getElem h]

set_option maxHeartbeats 1000000 in
theorem has_any (x : ByteArray) (l : List (List UInt8)) (b : Nat) (w : World) (hlen : l.length ≤ 1000)
    (hc : ∀ i, i < l.length → w.cell? ⟨b, i, none⟩ = some (strV (l.getD i []))) :
    Calls Try.prog 21 #[.slice (some ⟨b, 0, none⟩) l.length l.length, .string x] w fun e w' => e = .returned (.bool (hasB l x.data.toList)) ∧ w = w' := by
  go_enter Try.func21, Try.ntmps21
  go_wp2
  go_loop [5] (fun i => ∃ k : Nat, k ≤ l.length ∧ i = .int .i64 k ∧ hasB l x.data.toList = hasB (l.drop k) x.data.toList) (fun i => l.length - (intOf i).toNat)
  case atStart => exact ⟨0, by omega, rfl, rfl⟩
  case round =>
    obtain ⟨k, hk, rfl, hs⟩ := hrel
    have Hs := Lib.hid hs; clear hs
    by_cases hlt : k < l.length
    · have h1 := hc k hlt
      have Hd := Lib.hid (drop_cons l k hlt [])
      generalize l.getD k [] = y at h1 Hd
      unfold strV at h1
      have hya : (⟨y.toArray⟩ : ByteArray).toList = y := by rw [Lib.toList_data]
      generalize (⟨y.toArray⟩ : ByteArray) = ya at h1 hya
      clear hc
      by_cases he : y = x.data.toList
      · have b1 : (ya.toList == x.toList) = true := by rw [hya, Lib.toList_data, ← he]; simp
        have Hf : Hid (hasB l x.data.toList = true) := Lib.hid (by rw [Hs.out, Hd.out, ← he]; unfold hasB; simp)
        clear he hya
        go_wp2_with fail
        go_ret
        exact ⟨ret_bool Hf.out.symm, rfl⟩
      · have b1 : (ya.toList == x.toList) = false := by
          rw [hya, Lib.toList_data]; exact beq_eq_false_iff_ne.2 (by simpa using he)
        have Hf : Hid (hasB l x.data.toList = hasB (l.drop (k + 1)) x.data.toList) := Lib.hid (by
          unfold hasB at Hs ⊢; rw [Hs.out, Hd.out, List.elem_cons, show (x.data.toList == y) = false from beq_eq_false_iff_ne.2 (fun h => he h.symm)])
        clear he hya
        go_wp2_with fail
        go_round
        case rel => exact ⟨k + 1, by omega, by go_num, Hf.out⟩
        case measure => simp [intOf]; omega
    · have Hf : Hid (hasB l x.data.toList = false) := Lib.hid (by rw [Hs.out, List.drop_eq_nil_of_le (by omega)]; rfl)
      go_wp2_with fail
      go_ret
      exact ⟨ret_bool Hf.out.symm, rfl⟩

theorem built_str (w : World) (l : List (List UInt8)) (t : TypeId) (i : Nat) (h : i < l.length) :
    (w.alloc (.cells (l.map strV).toArray t)).cell? ⟨w.heap.size, i, none⟩ = some (strV (l.getD i [])) := by
  rw [World.cell?_alloc_at _ _ _ _ rfl]
  simp [h, List.getD]
theorem has_built (x : ByteArray) (l : List (List UInt8)) (w : World) (hlen : l.length ≤ 1000) :
    Calls Try.prog 21 #[.slice (some ⟨w.heap.size, 0, none⟩) l.length l.length, .string x] (w.alloc (.cells (l.map strV).toArray 9)) fun e w' => e = .returned (.bool (hasB l x.data.toList)) ∧ Below w.heap.size w w' :=
  (has_any x l w.heap.size _ hlen (fun i hi => built_str w l _ i hi)).mono fun _ _ ⟨he, hw⟩ => ⟨he, hw ▸ (Below.refl _ _).alloc (Nat.le_refl _) _⟩

set_option maxHeartbeats 1000000 in
theorem rreserved_any (s : ByteArray) (m : Bool) (w : World) :
    Calls Try.prog 9 #[.string s, .bool m] w fun e w' => e = .returned (.bool (resB s m)) ∧ Below w.heap.size w w' := by
  by_cases e0 : s.toList = [97, 119, 97, 105, 116]
  · obtain rfl := of_toList e0
    clear e0
    cases m with
    | true =>
      go_enter Try.func9, Try.ntmps9
      go_wp2_with fail
      go_ret
      exact ⟨rfl, Below.refl _ _⟩
    | false =>
      go_enter Try.func9, Try.ntmps9
      go_wp2_with fail
      refine (has_built _ resL w (by decide)).mono ?_
      rintro e w1 ⟨rfl, hb⟩
      go_wp2_with fail
      go_ret
      exact ⟨ret_bool (by decide), hb⟩
  · have b0 : (s.toList == [97, 119, 97, 105, 116]) = false := beq_eq_false_iff_ne.2 e0
    have Hf : Hid (resB s m = hasB resL s.data.toList) := Lib.hid (by unfold resB; rw [← Lib.toList_data, if_neg (show ¬ s.toList = awaitL from e0)])
    clear e0
    cases m
    all_goals
      go_enter Try.func9, Try.ntmps9
      go_wp2_with fail
      refine (has_built s resL w (by decide)).mono ?_
      rintro e w1 ⟨rfl, hb⟩
      go_wp2_with fail
      go_ret
      exact ⟨ret_bool Hf.out.symm, hb⟩

end Word
end Go.Proofs.Ytggibhlmnfodaaa
