/-
  The law 'NumOthers': two numbers have one form just if they are one number of one kind.
-/
import Derived.Test.YtinjaopgnlpncaaGreatDoorNumLawE
import Derived.Test.YtinjaopgnlpncaaGreatDoorNumLawC
namespace Go.Proofs.YtinjaopgnlpncaaGreatDoor
namespace Num
open Go.RowKit

def formD (d x : List UInt8) (k : Nat) : List UInt8 :=
  match k with
  | 0 => d
  | 1 => d ++ [46, 48]
  | 2 => d ++ [48, 101, 45, 49]
  | 3 => 48 :: 120 :: x
  | _ => d ++ [110]

set_option maxHeartbeats 4000000 in
set_option maxRecDepth 100000 in
theorem forms_any (v i : Nat) (y k : Int) (w : World) (hy : y = v) (h0 : v ≠ 0) (hv : v < 65) (hi : i < 5) (hk : (IntKind.u64.wrap k).tmod 5 = i) :
    Calls Tryz.prog 16 #[.int .i64 y, .int .i64 k] w fun e w' => e = .returned (.string ⟨(formL v i).toArray⟩) ∧ Below w.heap.size w w' := by
  subst hy
  obtain ⟨d, hd⟩ : ∃ d : ByteArray, (⟨(digsL 10 7 v).toArray⟩ : ByteArray) = d := ⟨_, rfl⟩
  obtain ⟨x, hx⟩ : ∃ x : ByteArray, (⟨(digsL 16 7 v).toArray⟩ : ByteArray) = x := ⟨_, rfl⟩
  have hdl : d.data.toList = digsL 10 7 v := by rw [← hd]
  have hxl : x.data.toList = digsL 16 7 v := by rw [← hx]
  have hds : d.size ≤ 7 := by rw [Lib.size_eq, hdl]; exact digs_len _ _ _
  have hxs : x.size ≤ 7 := by rw [Lib.size_eq, hxl]; exact digs_len _ _ _
  have H := Lib.hid (fun W => digits_of 7 v 10 v 10 W rfl rfl (by decide) (by omega) h0 (by decide) (by decide))
  have HX := Lib.hid (fun W => digits_of 7 v 16 v 16 W rfl rfl (by decide) (by omega) h0 (by decide) (by decide))
  rw [hd] at H
  rw [hx] at HX
  have Hf : Hid (formL v i = formD d.data.toList x.data.toList i) := Lib.hid (by rw [hdl, hxl]; rfl)
  clear hd hx hdl hxl h0 hv
  go_enter Tryz.func16, Tryz.ntmps16
  go_wp2_with fail
  refine (H.out _).mono ?_
  rintro e w1 ⟨rfl, hb1⟩
  go_wp2_with fail
  refine (H.out _).mono ?_
  rintro e w2 ⟨rfl, hb2⟩
  have hc2 := hb1.trans (hb2.mono hb1.size)
  go_wp2_with fail
  refine (H.out _).mono ?_
  rintro e w3 ⟨rfl, hb3⟩
  have hc3 := hc2.trans (hb3.mono hc2.size)
  go_wp2_with fail
  refine (HX.out _).mono ?_
  rintro e w4 ⟨rfl, hb4⟩
  have hc4 := hc3.trans (hb4.mono hc3.size)
  go_wp2_with fail
  refine (H.out _).mono ?_
  rintro e w5 ⟨rfl, hb5⟩
  have hc5 := hc4.trans (hb5.mono hc4.size)
  clear hb1 hb2 hb3 hb4 hb5 hc2 hc3 hc4
  rcases (show i = 0 ∨ i = 1 ∨ i = 2 ∨ i = 3 ∨ i = 4 by omega) with rfl | rfl | rfl | rfl | rfl
  · have hk : (IntKind.u64.wrap k).tmod 5 = 0 := hk
    go_wp2_with fail
    go_ret
    exact ⟨congrArg _ (congrArg _ (str_eq _ _ (by rw [Hf.out]; rfl))), hc5.alloc hc5.size _⟩
  · have hk : (IntKind.u64.wrap k).tmod 5 = 1 := hk
    go_wp2_with fail
    go_ret
    exact ⟨congrArg _ (congrArg _ (str_eq _ _ (by rw [Hf.out]; simp [formD]))), hc5.alloc hc5.size _⟩
  · have hk : (IntKind.u64.wrap k).tmod 5 = 2 := hk
    go_wp2_with fail
    go_ret
    exact ⟨congrArg _ (congrArg _ (str_eq _ _ (by rw [Hf.out]; simp [formD]))), hc5.alloc hc5.size _⟩
  · have hk : (IntKind.u64.wrap k).tmod 5 = 3 := hk
    go_wp2_with fail
    go_ret
    exact ⟨congrArg _ (congrArg _ (str_eq _ _ (by rw [Hf.out]; simp [formD]))), hc5.alloc hc5.size _⟩
  · have hk : (IntKind.u64.wrap k).tmod 5 = 4 := hk
    go_wp2_with fail
    go_ret
    exact ⟨congrArg _ (congrArg _ (str_eq _ _ (by rw [Hf.out]; simp [formD]))), hc5.alloc hc5.size _⟩

theorem kind_any (i : Nat) (w : World) (hi : i < 5) :
    Calls Tryz.prog 17 #[.int .u64 i] w fun e w' => e = .returned (.int .u64 (max i 2 : Nat)) ∧ w = w' := by
  go_enter Tryz.func17, Tryz.ntmps17
  go_wp2_with fail
  go_ret
  exact ⟨congrArg _ (congrArg _ (show (max (i : Int) 2) = ((max i 2 : Nat) : Int) by omega)), rfl⟩

end Num
end Go.Proofs.YtinjaopgnlpncaaGreatDoor
