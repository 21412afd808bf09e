/-
  The contract of the laws' own first question; the law 'NumPrints': what is printed is the same number, and printed again the same text.
-/
import Derived.Test.YtinjaopgnlpncaaGreatDoorNumCalls
import Derived.Test.YtinjaopgnlpncaaGreatDoorNumBack
namespace Go.Proofs.YtinjaopgnlpncaaGreatDoor
namespace Num
open Go.RowKit

theorem num_any (n : Int) (w : World) : Calls Tryz.prog 12 #[.int .i64 n] w fun e w' => e = .returned (.int .i64 n) ∧ w = w' := by
  go_enter Tryz.func12, Tryz.ntmps12
  go_wp2
  go_ret
  exact ⟨rfl, rfl⟩

def awA : List UInt8 := [49, 95, 48, 48, 48, 46, 53, 48]
def awB : List UInt8 := [46, 53, 69, 43, 49, 48]
def awC : List UInt8 := [48, 95, 49]
theorem itoa_m1 : Lib.itoa (-1) = [45, 49] := by
  rw [show (-1 : Int) = -((1 : Nat) : Int) from rfl, Lib.itoa_neg 1 (by decide), Lib.decDigits_one (by decide)]
  rfl
theorem awA_is : canonS awA = ⟨#[49, 48, 48, 48, 53, 101, 45, 49]⟩ ∧ okN awA = 0 := by
  have h : ofL awA = some ⟨10, [49, 95, 48, 48, 48], true, [53, 48], false, [], [], false⟩ := by decide
  have hn : normDec [49, 48, 48, 48, 53, 48] 2 0 = [49, 48, 48, 48, 53, 101, 45, 49] := by
    have e1 : trimZ [49, 48, 48, 48, 53, 48] = [49, 48, 48, 48, 53] := by decide
    have e2 : aheadL [49, 48, 48, 48, 53] = [49, 48, 48, 48, 53] := by decide
    have e3 : ((0 : Int) - ((2 : Nat) : Int) + ((([49, 48, 48, 48, 53, 48] : List UInt8).length : Int) - (([49, 48, 48, 48, 53] : List UInt8).length : Int))) = -1 := by decide
    rw [normDec, e1, e2, if_neg (by decide), e3, itoa_m1]
    rfl
  have hc : canonL ⟨10, [49, 95, 48, 48, 48], true, [53, 48], false, [], [], false⟩ = [49, 48, 48, 48, 53, 101, 45, 49] := by
    rw [canonL, if_pos rfl]
    have e4 : collectL [49, 95, 48, 48, 48] ++ collectL [53, 48] = [49, 48, 48, 48, 53, 48] := by decide
    have e5 : (collectL [53, 48]).length = 2 := by decide
    have e6 : powI ⟨10, [49, 95, 48, 48, 48], true, [53, 48], false, [], [], false⟩ = 0 := by decide
    show normDec (collectL [49, 95, 48, 48, 48] ++ collectL [53, 48]) (collectL [53, 48]).length (powI ⟨10, [49, 95, 48, 48, 48], true, [53, 48], false, [], [], false⟩) ++ nT false = _
    rw [e4, e5, e6, hn]
    rfl
  rw [canonS, okN, h]
  exact ⟨by show (⟨(canonL _).toArray⟩ : ByteArray) = _; rw [hc], rfl⟩
theorem awB_is : printS awB = ⟨#[48, 46, 53, 101, 49, 48]⟩ ∧ okN awB = 0 := by
  have h : ofL awB = some ⟨10, [], true, [53], true, [43], [49, 48], false⟩ := by decide
  rw [printS, okN, h]
  exact ⟨rfl, rfl⟩
theorem awC_is : okN awC = 200 := by
  have h : ofL awC = none := by decide
  rw [okN, h]; rfl

set_option maxHeartbeats 2000000 in
theorem awake_any (w : World) (ht : Tab w.heap.size w) :
    Calls Tryz.prog 14 #[] w fun e w' => e = .returned (.bool true) ∧ Below w.heap.size w w' := by
  have Ha := Lib.hid (canon_any ⟨awA.toArray⟩ w (by decide) ht)
  have Hb := Lib.hid (fun W => print_any ⟨awB.toArray⟩ W (by decide))
  have Hc := Lib.hid (fun W => check_any ⟨awC.toArray⟩ W (by decide))
  rw [show (⟨awA.toArray⟩ : ByteArray).data.toList = awA from rfl, awA_is.1, awA_is.2] at Ha
  rw [show (⟨awB.toArray⟩ : ByteArray).data.toList = awB from rfl, awB_is.1, awB_is.2] at Hb
  rw [show (⟨awC.toArray⟩ : ByteArray).data.toList = awC from rfl, awC_is] at Hc
  clear ht
  unfold awA at Ha
  unfold awB at Hb
  unfold awC at Hc
  go_enter Tryz.func14, Tryz.ntmps14
  go_wp2_with fail
  refine Ha.out.mono ?_
  rintro e w1 ⟨rfl, hb1⟩
  go_wp2_with fail
  refine (Hb.out _).mono ?_
  rintro e w2 ⟨rfl, hb2⟩
  have hc2 := hb1.trans (hb2.mono hb1.size)
  go_wp2_with fail
  refine (Hc.out _).mono ?_
  rintro e w3 ⟨rfl, hb3⟩
  have hc3 := hc2.trans (hb3.mono hc2.size)
  go_wp2_with fail
  refine (num_any _ _).mono ?_
  rintro e w4 ⟨rfl, rfl⟩
  go_wp2_with fail
  refine (num_any _ _).mono ?_
  rintro e w4 ⟨rfl, rfl⟩
  go_wp2_with fail
  refine (num_any _ _).mono ?_
  rintro e w4 ⟨rfl, rfl⟩
  go_wp2_with fail
  go_ret
  exact ⟨rfl, hc3⟩

set_option maxHeartbeats 2000000 in
set_option maxRecDepth 100000 in
theorem numprints_any (s : ByteArray) (w : World) (hs : s.size ≤ 140737488353000) (ht : Tab w.heap.size w) :
    Calls Tryz.prog 4 #[.string s] w fun e w' => e = .returned (.bool true) ∧ Below w.heap.size w w' := by
  have Ht := Lib.hid ht
  clear ht
  cases hp : ofL s.data.toList with
  | none =>
    have Hf := Lib.hid (code_none _ hp)
    clear hp
    go_enter Tryz.func4, Tryz.ntmps4
    go_wp2_with fail
    refine (awake_any _ Ht.out).mono ?_
    rintro e w1 ⟨rfl, hb1⟩
    have Ht1 := Lib.hid ((Ht.out.on hb1).up hb1.size)
    go_wp2_with fail
    refine (canon_any s _ (by omega) Ht1.out).mono ?_
    rintro e w2 ⟨rfl, hb2⟩
    have hc2 := hb1.trans (hb2.mono hb1.size)
    rw [Hf.out.1, Hf.out.2.2]
    go_wp2_with fail
    refine (print_any s _ (by omega)).mono ?_
    rintro e w3 ⟨rfl, hb3⟩
    have hc3 := hc2.trans (hb3.mono hc2.size)
    rw [Hf.out.2.1, Hf.out.2.2]
    go_wp2_with fail
    refine (num_any _ _).mono ?_
    rintro e w4 ⟨rfl, rfl⟩
    go_wp2_with fail
    refine (num_any _ _).mono ?_
    rintro e w4 ⟨rfl, rfl⟩
    go_wp2_with fail
    go_ret
    exact ⟨rfl, hc3⟩
  | some p =>
    obtain ⟨⟨q, q1, q2, q3⟩, hlen⟩ := back_any _ p hp
    obtain ⟨a, ha⟩ : ∃ a : ByteArray, (⟨(canonL p).toArray⟩ : ByteArray) = a := ⟨_, rfl⟩
    obtain ⟨b, hb⟩ : ∃ b : ByteArray, (⟨(printL p).toArray⟩ : ByteArray) = b := ⟨_, rfl⟩
    have hbl : b.data.toList = printL p := by rw [← hb]
    have hbs : b.size ≤ s.size + 1 := by rw [← hb, size_of, Lib.size_eq s]; exact hlen
    have H1 : Hid (canonS s.data.toList = a ∧ printS s.data.toList = b ∧ okN s.data.toList = 0) := Lib.hid (by
      rw [canonS, printS, okN, hp]; exact ⟨ha, hb, rfl⟩)
    have H2 : Hid (canonS b.data.toList = a ∧ printS b.data.toList = b ∧ okN b.data.toList = 0) := Lib.hid (by
      rw [canonS, printS, okN, hbl, q1]; exact ⟨by rw [← ha]; show (⟨(canonL q).toArray⟩ : ByteArray) = _; rw [q2], by rw [← hb]; show (⟨(printL q).toArray⟩ : ByteArray) = _; rw [q3], rfl⟩)
    have hbi : (b.size : Int) ≤ (s.size : Int) + 1 := by omega
    clear hp q1 q2 q3 hlen ha hb hbl
    go_enter Tryz.func4, Tryz.ntmps4
    go_wp2_with fail
    refine (awake_any _ Ht.out).mono ?_
    rintro e w1 ⟨rfl, hb1⟩
    have Ht1 := Lib.hid ((Ht.out.on hb1).up hb1.size)
    go_wp2_with fail
    refine (canon_any s _ (by omega) Ht1.out).mono ?_
    rintro e w2 ⟨rfl, hb2⟩
    have hc2 := hb1.trans (hb2.mono hb1.size)
    rw [H1.out.1, H1.out.2.2]
    go_wp2_with fail
    refine (print_any s _ (by omega)).mono ?_
    rintro e w3 ⟨rfl, hb3⟩
    have hc3 := hc2.trans (hb3.mono hc2.size)
    have Ht3 := Lib.hid ((Ht.out.on hc3).up hc3.size)
    rw [H1.out.2.1, H1.out.2.2]
    go_wp2_with fail
    refine (num_any _ _).mono ?_
    rintro e w4 ⟨rfl, rfl⟩
    go_wp2_with fail
    refine (canon_any b _ (by omega) Ht3.out).mono ?_
    rintro e w4 ⟨rfl, hb4⟩
    have hc4 := hc3.trans (hb4.mono hc3.size)
    rw [H2.out.1, H2.out.2.2]
    go_wp2_with fail
    refine (print_any b _ (by omega)).mono ?_
    rintro e w5 ⟨rfl, hb5⟩
    have hc5 := hc4.trans (hb5.mono hc4.size)
    rw [H2.out.2.1, H2.out.2.2]
    go_wp2_with fail
    refine (num_any _ _).mono ?_
    rintro e w6 ⟨rfl, rfl⟩
    go_wp2_with fail
    refine (num_any _ _).mono ?_
    rintro e w6 ⟨rfl, rfl⟩
    go_wp2_with fail
    refine (num_any _ _).mono ?_
    rintro e w6 ⟨rfl, rfl⟩
    go_wp2_with fail
    go_ret
    exact ⟨rfl, hc5⟩

end Num
end Go.Proofs.YtinjaopgnlpncaaGreatDoor
