/-
  The law 'LexNames'.
-/
import Derived.Test.YtggibhlmnfodaaaDoorLexNamT
import Derived.Test.YtggibhlmnfodaaaDoorLexWord
namespace Go.Proofs.YtggibhlmnfodaaaDoor
namespace Lex
open Go.RowKit
open Str (lenL runeL)

theorem app_list (a b : ByteArray) : (a ++ b).data.toList = a.data.toList ++ b.data.toList := by simp
theorem app_size (a b : ByteArray) : (a ++ b).size = a.size + b.size := by simp

set_option maxHeartbeats 4000000 in
set_option maxRecDepth 20000 in
theorem law_names (s : ByteArray) (W : World) (hs : s.size ≤ 1048576) (hT : Tabs W.heap.size W) :
    Calls Tryd.prog 3 #[.string s] W fun e w' => e = .returned (.bool true) ∧ Below W.heap.size W w' := by
  have HT := Lib.hid hT
  have hm : s.size ≤ maxLen := by unfold maxLen; omega
  obtain ⟨U, hU⟩ : ∃ U, (⟨#[35]⟩ ++ s : ByteArray) = U := ⟨_, rfl⟩
  obtain ⟨V, hV⟩ : ∃ V, (s ++ ⟨#[45, 120, 45]⟩ : ByteArray) = V := ⟨_, rfl⟩
  have uz : U.size ≤ 4194304 := by rw [← hU, app_size]; show 1 + s.size ≤ _; omega
  have vz : V.size ≤ 4194304 := by rw [← hV, app_size]; show s.size + 3 ≤ _; omega
  have O1 := Lib.hid (only_name s 1 (Or.inl rfl))
  have O2 := Lib.hid (only_name s 2 (Or.inr rfl))
  have OU := Lib.hid (only_priv s U (by rw [← hU, app_list]; rfl))
  have O5 := Lib.hid (only_tag s s [] (by decide) (by rw [List.append_nil]))
  have OV := Lib.hid (only_tag s V [45, 120, 45] dashes (by rw [← hV, app_list]))
  have A1 := Lib.hid (answer_zero s 1 rfl)
  have A2 := Lib.hid (answer_zero s 2 rfl)
  have AU := Lib.hid (answer_zero U 1 rfl)
  have A5 := Lib.hid (answer_zero s 5 rfl)
  have AV := Lib.hid (answer_zero V 5 rfl)
  have HU := Lib.hid hU
  have HV := Lib.hid hV
  have UZ := Lib.hid uz
  have VZ := Lib.hid vz
  obtain ⟨b, hb⟩ : ∃ b, Word.nameB s = b := ⟨_, rfl⟩
  rw [hb] at O1 O2 OU
  have Hb := Lib.hid hb
  clear hb hT hU hV uz vz
  go_enter Tryd.func3, Tryd.ntmps3
  go_wp2_with fail
  refine (awake_any _ HT.out).mono ?_
  rintro e w1 ⟨rfl, hb1⟩
  have HT1 := Lib.hid (HT.out.below hb1)
  have HB1 := Lib.hid hb1
  clear hb1
  go_wp2_with fail
  refine (Word.name_any s w1 hm).mono ?_
  rintro e w2 ⟨rfl, hb2⟩
  rw [Hb.out]
  have HT2 := Lib.hid (HT1.out.below hb2)
  have HB2 := Lib.hid (bel_trans HB1.out hb2)
  clear hb2
  go_wp2_with fail
  rw [HU.out]
  refine (only_any U 1 2 _ AU.out _ OU.out _ UZ.out HT2.out).mono ?_
  rintro e w3 ⟨rfl, hb3⟩
  have HT3 := Lib.hid (HT2.out.below hb3)
  have HB3 := Lib.hid (bel_trans HB2.out hb3)
  clear hb3
  cases b with
  | true =>
    go_wp2_with fail
    refine (only_any s 1 1 _ A1.out _ O1.out _ (by omega) HT3.out).mono ?_
    rintro e w4 ⟨rfl, hb4⟩
    have HT4 := Lib.hid (HT3.out.below hb4)
    have HB4 := Lib.hid (bel_trans HB3.out hb4)
    clear hb4
    go_wp2_with fail
    refine (only_any s 2 1 _ A2.out _ O2.out _ (by omega) HT4.out).mono ?_
    rintro e w5 ⟨rfl, hb5⟩
    have HT5 := Lib.hid (HT4.out.below hb5)
    have HB5 := Lib.hid (bel_trans HB4.out hb5)
    clear hb5
    go_wp2_with fail
    refine (only_any s 5 1 _ A5.out _ (O5.out Hb.out) _ (by omega) HT5.out).mono ?_
    rintro e w6 ⟨rfl, hb6⟩
    have HT6 := Lib.hid (HT5.out.below hb6)
    have HB6 := Lib.hid (bel_trans HB5.out hb6)
    clear hb6
    go_wp2_with fail
    rw [HV.out]
    refine (only_any V 5 1 _ AV.out _ (OV.out Hb.out) _ VZ.out HT6.out).mono ?_
    rintro e w7 ⟨rfl, hb7⟩
    go_wp2_with fail
    go_ret
    exact ⟨rfl, bel_trans HB6.out hb7⟩
  | false =>
    go_wp2_with fail
    refine (only_any s 1 1 _ A1.out _ O1.out _ (by omega) HT3.out).mono ?_
    rintro e w4 ⟨rfl, hb4⟩
    have HT4 := Lib.hid (HT3.out.below hb4)
    have HB4 := Lib.hid (bel_trans HB3.out hb4)
    clear hb4
    go_wp2_with fail
    refine (only_any s 2 1 _ A2.out _ O2.out _ (by omega) HT4.out).mono ?_
    rintro e w5 ⟨rfl, hb5⟩
    go_wp2_with fail
    go_ret
    exact ⟨rfl, bel_trans HB4.out hb5⟩

end Lex
end Go.Proofs.YtggibhlmnfodaaaDoor
