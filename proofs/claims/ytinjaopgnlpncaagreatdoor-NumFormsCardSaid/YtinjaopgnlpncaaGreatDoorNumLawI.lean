/-
  The law 'NumForms': the program's own Check, Canon, Print are the document's.
-/
import Derived.Test.YtinjaopgnlpncaaGreatDoorNumRefCan
import Derived.Test.YtinjaopgnlpncaaGreatDoorNumLawA
namespace Go.Proofs.YtinjaopgnlpncaaGreatDoor
namespace Num
open Go.RowKit

theorem rcanon_any (s : ByteArray) (w : World) (hs : s.size ≤ 140737488354000) :
    Calls Tryz.prog 10 #[.string s] w fun e w' => e = .returned (.tuple #[.string (canonS s.data.toList), .int .i64 (okN s.data.toList)]) ∧ Below w.heap.size w w' := by
  cases hp : ofL s.data.toList with
  | none => exact rcanon_none s w hs hp
  | some p =>
    rcases parts_kind _ _ hp with d | d
    · cases hg : p.big <;> rcases d.base with hb | hb | hb
      · exact rcanon_16_false s p w hs hp d hb hg
      · exact rcanon_8_false s p w hs hp d hb hg
      · exact rcanon_2_false s p w hs hp d hb hg
      · exact rcanon_16_true s p w hs hp d hb hg
      · exact rcanon_8_true s p w hs hp d hb hg
      · exact rcanon_2_true s p w hs hp d hb hg
    · cases hg : p.big <;> cases hm : decide (p.sgn = [45])
      · exact rcanon_dec_false_false s p w hs hp d hm hg
      · exact rcanon_dec_true_false s p w hs hp d hm hg
      · exact rcanon_dec_false_true s p w hs hp d hm hg
      · exact rcanon_dec_true_true s p w hs hp d hm hg
theorem rprint_any (s : ByteArray) (w : World) (hs : s.size ≤ 140737488354000) :
    Calls Tryz.prog 11 #[.string s] w fun e w' => e = .returned (.tuple #[.string (printS s.data.toList), .int .i64 (okN s.data.toList)]) ∧ Below w.heap.size w w' := by
  cases hp : ofL s.data.toList with
  | none => exact rprint_none s w hs hp
  | some p =>
    rcases parts_kind _ _ hp with d | d
    · cases hg : p.big <;> rcases d.base with hb | hb | hb
      · exact rprint_16_false s p w hs hp d hb hg
      · exact rprint_8_false s p w hs hp d hb hg
      · exact rprint_2_false s p w hs hp d hb hg
      · exact rprint_16_true s p w hs hp d hb hg
      · exact rprint_8_true s p w hs hp d hb hg
      · exact rprint_2_true s p w hs hp d hb hg
    · by_cases hw : p.whole = []
      · exact rprint_dec_empty s p w hs hp d hw
      · exact rprint_dec_full s p w hs hp d hw

set_option maxHeartbeats 4000000 in
set_option maxRecDepth 100000 in
theorem numforms_any (s : ByteArray) (w : World) (hs : s.size ≤ 140737488353000) (ht : Tab w.heap.size w) :
    Calls Tryz.prog 3 #[.string s] w fun e w' => e = .returned (.bool true) ∧ Below w.heap.size w w' := by
  have Ht := Lib.hid ht
  clear ht
  have H1 := Lib.hid (fun W => check_any s W (by unfold maxLen; omega))
  have H2 := Lib.hid (fun W hT => canon_any s W (by omega) hT)
  have H3 := Lib.hid (fun W => print_any s W (by omega))
  have H4 := Lib.hid (fun W => rcanon_any s W (by omega))
  have H5 := Lib.hid (fun W => rprint_any s W (by omega))
  have H6 := Lib.hid (fun W => rcheck_any s W (by omega))
  generalize okN s.data.toList = c at *
  generalize canonS s.data.toList = k at *
  generalize printS s.data.toList = q at *
  go_enter Tryz.func3, Tryz.ntmps3
  go_wp2_with fail
  refine (H1.out _).mono ?_
  rintro e w1 ⟨rfl, hb1⟩
  go_wp2_with fail
  refine (H2.out _ ((Ht.out.on hb1).up hb1.size)).mono ?_
  rintro e w2 ⟨rfl, hb2⟩
  have hc2 := hb1.trans (hb2.mono hb1.size)
  go_wp2_with fail
  refine (H3.out _).mono ?_
  rintro e w3 ⟨rfl, hb3⟩
  have hc3 := hc2.trans (hb3.mono hc2.size)
  go_wp2_with fail
  refine (H4.out _).mono ?_
  rintro e w4 ⟨rfl, hb4⟩
  have hc4 := hc3.trans (hb4.mono hc3.size)
  go_wp2_with fail
  refine (H5.out _).mono ?_
  rintro e w5 ⟨rfl, hb5⟩
  have hc5 := hc4.trans (hb5.mono hc4.size)
  clear hb1 hb2 hb3 hb4 hb5 hc2 hc3 hc4
  have Hc5 := Lib.hid hc5
  clear hc5
  go_wp2_with fail
  refine (num_any _ _).mono ?_
  rintro e w6 ⟨rfl, rfl⟩
  go_wp2_with fail
  refine (H6.out _).mono ?_
  rintro e w6 ⟨rfl, hb6⟩
  have Hc6 := Lib.hid (Hc5.out.trans (hb6.mono Hc5.out.size))
  clear hb6
  go_wp2_with fail
  refine (num_any _ _).mono ?_
  rintro e w7 ⟨rfl, rfl⟩
  go_wp2_with fail
  refine (num_any _ _).mono ?_
  rintro e w7 ⟨rfl, rfl⟩
  go_wp2_with fail
  refine (awake_any _ ((Ht.out.on Hc6.out).up Hc6.out.size)).mono ?_
  rintro e w8 ⟨rfl, hb8⟩
  have Hc8 := Lib.hid (Hc6.out.trans (hb8.mono Hc6.out.size))
  clear hb8
  go_wp2_with fail
  go_ret
  exact ⟨rfl, Hc8.out⟩

end Num
end Go.Proofs.YtinjaopgnlpncaaGreatDoor
