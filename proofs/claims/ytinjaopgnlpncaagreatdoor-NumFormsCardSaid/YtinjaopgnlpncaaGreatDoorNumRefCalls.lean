/-
  The document's own Check; its Canon and Print where the text is no literal.
-/
import Derived.Test.YtinjaopgnlpncaaGreatDoorNumOfB
import Derived.Test.YtinjaopgnlpncaaGreatDoorNumCalls
import Derived.Test.YtinjaopgnlpncaaGreatDoorNumDecimal
namespace Go.Proofs.YtinjaopgnlpncaaGreatDoor
namespace Num
open Go.RowKit

theorem of_any (s : ByteArray) (w : World) (hs : s.size ≤ 140737488354000) :
    Calls Tryz.prog 24 #[.string s] w fun e w' => OfVal (ofL s.data.toList) e ∧ Below w.heap.size w w' := by
  by_cases hp : ∃ h : 1 < s.size, s[0] = 48 ∧ radN (lowN s[1]) ≠ 0
  · obtain ⟨h1, h0, hr⟩ := hp
    have hm : ∃ r, markOf s[1] r := by
      by_cases e1 : s[1] = 120
      · exact ⟨16, Or.inl ⟨rfl, Or.inl e1⟩⟩
      by_cases e2 : s[1] = 88
      · exact ⟨16, Or.inl ⟨rfl, Or.inr e2⟩⟩
      by_cases e3 : s[1] = 111
      · exact ⟨8, Or.inr (Or.inl ⟨rfl, Or.inl e3⟩)⟩
      by_cases e4 : s[1] = 79
      · exact ⟨8, Or.inr (Or.inl ⟨rfl, Or.inr e4⟩)⟩
      by_cases e5 : s[1] = 98
      · exact ⟨2, Or.inr (Or.inr ⟨rfl, Or.inl e5⟩)⟩
      by_cases e6 : s[1] = 66
      · exact ⟨2, Or.inr (Or.inr ⟨rfl, Or.inr e6⟩)⟩
      exact absurd (mark_no _ e1 e2 e3 e4 e5 e6) hr
    obtain ⟨r, hm⟩ := hm
    exact of_mark_any s w hs h1 h0 r hm
  · rw [ofL_decs s hp]; exact of_dec_any s w hs hp

set_option maxHeartbeats 2000000 in
theorem rcheck_any (s : ByteArray) (w : World) (hs : s.size ≤ 140737488354000) :
    Calls Tryz.prog 13 #[.string s] w fun e w' => e = .returned (.int .i64 (okN s.data.toList)) ∧ Below w.heap.size w w' := by
  have H := Lib.hid (of_any s w hs)
  have Hok : Hid (okN s.data.toList = if (ofL s.data.toList).isSome then 0 else 200) := Lib.hid rfl
  cases ho : ofL s.data.toList with
  | some p =>
    rw [ho] at H Hok
    clear ho
    go_enter Tryz.func13, Tryz.ntmps13
    go_wp2_with fail
    refine H.out.mono ?_
    rintro e w1 ⟨hv, hb1⟩
    obtain rfl := (show e = .returned (.tuple #[partV p, .bool true]) from hv)
    clear hv
    unfold partV rawV
    go_wp2_with fail
    go_ret
    exact ⟨ret_int (by rw [Hok.out]; rfl), hb1.alloc hb1.size _⟩
  | none =>
    rw [ho] at H Hok
    clear ho
    go_enter Tryz.func13, Tryz.ntmps13
    go_wp2_with fail
    refine H.out.mono ?_
    rintro e w1 ⟨⟨b, wh, d, f, x, m, pw, g, rfl⟩, hb1⟩
    unfold rawV
    go_wp2_with fail
    go_ret
    exact ⟨ret_int (by rw [Hok.out]; rfl), hb1.alloc hb1.size _⟩

set_option maxHeartbeats 2000000 in
theorem rcanon_none (s : ByteArray) (w : World) (hs : s.size ≤ 140737488354000) (ho : ofL s.data.toList = none) :
    Calls Tryz.prog 10 #[.string s] w fun e w' => e = .returned (.tuple #[.string (canonS s.data.toList), .int .i64 (okN s.data.toList)]) ∧ Below w.heap.size w w' := by
  have H := Lib.hid (of_any s w hs)
  have Hc := Lib.hid (code_none _ ho)
  rw [ho] at H
  clear ho
  go_enter Tryz.func10, Tryz.ntmps10
  go_wp2_with fail
  refine H.out.mono ?_
  rintro e w1 ⟨⟨b, wh, d, f, x, m, pw, g, rfl⟩, hb1⟩
  unfold rawV
  go_wp2_with fail
  go_ret2
  exact ⟨ret_str (by rw [Hc.out.1]) (by rw [Hc.out.2.2]), hb1.alloc hb1.size _⟩

set_option maxHeartbeats 2000000 in
theorem rprint_none (s : ByteArray) (w : World) (hs : s.size ≤ 140737488354000) (ho : ofL s.data.toList = none) :
    Calls Tryz.prog 11 #[.string s] w fun e w' => e = .returned (.tuple #[.string (printS s.data.toList), .int .i64 (okN s.data.toList)]) ∧ Below w.heap.size w w' := by
  have H := Lib.hid (of_any s w hs)
  have Hc := Lib.hid (code_none _ ho)
  rw [ho] at H
  clear ho
  go_enter Tryz.func11, Tryz.ntmps11
  go_wp2_with fail
  refine H.out.mono ?_
  rintro e w1 ⟨⟨b, wh, d, f, x, m, pw, g, rfl⟩, hb1⟩
  unfold rawV
  go_wp2_with fail
  go_ret2
  exact ⟨ret_str (by rw [Hc.out.2.1]) (by rw [Hc.out.2.2]), hb1.alloc hb1.size _⟩

end Num
end Go.Proofs.YtinjaopgnlpncaaGreatDoor
