/-
  The walk of the law StrQuotes.
-/
import Derived.Test.YtddldddehgnobaaDoorStrRefQuo
import Derived.Test.YtddldddehgnobaaDoorStrRefQuw
import Derived.Test.YtddldddehgnobaaDoorStrLawA
namespace Go.Proofs.YtddldddehgnobaaDoor
namespace Str
open Go.RowKit

theorem rquote_any (s : ByteArray) (single : Bool) (w : World) (hz : s.size ≤ 16777216) : Calls Tryd.prog 19 #[.string s, .bool single] w (QuoteR s single w) := by
  cases single
  · exact rquote_34 s w hz
  · exact rquote_39 s w hz

set_option maxHeartbeats 2000000 in
set_option maxRecDepth 20000 in
theorem quotes_law (s : ByteArray) (single : Bool) (w : World) (hz : s.size ≤ 16777216) (hT : Tabs w) :
    Calls Tryd.prog 5 #[.string s, .bool single] w fun e w' => e = .returned (.bool true) ∧ Below w.heap.size w w' := by
  have HC := Lib.hid (quote_any s single w hz hT)
  have HR := Lib.hid (fun W => rquote_any s single W hz)
  have HT := Lib.hid hT
  have h2 : 2 ≤ w.heap.size := hT.1
  clear hT
  unfold QuoteR at HC HR
  obtain ⟨p, hp⟩ : ∃ p : ByteArray, (⟨(quoteL single s.data.toList).toArray⟩ : ByteArray) = p := ⟨_, rfl⟩
  obtain ⟨c, hc⟩ : ∃ c, codeL (litL s.data.toList) = c := ⟨_, rfl⟩
  rw [hp, hc] at HC HR
  clear hp hc
  go_enter Tryd.func5, Tryd.ntmps5
  go_wp2_with fail
  refine HC.out.mono ?_
  rintro e w1 ⟨rfl, hb1⟩
  have HB1 := Lib.hid hb1
  clear hb1
  go_wp2_with fail
  refine (HR.out _).mono ?_
  rintro e w2 ⟨rfl, hb2⟩
  have HB2 := Lib.hid (HB1.out.trans (hb2.mono HB1.out.size))
  clear hb2
  go_wp2_with fail
  refine (num_any c w2).mono ?_
  rintro e w3 ⟨rfl, rfl⟩
  go_wp2_with fail
  refine (awake_any w2 (HT.out.below HB2.out h2)).mono ?_
  rintro e w3 ⟨rfl, hb3⟩
  go_wp2_with fail
  go_ret
  exact ⟨rfl, HB2.out.trans (hb3.mono HB2.out.size)⟩

end Str
end Go.Proofs.YtddldddehgnobaaDoor
