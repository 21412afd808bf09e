/-
  The laws on words and on what is shown.
-/
import Derived.Test.YtcalgpkcefccmaaDoorJsxAwake
import Derived.Test.YtcalgpkcefccmaaDoorJsxRefS
namespace Go.Proofs.YtcalgpkcefccmaaDoor
namespace Jsx
open Go.RowKit

theorem bel_trans' {w w' w'' : World} (h : Below w.heap.size w w') (k : Below w'.heap.size w' w'') : Below w.heap.size w w'' := h.trans (k.mono h.size)
theorem bel_grown {w v u : World} {A : Nat} (h : Below w.heap.size w v) (hg : v.grownBy u (some A)) (hA : w.heap.size ≤ A) : Below w.heap.size w u := h.grown hg h.size (fun g e => by cases e; exact hA)

theorem row_block {B A n c : Nat} {xs : List (List UInt8)} {w : World} (h : Texts B (.slice (some ⟨A, 0, none⟩) n c) xs w) : A < w.heap.size := by
  rcases h.2 with ⟨h0, _⟩ | ⟨g, cap, cur, h1, _, h3, _⟩
  · cases h0
  · simp only [Value.slice.injEq, Option.some.injEq, Addr.mk.injEq] at h1
    obtain ⟨⟨rfl, _⟩, _⟩ := h1
    exact block_lt h3
theorem texts_spoiled {B A : Nat} {v : Value} {xs : List (List UInt8)} {w w' : World} (h : Texts B v xs w) (hg : w.grownBy w' (some A)) (hne : v.ownBlock ≠ some A) : Texts B v xs w' := World.ownsRow.kept h hg (Or.inr hne)
theorem row_from {B : Nat} {v : Value} {xs : List (List UInt8)} {w : World} (h : Texts B v xs w) : ∀ k, v.ownBlock = some k → B ≤ k := fun k hk => (World.ownsRow.lt h k hk).1

set_option maxHeartbeats 2000000 in
set_option maxRecDepth 20000 in
theorem law_shows (s : ByteArray) (W : World) (hs : s.size ≤ 1048576) (_hT : True) :
    Calls Tryd.prog 4 #[.string s] W fun e w' => e = .returned (.bool true) ∧ Below W.heap.size W w' := by
  have hn : (wordsF [] s.data.toList).length ≤ 4294967296 := by have := words_count s.data.toList []; rw [list_size] at this; omega
  have hall : ∀ x ∈ wordsF [] s.data.toList, x.length ≤ 4294967296 := fun x hx => by have := words_len s.data.toList [] x hx; rw [list_size] at this; simp only [List.length_nil] at this; omega
  have hw4 : s.size ≤ 4294967296 := by omega
  have hw2 : s.size ≤ 2097152 := by omega
  have HN := Lib.hid hn
  have HA := Lib.hid hall
  clear hn hall
  go_enter Tryd.func4, Tryd.ntmps4
  go_wp2_with fail
  refine (words_any s _ hw4).mono ?_
  rintro e w1 ⟨A, rfl, hA, hta, hb1⟩
  have Hta := Lib.hid hta
  clear hta
  go_wp2_with fail
  refine (words_any s _ hw4).mono ?_
  rintro e w2 ⟨B, rfl, hB, htb, hb2⟩
  have Hta2 := Lib.hid (texts_later Hta.out hb2)
  have Htb := Lib.hid htb
  clear htb
  go_wp2_with fail
  refine (rwords_any s _ hw4).mono ?_
  rintro e w3 ⟨u, rfl, htu, hb3⟩
  have Hta3 := Lib.hid (texts_later Hta2.out hb3)
  have Htb3 := Lib.hid (texts_later Htb.out hb3)
  have Htu := Lib.hid htu
  clear htu Hta2
  have hb13 := bel_trans' (bel_trans' hb1 hb2) hb3
  have hAu : u.ownBlock ≠ some A := fun e => by
    have h1 := row_from Htu.out A e
    have h2 := row_block Hta.out
    have h3 := hb2.size
    omega
  have hAB : A ≠ B := fun e => by
    have h2 := row_block Hta.out
    omega
  have Hn1 : Hid ((wordsF [] s.data.toList).length = (wordsF [] s.data.toList).length) := Lib.hid rfl
  clear Hta Htb hb1 hb2 hb3
  generalize hm : wordsF [] s.data.toList = ws at *
  clear hm
  go_wp2_with fail
  refine (same_any _ _ _ _ ws ws _ Hta3.out Htu.out HN.out HN.out).mono ?_
  rintro e w4 ⟨rfl, hb4⟩
  rw [decide_eq_true rfl]
  have Hta4 := Lib.hid (texts_later Hta3.out hb4)
  have Htb4 := Lib.hid (texts_later Htb3.out hb4)
  have Htu4 := Lib.hid (texts_later Htu.out hb4)
  have hb14 := bel_trans' hb13 hb4
  clear Hta3 Htb3 Htu hb4 hb13
  go_wp2_with fail
  refine (shownT_any s hw2 _).mono ?_
  rintro e w5 ⟨rfl, hb5⟩
  have Hta5 := Lib.hid (texts_later Hta4.out hb5)
  have Htb5 := Lib.hid (texts_later Htb4.out hb5)
  have Htu5 := Lib.hid (texts_later Htu4.out hb5)
  have hb15 := bel_trans' hb14 hb5
  clear Hta4 Htb4 Htu4 hb5 hb14
  go_wp2_with fail
  refine (rshown_any s _ hw2).mono ?_
  rintro e w6 ⟨rfl, hb6⟩
  have Hta6 := Lib.hid (texts_later Hta5.out hb6)
  have Htb6 := Lib.hid (texts_later Htb5.out hb6)
  have Htu6 := Lib.hid (texts_later Htu5.out hb6)
  have hb16 := bel_trans' hb15 hb6
  clear Hta5 Htb5 Htu5 hb6 hb15
  generalize ofL (shownF s.data.toList) = sh
  go_wp2_with fail
  refine (spoil_any _ A ws.length ws _ rfl Hta6.out HN.out HA.out).mono ?_
  rintro e w7 ⟨rfl, hg7⟩
  have Htb7 := Lib.hid (texts_spoiled Htb6.out hg7 (by intro e; simp only [Value.ownBlock, Option.some.injEq] at e; exact hAB e.symm))
  have Htu7 := Lib.hid (texts_spoiled Htu6.out hg7 hAu)
  have hb17 := bel_grown hb16 hg7 hA
  clear Hta6 Htb6 Htu6 hg7 hb16
  go_wp2_with fail
  refine (same_any _ _ _ _ ws ws _ Htb7.out Htu7.out HN.out HN.out).mono ?_
  rintro e w8 ⟨rfl, hb8⟩
  rw [decide_eq_true rfl]
  have hb18 := bel_trans' hb17 hb8
  clear hb8 hb17
  go_wp2_with fail
  refine (awake_any _).mono ?_
  rintro e w9 ⟨rfl, hb9⟩
  have hb19 := bel_trans' hb18 hb9
  clear hb9 hb18
  go_wp2_with fail
  go_ret
  exact ⟨rfl, hb19⟩

end Jsx
end Go.Proofs.YtcalgpkcefccmaaDoor
