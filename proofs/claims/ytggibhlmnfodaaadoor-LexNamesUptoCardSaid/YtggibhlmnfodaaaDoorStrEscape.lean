/-
  The reader's contracts: what stands behind a backslash; a part.
-/
import Derived.Test.YtggibhlmnfodaaaDoorStrDigits
namespace Go.Proofs.YtggibhlmnfodaaaDoor
namespace Str
open Go.RowKit

theorem went_shift {b : Nat} {s : ByteArray} {i k : Nat} {w w1 : World} {r r' : Nat × Option Int} {e : Ending} {w' : World} (h : Went b s (i + k) r w1 e w') (hb : Bar b w w1) (h1 : r'.1 = k + r.1) (h2 : r'.2 = r.2) :
    Went b s i r' w e w' := by
  obtain ⟨he, hr, hw⟩ := h
  refine ⟨by rw [h2]; exact he, ?_, hb.trans hw⟩
  rw [h1, ← Nat.add_assoc]; exact hr
theorem Went.two {b : Nat} {s : ByteArray} {i : Nat} {w : World} {r : Nat × Option Int} {e : Ending} {w' : World} (h : Went b s i r w e w') : e = .returned (.tuple #[.int .i64 (r.2.getD 0), .bool r.2.isSome]) ∧ Held b s (i + r.1) w w' := h

theorem digits_held (b : Nat) (s : ByteArray) (i n : Nat) (w : World) (hs : s.size ≤ maxLen) (hi : i ≤ s.size) (hn : n ≤ 4) (h : Rd b s i w) :
    Calls Tryd.prog 53 #[.pointer (some ⟨b, 0, none⟩), .int .i64 n] w (Went b s i (ahead 0 (runL n 0 (sufL s i))) w) := digits_any b s i n w hs hi hn h

theorem byte_of {x : UInt8} {n : Nat} (h : (x.toNat : Int) = n) (hn : n < 256) : x = UInt8.ofNat n := by
  apply UInt8.toNat_inj.1
  rw [UInt8.toNat_ofNat', Nat.mod_eq_of_lt hn]
  omega

theorem esc_x (l : List UInt8) (h : headV l = 120) : escL l = ahead 1 (runL 2 0 l.tail) := by
  cases l with
  | nil => exact absurd h (by decide)
  | cons x l => obtain rfl := byte_of (n := 120) h (by decide); rfl
theorem head_byte (l : List UInt8) (n : Nat) (hn : n < 256) : headV l = n ↔ l.head? = some (UInt8.ofNat n) := by
  cases l with
  | nil => simp [headV]
  | cons x l =>
    constructor
    · intro h; obtain rfl := byte_of (n := n) h hn; rfl
    · intro h
      simp only [List.head?_cons, Option.some.injEq] at h
      subst h
      simp only [headV, UInt8.toNat_ofNat', Nat.mod_eq_of_lt hn]
theorem esc_ub (l : List UInt8) (h : headV l = 117) (h2 : headV l.tail = 123) : escL l = ahead 2 (braL true 0 l.tail.tail) := by
  cases l with
  | nil => exact absurd h (by decide)
  | cons x l =>
    obtain rfl := byte_of (n := 117) h (by decide)
    have : l.head? = some 123 := (head_byte l 123 (by decide)).1 h2
    show (if l.head? = some 123 then ahead 2 (braL true 0 l.tail) else ahead 1 (runL 4 0 l)) = _
    rw [if_pos this]; rfl
theorem esc_u (l : List UInt8) (h : headV l = 117) (h2 : headV l.tail ≠ 123) : escL l = ahead 1 (runL 4 0 l.tail) := by
  cases l with
  | nil => exact absurd h (by decide)
  | cons x l =>
    obtain rfl := byte_of (n := 117) h (by decide)
    have : ¬ l.head? = some 123 := fun e => h2 ((head_byte l 123 (by decide)).2 e)
    show (if l.head? = some 123 then ahead 2 (braL true 0 l.tail) else ahead 1 (runL 4 0 l)) = _
    rw [if_neg this]; rfl
theorem digHead_iff (l : List UInt8) : digHead l = (decide (48 ≤ headV l) && decide (headV l ≤ 57)) := by
  cases l with
  | nil => rfl
  | cons x l =>
    rw [digHead, Bool.eq_iff_iff]
    simp only [decide_eq_true_eq, Bool.and_eq_true]
    show _ ↔ 48 ≤ (x.toNat : Int) ∧ (x.toNat : Int) ≤ 57
    constructor
    · rintro ⟨a, b⟩; exact ⟨by omega, by omega⟩
    · rintro ⟨a, b⟩; exact ⟨by omega, by omega⟩
theorem esc_0 (l : List UInt8) (h : headV l = 48) : escL l = (1, if digHead l.tail = true then none else some 0) := by
  cases l with
  | nil => exact absurd h (by decide)
  | cons x l => obtain rfl := byte_of (n := 48) h (by decide); rfl
theorem esc_9 (l : List UInt8) (h : 49 ≤ headV l ∧ headV l ≤ 57) : escL l = (0, none) := by
  cases l with
  | nil => exact absurd h (by decide)
  | cons x l =>
    have h' : 49 ≤ x.toNat ∧ x.toNat ≤ 57 := by have : 49 ≤ (x.toNat : Int) ∧ (x.toNat : Int) ≤ 57 := h
                                                omega
    have ne : ∀ n : Nat, n < 256 → x.toNat ≠ n → x ≠ UInt8.ofNat n := by
      intro n hn h e; subst e; rw [UInt8.toNat_ofNat', Nat.mod_eq_of_lt hn] at h; exact h rfl
    rw [escL, if_neg (show x ≠ 120 from ne 120 (by decide) (by omega)), if_neg (show x ≠ 117 from ne 117 (by decide) (by omega)), if_neg (show x ≠ 48 from ne 48 (by decide) (by omega)), if_pos h']
theorem esc_r (l : List UInt8) (h : headV l = 13) : escL l = (if headV l.tail = 10 then 2 else 1, some (-1)) := by
  cases l with
  | nil => exact absurd h (by decide)
  | cons x l =>
    obtain rfl := byte_of (n := 13) h (by decide)
    show (if l.head? = some 10 then 2 else 1, some (-1)) = _
    have : headV l = 10 ↔ l.head? = some 10 := head_byte l 10 (by decide)
    by_cases e : headV l = 10
    · rw [if_pos (this.1 e)]; exact congrArg (·, _) (if_pos e).symm
    · rw [if_neg (fun x => e (this.2 x))]; exact congrArg (·, _) (if_neg e).symm
theorem esc_else (l : List UInt8) (h1 : headV l ≠ 120) (h2 : headV l ≠ 117) (h3 : ¬ (48 ≤ headV l ∧ headV l ≤ 57)) (h4 : headV l ≠ 13) :
    escL l = ((chrR l).1, (chrR l).2.map denV) := by
  cases l with
  | nil => rfl
  | cons x l =>
    have ne : ∀ n : Nat, headV (x :: l) ≠ n → n < 256 → x ≠ UInt8.ofNat n := by
      intro n h hn e; subst e; exact h (by show ((UInt8.ofNat n).toNat : Int) = n; rw [UInt8.toNat_ofNat', Nat.mod_eq_of_lt hn])
    have h3' : ¬ (48 ≤ (x.toNat : Int) ∧ (x.toNat : Int) ≤ 57) := h3
    rw [escL, if_neg (show x ≠ 120 from ne 120 h1 (by decide)), if_neg (show x ≠ 117 from ne 117 h2 (by decide)), if_neg (show x ≠ 48 from ne 48 (by intro e; rw [e] at h3; exact h3 (by decide)) (by decide)), if_neg (by omega), if_neg (show x ≠ 13 from ne 13 h4 (by decide))]
    unfold chrR
    by_cases e : lenL (x :: l) = 0
    · rw [if_pos e, if_pos e]; rfl
    · rw [if_neg e, if_neg e]; rfl

theorem head_lt (s : ByteArray) (i : Nat) (h : 0 ≤ headV (sufL s i)) : i < s.size := by
  rcases Nat.lt_or_ge i s.size with h' | h'
  · exact h'
  · rw [suf_nil s i (by omega)] at h; exact absurd h (by decide)

set_option maxHeartbeats 4000000 in
set_option maxRecDepth 20000 in
theorem escape_any (b : Nat) (s : ByteArray) (i : Nat) (w : World) (hs : s.size ≤ maxLen) (hi : i ≤ s.size) (h : Rd b s i w) (hb2 : 2 ≤ b) (hT : Tabs w) :
    Calls Tryd.prog 50 #[.pointer (some ⟨b, 0, none⟩)] w (Went b s i (escL (sufL s i)) w) := by
  have hm := hs
  unfold maxLen at hs
  have H0 := Lib.hid h
  clear h
  go_enter Tryd.func50, Tryd.ntmps50
  go_wp2_with fail
  refine (peek_held b s i w hm hi w ⟨H0.out, Bar.refl _ _⟩).mono ?_
  rintro e w1 ⟨rfl, hH1⟩
  have HH1 := Lib.hid hH1; clear hH1
  have hhr := headV_range (sufL s i)
  have hg0 := HH1.out.1.cell1
  have hgf := HH1.out.1.frozen 1
  have HL := Lib.hid (head_lt s i)
  have HLL := Lib.hid (head_lt s (i + 1))
  obtain ⟨C, hC⟩ : ∃ C, headV (sufL s i) = C := ⟨_, rfl⟩
  have HC := Lib.hid hC
  rw [hC] at hhr HL ⊢
  clear hC
  by_cases c1 : C = 120
  · have hlt := HL.out (by omega)
    have Ex : Hid (escL (sufL s i) = ahead 1 (runL 2 0 (sufL s (i + 1)))) := Lib.hid (by rw [esc_x _ (HC.out.trans c1), suf_tail s i hlt])
    clear HL
    subst c1
    go_wp2_with fail
    refine (digits_any b s (i + 1) 2 _ hm (by omega) (by omega) (HH1.out.1.sets (by omega))).mono ?_
    rintro e w2 hw2
    have HW := Lib.hid hw2
    obtain ⟨rfl, hW⟩ := hw2.two
    clear hW
    go_wp2_with fail
    go_ret2
    exact went_shift (k := 1) HW.out (HH1.out.2.set _ _ _) (by rw [Ex.out]; simp [ahead]) (by rw [Ex.out]; simp [ahead])
  have e1 : (C == 120) = false := beq_eq_false_iff_ne.2 c1
  by_cases c2 : C = 117
  · have hlt := HL.out (by omega)
    subst c2
    go_wp2_with fail
    refine (peek_held b s (i + 1) _ hm (by omega) _ ⟨HH1.out.1.sets (j := i + 1) (by omega), Bar.refl _ _⟩).mono ?_
    rintro e w2 ⟨rfl, hH2⟩
    have HH2 := Lib.hid hH2; clear hH2
    have HB2 : Hid (Bar b w w2) := Lib.hid ((HH1.out.2.set _ _ _).trans HH2.out.2)
    have hg2 := HH2.out.1.cell1
    have hgf2 := HH2.out.1.frozen 1
    obtain ⟨C2, hC2⟩ : ∃ C2, headV (sufL s (i + 1)) = C2 := ⟨_, rfl⟩
    have HC2 := Lib.hid hC2
    rw [hC2] at HLL ⊢
    clear hC2
    by_cases d1 : C2 = 123
    · have hlt2 := HLL.out (by omega)
      have Eub : Hid (escL (sufL s i) = ahead 2 (braL true 0 (sufL s (i + 2)))) := Lib.hid (by
        rw [esc_ub _ HC.out (by rw [suf_tail s i hlt]; exact HC2.out.trans d1), suf_tail s i hlt, suf_tail s (i + 1) hlt2])
      subst d1
      go_wp2_with fail
      refine (braced_any b s (i + 2) _ hm (by omega) (HH2.out.1.sets (by omega))).mono ?_
      rintro e w3 hw3
      have HW := Lib.hid hw3
      obtain ⟨rfl, hW⟩ := hw3.two
      clear hW
      go_wp2_with fail
      go_ret2
      exact went_shift (k := 2) HW.out (HB2.out.set _ _ _) (by rw [Eub.out]; simp [ahead]) (by rw [Eub.out]; simp [ahead])
    · have e2 : (C2 == 123) = false := beq_eq_false_iff_ne.2 d1
      have Eu : Hid (escL (sufL s i) = ahead 1 (runL 4 0 (sufL s (i + 1)))) := Lib.hid (by
        rw [esc_u _ HC.out (by rw [suf_tail s i hlt, HC2.out]; exact d1), suf_tail s i hlt])
      go_wp2_with fail
      refine (digits_any b s (i + 1) 4 _ hm (by omega) (by omega) HH2.out.1).mono ?_
      rintro e w3 hw3
      have HW := Lib.hid hw3
      obtain ⟨rfl, hW⟩ := hw3.two
      clear hW
      go_wp2_with fail
      go_ret2
      exact went_shift (k := 1) HW.out HB2.out (by rw [Eu.out]; simp [ahead]) (by rw [Eu.out]; simp [ahead])
  have e2 : (C == 117) = false := beq_eq_false_iff_ne.2 c2
  by_cases c3 : C = 48
  · have hlt := HL.out (by omega)
    have hdh := digHead_iff (sufL s (i + 1))
    have E0 : Hid (escL (sufL s i) = (1, if digHead (sufL s (i + 1)) = true then none else some 0)) := Lib.hid (by rw [esc_0 _ (HC.out.trans c3), suf_tail s i hlt])
    rw [hdh] at E0
    clear hdh
    subst c3
    go_wp2_with fail
    refine (peek_held b s (i + 1) _ hm (by omega) _ ⟨HH1.out.1.sets (j := i + 1) (by omega), Bar.refl _ _⟩).mono ?_
    rintro e w2 ⟨rfl, hH2⟩
    have HH2 := Lib.hid hH2; clear hH2
    have HB2 : Hid (Bar b w w2) := Lib.hid ((HH1.out.2.set _ _ _).trans HH2.out.2)
    obtain ⟨C2, hC2⟩ : ∃ C2, headV (sufL s (i + 1)) = C2 := ⟨_, rfl⟩
    rw [hC2] at HLL E0 ⊢
    clear hC2
    by_cases d1 : C2 < 48
    · go_wp2_with fail
      go_ret2
      refine ⟨?_, ?_, HB2.out⟩
      · rw [E0.out, decide_eq_false (by omega : ¬ 48 ≤ C2)]; rfl
      · rw [E0.out]; exact HH2.out.1
    · by_cases d2 : 57 < C2
      · go_wp2_with fail
        go_ret2
        refine ⟨?_, ?_, HB2.out⟩
        · rw [E0.out, decide_eq_false (by omega : ¬ C2 ≤ 57), Bool.and_false]; rfl
        · rw [E0.out]; exact HH2.out.1
      · go_wp2_with fail
        go_ret2
        refine ⟨?_, ?_, HB2.out⟩
        · rw [E0.out, decide_eq_true (by omega : C2 ≤ 57), decide_eq_true (by omega : 48 ≤ C2)]; exact ret_two rfl (by rw [decide_eq_false (by omega : ¬ C2 < 48), decide_eq_false (by omega : ¬ 57 < C2)]; rfl)
        · rw [E0.out]; exact HH2.out.1
  have e3 : (C == 48) = false := beq_eq_false_iff_ne.2 c3
  by_cases c4 : 49 ≤ C ∧ C ≤ 57
  · have E9 : Hid (escL (sufL s i) = (0, none)) := Lib.hid (esc_9 _ (by rw [HC.out]; exact c4))
    obtain rfl | rfl | rfl | rfl | rfl | rfl | rfl | rfl | rfl : C = 49 ∨ C = 50 ∨ C = 51 ∨ C = 52 ∨ C = 53 ∨ C = 54 ∨ C = 55 ∨ C = 56 ∨ C = 57 := by omega
    all_goals
      go_wp2_with fail
      go_ret2
      exact went_none E9.out HH1.out
  by_cases c5 : C = 13
  · have hlt := HL.out (by omega)
    have Er : Hid (escL (sufL s i) = (if headV (sufL s (i + 1)) = 10 then 2 else 1, some (-1))) := Lib.hid (by rw [esc_r _ (HC.out.trans c5), suf_tail s i hlt])
    subst c5
    go_wp2_with fail
    refine (peek_held b s (i + 1) _ hm (by omega) _ ⟨HH1.out.1.sets (j := i + 1) (by omega), Bar.refl _ _⟩).mono ?_
    rintro e w2 ⟨rfl, hH2⟩
    have HH2 := Lib.hid hH2; clear hH2
    have HB2 : Hid (Bar b w w2) := Lib.hid ((HH1.out.2.set _ _ _).trans HH2.out.2)
    have hg2 := HH2.out.1.cell1
    have hgf2 := HH2.out.1.frozen 1
    obtain ⟨C2, hC2⟩ : ∃ C2, headV (sufL s (i + 1)) = C2 := ⟨_, rfl⟩
    rw [hC2] at HLL Er ⊢
    clear hC2
    by_cases d1 : C2 = 10
    · have hlt2 := HLL.out (by omega)
      have Er2 : Hid (escL (sufL s i) = (2, some (-1))) := Lib.hid (by rw [Er.out, if_pos d1])
      subst d1
      go_wp2_with fail
      go_ret2
      exact went_some Er2.out rfl (j := i + 1) ⟨HH2.out.1, HB2.out⟩ (by omega) rfl
    · have e6 : (C2 == 10) = false := beq_eq_false_iff_ne.2 d1
      have Er2 : Hid (escL (sufL s i) = (1, some (-1))) := Lib.hid (by rw [Er.out, if_neg d1])
      go_wp2_with fail
      go_ret2
      refine ⟨by rw [Er2.out]; rfl, ?_, HB2.out⟩
      rw [Er2.out]; exact HH2.out.1
  have e5 : (C == 13) = false := beq_eq_false_iff_ne.2 c5
  have Ee : Hid (escL (sufL s i) = ((chrR (sufL s i)).1, (chrR (sufL s i)).2.map denV)) := Lib.hid (esc_else _ (by rw [HC.out]; exact c1) (by rw [HC.out]; exact c2) (by rw [HC.out]; omega) (by rw [HC.out]; exact c5))
  have f1 : (C == 49) = false := beq_eq_false_iff_ne.2 (by omega)
  have f2 : (C == 50) = false := beq_eq_false_iff_ne.2 (by omega)
  have f3 : (C == 51) = false := beq_eq_false_iff_ne.2 (by omega)
  have f4 : (C == 52) = false := beq_eq_false_iff_ne.2 (by omega)
  have f5 : (C == 53) = false := beq_eq_false_iff_ne.2 (by omega)
  have f6 : (C == 54) = false := beq_eq_false_iff_ne.2 (by omega)
  have f7 : (C == 55) = false := beq_eq_false_iff_ne.2 (by omega)
  have f8 : (C == 56) = false := beq_eq_false_iff_ne.2 (by omega)
  have f9 : (C == 57) = false := beq_eq_false_iff_ne.2 (by omega)
  have HT1 : Hid (Tabs w1) := Lib.hid (hT.bar HH1.out.2 hb2)
  clear c1 c2 c3 c4 c5
  go_wp2_with fail
  refine (character_any b s i w1 hm hi HH1.out.1 hb2 HT1.out).mono ?_
  rintro e w2 hw2
  obtain ⟨rfl, hW⟩ := hw2.two
  have HW := Lib.hid hW
  clear hW hw2
  obtain ⟨K, hK⟩ : ∃ K, chrR (sufL s i) = K := ⟨_, rfl⟩
  rw [hK] at Ee HW ⊢
  clear hK
  obtain ⟨k, v⟩ := K
  cases v with
  | none =>
    go_wp2_with fail
    refine (denoted_any 0 w2).mono ?_
    rintro e w3 ⟨rfl, hb3⟩
    go_wp2_with fail
    go_ret2
    exact went_none Ee.out ⟨HW.out.1.keep hb3, HH1.out.2.trans (HW.out.2.trans (Bar.of hb3))⟩
  | some v =>
    go_wp2_with fail
    refine (denoted_any v w2).mono ?_
    rintro e w3 ⟨rfl, hb3⟩
    go_wp2_with fail
    go_ret2
    refine ⟨by rw [Ee.out]; rfl, ?_, HH1.out.2.trans (HW.out.2.trans (Bar.of hb3))⟩
    rw [Ee.out]; exact HW.out.1.keep hb3

theorem part_esc (l : List UInt8) (h : headV l = 92) : partL l = ((escL l.tail).1 + 1, (escL l.tail).2) := by
  cases l with
  | nil => exact absurd h (by decide)
  | cons x l => obtain rfl := byte_of (n := 92) h (by decide); rfl
theorem part_nl (l : List UInt8) (h : headV l = 10 ∨ headV l = 13) : partL l = (0, none) := by
  cases l with
  | nil => rfl
  | cons x l =>
    rcases h with h | h
    · obtain rfl := byte_of (n := 10) h (by decide); rfl
    · obtain rfl := byte_of (n := 13) h (by decide); rfl
theorem part_chr (l : List UInt8) (h : headV l ≠ 92) (h1 : headV l ≠ 10) (h2 : headV l ≠ 13) : partL l = chrR l := by
  cases l with
  | nil => rfl
  | cons x l =>
    have ne : ∀ n : Nat, headV (x :: l) ≠ n → n < 256 → x ≠ UInt8.ofNat n := by
      intro n h hn e; subst e; exact h (by show ((UInt8.ofNat n).toNat : Int) = n; rw [UInt8.toNat_ofNat', Nat.mod_eq_of_lt hn])
    rw [partL, if_neg (show x ≠ 92 from ne 92 h (by decide)), if_neg (fun e => e.elim (show x ≠ 10 from ne 10 h1 (by decide)) (show x ≠ 13 from ne 13 h2 (by decide)))]
    rfl

set_option maxHeartbeats 2000000 in
set_option maxRecDepth 20000 in
theorem part_any (b : Nat) (s : ByteArray) (i : Nat) (w : World) (hs : s.size ≤ maxLen) (hi : i ≤ s.size) (h : Rd b s i w) (hb2 : 2 ≤ b) (hT : Tabs w) :
    Calls Tryd.prog 47 #[.pointer (some ⟨b, 0, none⟩)] w (Went b s i (partL (sufL s i)) w) := by
  have hm := hs
  unfold maxLen at hs
  have H0 := Lib.hid h
  clear h
  go_enter Tryd.func47, Tryd.ntmps47
  go_wp2_with fail
  refine (peek_held b s i w hm hi w ⟨H0.out, Bar.refl _ _⟩).mono ?_
  rintro e w1 ⟨rfl, hH1⟩
  have HH1 := Lib.hid hH1; clear hH1
  have hhr := headV_range (sufL s i)
  have hg0 := HH1.out.1.cell1
  have hgf := HH1.out.1.frozen 1
  have HL := Lib.hid (head_lt s i)
  have HT1 : Hid (Tabs w1) := Lib.hid (hT.bar HH1.out.2 hb2)
  obtain ⟨C, hC⟩ : ∃ C, headV (sufL s i) = C := ⟨_, rfl⟩
  have HC := Lib.hid hC
  rw [hC] at hhr HL ⊢
  clear hC
  by_cases c1 : C = 92
  · have hlt := HL.out (by omega)
    have Ex : Hid (partL (sufL s i) = ((escL (sufL s (i + 1))).1 + 1, (escL (sufL s (i + 1))).2)) := Lib.hid (by rw [part_esc _ (HC.out.trans c1), suf_tail s i hlt])
    clear HL
    subst c1
    go_wp2_with fail
    refine (escape_any b s (i + 1) _ hm (by omega) (HH1.out.1.sets (by omega)) hb2 (HT1.out.bar ((Bar.refl b w1).set _ _ _) hb2)).mono ?_
    rintro e w2 hw2
    have HW := Lib.hid hw2
    obtain ⟨rfl, hW⟩ := hw2.two
    clear hW
    go_wp2_with fail
    go_ret2
    exact went_shift (k := 1) HW.out (HH1.out.2.set _ _ _) (by rw [Ex.out]; simp; omega) (by rw [Ex.out])
  have e1 : (C == 92) = false := beq_eq_false_iff_ne.2 c1
  by_cases c2 : C = 10
  · have E9 : Hid (partL (sufL s i) = (0, none)) := Lib.hid (part_nl _ (Or.inl (HC.out.trans c2)))
    subst c2
    go_wp2_with fail
    go_ret2
    exact went_none E9.out HH1.out
  have e2 : (C == 10) = false := beq_eq_false_iff_ne.2 c2
  by_cases c3 : C = 13
  · have E9 : Hid (partL (sufL s i) = (0, none)) := Lib.hid (part_nl _ (Or.inr (HC.out.trans c3)))
    subst c3
    go_wp2_with fail
    go_ret2
    exact went_none E9.out HH1.out
  have e3 : (C == 13) = false := beq_eq_false_iff_ne.2 c3
  have Ec : Hid (partL (sufL s i) = chrR (sufL s i)) := Lib.hid (part_chr _ (by rw [HC.out]; exact c1) (by rw [HC.out]; exact c2) (by rw [HC.out]; exact c3))
  clear c1 c2 c3
  go_wp2_with fail
  refine (character_any b s i w1 hm hi HH1.out.1 hb2 HT1.out).mono ?_
  rintro e w2 hw2
  have HW := Lib.hid hw2
  obtain ⟨rfl, hW⟩ := hw2.two
  clear hW
  go_wp2_with fail
  go_ret2
  exact went_shift (k := 0) HW.out HH1.out.2 (by rw [Ec.out]; omega) (by rw [Ec.out])

end Str
end Go.Proofs.YtggibhlmnfodaaaDoor
