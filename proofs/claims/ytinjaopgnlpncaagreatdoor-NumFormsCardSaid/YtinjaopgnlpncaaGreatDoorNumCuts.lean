/-
  The contracts of the library's cuts of a text, at the constants that the program hands them, for texts of every size.
-/
import Derived.Test.YtinjaopgnlpncaaGreatDoorNumCollect
import Derived.Test.YtinjaopgnlpncaaGreatDoorShelf
import Derived.Shelf.Strings.SlTrimAscii
namespace Go.Proofs.YtinjaopgnlpncaaGreatDoor
namespace Num
open Go.RowKit

theorem asciiInfo : (Tryz.prog.info? 84).map (fun i => (i.zero, i.size)) = some (some (.agg (Array.replicate 256 (.bool false))), 256) := by kernel_rfl

/-- A text of the two letters that begin an exponent. -/
def eE : ByteArray := ⟨#[101, 69]⟩
theorem eE_list : eE.data.toList = [101, 69] := rfl
theorem eE_ascii : ∀ (j : Nat) b, eE.data.toList[j]? = some b → b.toNat < 128 := by
  intro j b h
  rw [eE_list] at h
  match j, h with
  | 0, h => simp at h; subst h; decide
  | 1, h => simp at h; subst h; decide
  | j + 2, h => simp at h

set_option maxHeartbeats 4000000 in
set_option maxRecDepth 1000000 in
theorem index_long (s : ByteArray) (w : World) (h8 : 8 < s.size) (hs : s.size ≤ maxLen) :
    Calls Tryz.prog 34 #[.string s, .string eE] w fun e w' => e = .returned (.int .i64 (Lib.indexAny s.data.toList [101, 69])) ∧ Below w.heap.size w w' := by
  unfold maxLen at hs
  have hM := Tryz.strings_makeASCIISet (zero_of_info asciiInfo).1 eE w (by decide) eE_ascii
  rw [eE_list] at hM
  have ht : decide ((8 : Int) < (s.size : Int)) = true := decide_eq_true (by omega)
  have hcells : ∀ x : UInt8, ((w.alloc (.cells (Lib.setCells [101, 69]) 84)).alloc (.cells (Lib.setCells [101, 69]) 84)).cell? ⟨w.heap.size + 1, x.toNat, none⟩ = some (.bool (([101, 69] : List UInt8).contains x)) := fun x => by
    rw [World.cell?_alloc_at _ _ _ _ (by simp), Lib.setCells_at]
  have hb : Below w.heap.size w ((w.alloc (.cells (Lib.setCells [101, 69]) 84)).alloc (.cells (Lib.setCells [101, 69]) 84)) := ((Below.refl _ _).alloc (Nat.le_refl _) _).alloc (by simp) _
  have hsc : (storeCells ⟨w.heap.size + 1, 0, none⟩ (Lib.setCells [101, 69]).toList 0).run Tryz.prog ((w.alloc (.cells (Lib.setCells [101, 69]) 84)).alloc (.cells (Array.replicate 256 (.bool false)) 84)) = .ok () ((w.alloc (.cells (Lib.setCells [101, 69]) 84)).alloc (.cells (Lib.setCells [101, 69]) 84)) := by
    have := run_storeCells_new (P := Tryz.prog) (w.alloc (.cells (Lib.setCells [101, 69]) 84)) 84 (Array.replicate 256 (.bool false)) (Lib.setCells [101, 69]) (by rw [Lib.setCells_size]; exact (zero_of_info asciiInfo).2) (by rw [Lib.setCells_size, Array.size_replicate]) (Lib.setCells_one _)
    simpa using this
  have hz := (zero_of_info asciiInfo).1
  have hsz := Lib.setCells_size [101, 69]
  have HC := Lib.hid hcells
  clear hcells
  generalize Lib.setCells [101, 69] = C at *
  go_enter Tryz.func34, Tryz.ntmps34
  unfold eE at *
  go_wp2_with (first
    | (go_at_call 56; refine (Tryz.strings_shouldUseASCIISet _ _).mono ?_; rintro e w' ⟨rfl, hw⟩; rw [hw, ht])
    | (go_at_call 57; refine hM.mono ?_; rintro e w' ⟨rfl, hw⟩; rw [hw]))
  clear hM hsc hz hsz hw
  generalize (w.alloc (Obj.cells C 84)).alloc (Obj.cells C 84) = w2 at *
  go_loop [8] (fun a => ∃ k : Nat, k ≤ s.size ∧ a = .int .i64 k ∧ Lib.NoAny s.data.toList [101, 69] k) (fun a => s.size - (intOf a).toNat)
  case atStart => exact ⟨0, by omega, rfl, Lib.NoAny.zero _ _⟩
  case round =>
    obtain ⟨k, hk, rfl, hno⟩ := hrel
    have Hno := Lib.hid hno; clear hno
    by_cases hlt : k < s.size
    · have Hx := Lib.hid (Lib.data_getElem? s k hlt)
      have hc := HC.out (s[k]'hlt)
      cases hin : ([101, 69] : List UInt8).contains (s[k]'hlt)
      · rw [hin] at hc
        have Hin := Lib.hid hin; clear hin
        go_wp2_with (go_at_call 58; refine (Tryz.asciiSet_contains _ (s[k]'hlt) _ _ hc).mono ?_; rintro e w' ⟨rfl, hw⟩; rw [hw])
        go_round
        case rel => exact ⟨k + 1, by omega, by go_num, Hno.out.succ Hx.out Hin.out⟩
        case measure => simp [intOf]; omega
      · rw [hin] at hc
        have Hf := Lib.hid (Lib.indexAny_hit Hno.out Hx.out hin); clear hin
        go_wp2_with (go_at_call 58; refine (Tryz.asciiSet_contains _ (s[k]'hlt) _ _ hc).mono ?_; rintro e w' ⟨rfl, hw⟩; rw [hw])
        go_ret
        exact ⟨ret_int Hf.out.symm, hb⟩
    · have Hf : Hid (Lib.indexAny s.data.toList [101, 69] = -1) := Lib.hid (Lib.indexAny_none (by
        obtain rfl : k = s.size := by omega
        rw [← Lib.size_eq]; exact Hno.out))
      go_wp2_with fail
      go_ret
      exact ⟨ret_int Hf.out.symm, hb⟩

theorem index_any (s : ByteArray) (w : World) (hs : s.size ≤ maxLen) (hascii : ∀ (j : Nat) b, s.data.toList[j]? = some b → b.toNat < 128) :
    Calls Tryz.prog 34 #[.string s, .string ⟨#[101, 69]⟩] w fun e w' => e = .returned (.int .i64 (Lib.indexAny s.data.toList [101, 69])) ∧ Below w.heap.size w w' := by
  by_cases h8 : s.size ≤ 8
  · refine (Tryz.strings_IndexAny_short s ⟨#[101, 69]⟩ w (by decide) h8 hascii).mono ?_
    rintro e w' ⟨h1, pos, h2⟩
    exact ⟨h1, by rw [h2]; exact (Below.refl _ _).alloc (Nat.le_refl _) _⟩
  · exact index_long s w (by omega) hs

/-- What a cut at the first of a byte gives. -/
def cutL (l : List UInt8) (c : UInt8) : List UInt8 × List UInt8 × Bool :=
  if 0 ≤ Lib.indexByte l c then (l.take (Lib.indexByte l c).toNat, l.drop ((Lib.indexByte l c).toNat + 1), true) else (l, [], false)

theorem str_ext (s : ByteArray) (l : List UInt8) (h : s.data.toList = l) : s = ⟨l.toArray⟩ := by subst h; simp
theorem take_str (s : ByteArray) (k : Nat) : s.extract 0 k = ⟨(s.data.toList.take k).toArray⟩ := str_ext _ _ (by rw [← Lib.toList_data, Lib.extract_toList]; simp)
theorem drop_str (s : ByteArray) (k : Nat) : s.extract k s.size = ⟨(s.data.toList.drop k).toArray⟩ := str_ext _ _ (by rw [← Lib.toList_data, Lib.extract_toList, List.take_of_length_le]; simp)

theorem ret_three {a b c d : ByteArray} {x y : Bool} (h1 : a = c) (h2 : b = d) (h3 : x = y) : Ending.returned (.tuple #[.string a, .string b, .bool x]) = .returned (.tuple #[.string c, .string d, .bool y]) := by rw [h1, h2, h3]

theorem byte_range (l : List UInt8) (c : UInt8) (h : 0 ≤ Lib.indexByte l c) : ∃ k : Nat, k < l.length ∧ Lib.indexByte l c = k := by
  obtain ⟨k, hk⟩ := Int.eq_ofNat_of_zero_le h
  obtain ⟨h1, _⟩ := Lib.indexByte_some hk
  exact ⟨k, (List.getElem?_eq_some_iff.1 h1).1, hk⟩

set_option maxHeartbeats 1000000 in
theorem lcut_any (s : ByteArray) (c : UInt8) (w : World) (hs : s.size ≤ maxLen) :
    Calls Tryz.prog 59 #[.string s, .string ⟨#[c]⟩] w fun e w' => e = .returned (.tuple #[.string ⟨(cutL s.data.toList c).1.toArray⟩, .string ⟨(cutL s.data.toList c).2.1.toArray⟩, .bool (cutL s.data.toList c).2.2]) ∧ Below w.heap.size w w' := by
  unfold maxLen at hs
  by_cases h0 : 0 ≤ Lib.indexByte s.data.toList c
  · obtain ⟨k, hk, hi⟩ := byte_range _ _ h0
    have hks : k < s.size := by rw [Lib.size_eq]; exact hk
    have Hf : Hid (cutL s.data.toList c = (s.data.toList.take k, s.data.toList.drop (k + 1), true)) := Lib.hid (by rw [cutL, if_pos h0, hi]; rfl)
    have Hi := Lib.hid hi
    clear h0 hi hk
    go_enter Tryz.func59, Tryz.ntmps59
    go_wp2_with fail
    refine (Tryz.stringslite_Index_one s c _).mono ?_
    rintro e w' ⟨rfl, hw⟩
    rw [hw, Hi.out]
    clear hw
    go_wp2_with fail
    go_region
    all_goals (try go_wp2)
    all_goals go_ret3
    all_goals exact ⟨ret_three (by rw [Hf.out, take_str]) (by rw [Hf.out, drop_str]) (by rw [Hf.out]), (Below.refl _ _).drew⟩
  · have Hf : Hid (cutL s.data.toList c = (s.data.toList, [], false)) := Lib.hid (by rw [cutL, if_neg h0])
    have hi : Lib.indexByte s.data.toList c = -1 := by have := Lib.indexByte_ge s.data.toList c; omega
    have Hi := Lib.hid hi
    clear h0 hi
    go_enter Tryz.func59, Tryz.ntmps59
    go_wp2_with fail
    refine (Tryz.stringslite_Index_one s c _).mono ?_
    rintro e w' ⟨rfl, hw⟩
    rw [hw, Hi.out]
    clear hw
    go_wp2_with fail
    go_ret3
    exact ⟨ret_three (by rw [Hf.out]) (by rw [Hf.out]) (by rw [Hf.out]), Below.refl _ _⟩

set_option maxHeartbeats 1000000 in
theorem cut_any (s : ByteArray) (c : UInt8) (w : World) (hs : s.size ≤ maxLen) :
    Calls Tryz.prog 35 #[.string s, .string ⟨#[c]⟩] w fun e w' => e = .returned (.tuple #[.string ⟨(cutL s.data.toList c).1.toArray⟩, .string ⟨(cutL s.data.toList c).2.1.toArray⟩, .bool (cutL s.data.toList c).2.2]) ∧ Below w.heap.size w w' := by
  go_enter Tryz.func35, Tryz.ntmps35
  go_wp2_with fail
  refine (lcut_any s c _ hs).mono ?_
  rintro e w' ⟨rfl, hb⟩
  go_wp2_with fail
  go_ret3
  exact ⟨rfl, hb⟩

/-- strings.TrimRight at the noughts and underlines of a fraction. -/
theorem zu_ascii : ∀ (j : Nat) b, (⟨#[48, 95]⟩ : ByteArray).data.toList[j]? = some b → b.toNat < 128 := by
  intro j b h
  match j, h with
  | 0, h => simp at h; subst h; decide
  | 1, h => simp at h; subst h; decide
  | j + 2, h => simp at h
theorem trim_frac (l : List UInt8) : Lib.trimRightS l [48, 95] = fracL l := by
  unfold Lib.trimRightS fracL
  congr 2
  funext b
  simp [List.contains, List.elem]
  cases (b == 48) <;> cases (b == 95) <;> rfl

theorem trim_any (s : ByteArray) (w : World) (hs : s.size ≤ maxLen) :
    Calls Tryz.prog 47 #[.string s, .string ⟨#[48, 95]⟩] w fun e w' => e = .returned (.string ⟨(fracL s.data.toList).toArray⟩) ∧ Below w.heap.size w w' := by
  have h := Any.strings_TrimRight_laid Tryz.lays162 (by kernel_rfl) s ⟨#[48, 95]⟩ w hs (by decide) zu_ascii
  rw [← trim_frac]
  exact h

theorem neg_prefix (l : List UInt8) (c : UInt8) : Lib.hasPrefix l [c] = (l.head? == some c) := by
  unfold Lib.hasPrefix
  cases l with
  | nil => rfl
  | cons d t =>
    by_cases h : c = d
    · subst h; simp [List.isPrefixOf]
    · have h1 : (c == d) = false := beq_eq_false_iff_ne.2 h
      have h2 : (d == c) = false := beq_eq_false_iff_ne.2 (fun e => h e.symm)
      simp [List.isPrefixOf, h1, h2]

theorem numL_sign (pw : List UInt8) (p : Nat) : numL p (43 :: pw) = numL p pw := by rw [numL, if_neg (by decide)]

theorem numL_bound (l : List UInt8) : ∀ p, numL p l < (p + 1) * 10 ^ l.length := by
  induction l with
  | nil => intro p; simp [numL]
  | cons c t ih =>
    intro p
    rw [numL]
    split
    · rename_i hd
      have h1 := ih (10 * p + (c.toNat - 48))
      simp only [digN, decide_eq_true_eq] at hd
      have h2 : (10 * p + (c.toNat - 48) + 1) * 10 ^ t.length ≤ (10 * (p + 1)) * 10 ^ t.length := Nat.mul_le_mul_right _ (by omega)
      rw [List.length_cons, Nat.pow_succ]
      rw [show (p + 1) * (10 ^ t.length * 10) = (10 * (p + 1)) * 10 ^ t.length from by rw [Nat.mul_comm (10 ^ t.length) 10, ← Nat.mul_assoc, Nat.mul_comm (p + 1) 10]]
      omega
    · have h1 := ih p
      rw [List.length_cons, Nat.pow_succ]
      have : (p + 1) * 10 ^ t.length ≤ (p + 1) * (10 ^ t.length * 10) := Nat.mul_le_mul_left _ (by omega)
      omega

theorem numL_ge (l : List UInt8) : ∀ p, p ≤ numL p l := by
  induction l with
  | nil => intro p; exact Nat.le_refl _
  | cons c t ih =>
    intro p
    rw [numL]
    split
    · have := ih (10 * p + (c.toNat - 48)); omega
    · exact ih p
theorem numL_app (a b : List UInt8) : ∀ p, numL p (a ++ b) = numL (numL p a) b := by
  induction a with
  | nil => intro p; rfl
  | cons c t ih =>
    intro p
    rw [List.cons_append, numL, numL]
    split <;> exact ih _
theorem numL_take (l : List UInt8) (k : Nat) : numL 0 (l.take k) ≤ numL 0 l := by
  have h := numL_app (l.take k) (l.drop k) 0
  rw [List.take_append_drop] at h
  rw [h]
  exact numL_ge _ _
theorem numL_plain (l : List UInt8) : ∀ p, numL p (plainL l) = numL p l := by
  induction l with
  | nil => intro p; rfl
  | cons c t ih =>
    intro p
    by_cases h : c = 95
    · subst h
      rw [show plainL (95 :: t) = plainL t from rfl, ih, numL, if_neg (by decide)]
    · rw [show plainL (c :: t) = c :: plainL t from by simp [plainL, h], numL, numL, ih, ih]
theorem numL_ahead (l : List UInt8) : numL 0 (aheadL l) = numL 0 l := by
  induction l with
  | nil => rfl
  | cons c t ih =>
    by_cases h : c = 48
    · subst h
      rw [show aheadL (48 :: t) = aheadL t from rfl, ih, numL, if_pos (by decide)]
      rfl
    · rw [show aheadL (c :: t) = c :: t from by simp [aheadL, h]]
theorem num_small (pw : List UInt8) (h : (aheadL (plainL pw)).length ≤ 9) : numL 0 pw < 1000000000 := by
  rw [← numL_plain, ← numL_ahead]
  have h1 := numL_bound (aheadL (plainL pw)) 0
  have h2 : 10 ^ (aheadL (plainL pw)).length ≤ 10 ^ 9 := Nat.pow_le_pow_right (by decide) h
  omega

set_option maxHeartbeats 1000000 in
theorem raise_any (s : ByteArray) (w : World) (hs : s.size ≤ maxLen) (u : List UInt8) (neg : Bool) (Hu : Hid (Lib.trimPrefix s.data.toList [45] = u)) (Hn : Hid (Lib.hasPrefix s.data.toList [45] = neg)) (hb : numL 0 u < 1000000000) :
    Calls Tryz.prog 38 #[.string s] w fun e w' => e = .returned (.int .i64 (if neg then -(numL 0 u : Int) else (numL 0 u : Int))) ∧ w = w' := by
  unfold maxLen at hs
  have hul : u.length ≤ s.size := by
    rw [← Hu.out, Lib.size_eq, Lib.trimPrefix]
    split
    · rw [List.length_drop]; omega
    · exact Nat.le_refl _
  obtain ⟨t, ht⟩ : ∃ t : ByteArray, (⟨u.toArray⟩ : ByteArray) = t := ⟨_, rfl⟩
  have hul2 : t.size ≤ 9223372036854775807 := by rw [← ht]; have : (⟨u.toArray⟩ : ByteArray).size = u.length := by simp [ByteArray.size]
                                                 omega
  have hl : t.data.toList = u := by rw [← ht]
  have Hl := Lib.hid hl
  have Ht := Lib.hid ht
  clear hl ht
  go_enter Tryz.func38, Tryz.ntmps38
  go_wp2_with fail
  refine (Tryz.strings_CutPrefix s ⟨#[45]⟩ _).mono ?_
  rintro e w' ⟨rfl, hw⟩
  rw [hw]
  clear hw
  rw [show (⟨#[45]⟩ : ByteArray).data.toList = [45] from rfl, Hu.out, Hn.out, Ht.out]
  clear Ht
  go_wp2_with fail
  go_loop [5, 6, 14] (fun p _ i => ∃ k : Nat, k ≤ t.size ∧ i = .int .i64 k ∧ p = .int .i64 (numL 0 (t.data.toList.take k) : Nat)) (fun _ _ i => t.size - (intOf i).toNat)
  case atStart => exact ⟨0, by omega, rfl, rfl⟩
  case round =>
    obtain ⟨k, hk, rfl, rfl⟩ := hrel
    by_cases hlt : k < t.size
    · have hm : numL 0 (t.data.toList.take k) < 1000000000 := Nat.lt_of_le_of_lt (numL_take _ k) (by rw [Hl.out]; exact hb)
      have Hs := Lib.hid (numL_snoc (t.data.toList.take k) t[k] 0)
      have Ht := Lib.hid (take_byte t k hlt)
      cases hd : digN (t[k]'hlt)
      · have Hd := Lib.hid hd; clear hd
        go_wp2_with fail
        refine (digit_any _ _).mono ?_
        rintro e w1 ⟨rfl, rfl⟩
        rw [Hd.out]
        go_wp2_with fail
        go_round
        case rel => exact ⟨k + 1, by omega, by go_num, by rw [Ht.out, Hs.out, Hd.out]; rfl⟩
        case measure => simp [intOf]; omega
      · have g1 : (48 : Int) ≤ ((t[k]'hlt).toNat : Int) := by simp only [digN, decide_eq_true_eq] at hd; omega
        have g2 : ((t[k]'hlt).toNat : Int) ≤ 57 := by simp only [digN, decide_eq_true_eq] at hd; omega
        have Hd := Lib.hid hd; clear hd
        go_wp2_with fail
        refine (digit_any _ _).mono ?_
        rintro e w1 ⟨rfl, rfl⟩
        rw [Hd.out]
        go_wp2_with fail
        go_round
        case rel => exact ⟨k + 1, by omega, by go_num, by rw [Ht.out, Hs.out, Hd.out, if_pos rfl]; go_num⟩
        case measure => simp [intOf]; omega
    · have Hf : Hid (numL 0 (t.data.toList.take k) = numL 0 u) := Lib.hid (by rw [take_all t k hlt, Hl.out])
      have hm : numL 0 (t.data.toList.take k) < 1000000000 := by rw [Hf.out]; exact hb
      cases neg
      · go_wp2_with fail
        go_ret
        exact ⟨ret_int (by rw [Hf.out]), rfl⟩
      · go_wp2_with fail
        go_ret
        exact ⟨ret_int (by rw [Hf.out]), rfl⟩

end Num
end Go.Proofs.YtinjaopgnlpncaaGreatDoor
