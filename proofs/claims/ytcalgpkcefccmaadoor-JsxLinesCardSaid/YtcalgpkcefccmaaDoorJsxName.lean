/-
  The program's entities with names.
-/
import Derived.Test.YtcalgpkcefccmaaDoorJsxNum
namespace Go.Proofs.YtcalgpkcefccmaaDoor
namespace Jsx
open Go.RowKit

/-- A name with its & in front: its character, or 0. -/
def chrA (l : List UInt8) : Nat :=
  if l = [38, 97, 109, 112] then 38 else if l = [38, 108, 116] then 60 else if l = [38, 103, 116] then 62 else if l = [38, 113, 117, 111, 116] then 34 else if l = [38, 97, 112, 111, 115] then 39 else if l = [38, 110, 98, 115, 112] then 160 else if l = [38, 99, 111, 112, 121] then 169 else if l = [38, 114, 101, 103] then 174 else if l = [38, 104, 101, 108, 108, 105, 112] then 8230 else if l = [38, 109, 100, 97, 115, 104] then 8212 else if l = [38, 110, 100, 97, 115, 104] then 8211 else 0
theorem chrA_cons (l : List UInt8) : chrA (38 :: l) = chrF l := by simp only [chrA, chrF, List.cons.injEq, true_and]
theorem of_toList {s : ByteArray} {l : List UInt8} (h : s.toList = l) : s = ⟨l.toArray⟩ := by
  rw [Lib.toList_data] at h; subst h; simp
theorem ret_i32 {a b : Int} (h : a = b) : Ending.returned (.int .i32 a) = .returned (.int .i32 b) := by rw [h]

set_option maxHeartbeats 4000000 in
set_option maxRecDepth 20000 in
theorem chr_any (s : ByteArray) (w : World) :
    Calls Tryd.prog 57 #[.string s] w fun e w' => e = .returned (.int .i32 (chrA s.data.toList)) ∧ w = w' := by
  by_cases e0 : s.toList = [38, 97, 109, 112]
  · obtain rfl := of_toList e0
    clear e0
    go_enter Tryd.func57, Tryd.ntmps57
    go_wp2_with fail
    go_ret
    exact ⟨rfl, rfl⟩
  have b0 : (s.toList == [38, 97, 109, 112]) = false := beq_eq_false_iff_ne.2 e0
  by_cases e1 : s.toList = [38, 108, 116]
  · obtain rfl := of_toList e1
    clear e1
    go_enter Tryd.func57, Tryd.ntmps57
    go_wp2_with fail
    go_ret
    exact ⟨rfl, rfl⟩
  have b1 : (s.toList == [38, 108, 116]) = false := beq_eq_false_iff_ne.2 e1
  by_cases e2 : s.toList = [38, 103, 116]
  · obtain rfl := of_toList e2
    clear e2
    go_enter Tryd.func57, Tryd.ntmps57
    go_wp2_with fail
    go_ret
    exact ⟨rfl, rfl⟩
  have b2 : (s.toList == [38, 103, 116]) = false := beq_eq_false_iff_ne.2 e2
  by_cases e3 : s.toList = [38, 113, 117, 111, 116]
  · obtain rfl := of_toList e3
    clear e3
    go_enter Tryd.func57, Tryd.ntmps57
    go_wp2_with fail
    go_ret
    exact ⟨rfl, rfl⟩
  have b3 : (s.toList == [38, 113, 117, 111, 116]) = false := beq_eq_false_iff_ne.2 e3
  by_cases e4 : s.toList = [38, 97, 112, 111, 115]
  · obtain rfl := of_toList e4
    clear e4
    go_enter Tryd.func57, Tryd.ntmps57
    go_wp2_with fail
    go_ret
    exact ⟨rfl, rfl⟩
  have b4 : (s.toList == [38, 97, 112, 111, 115]) = false := beq_eq_false_iff_ne.2 e4
  by_cases e5 : s.toList = [38, 110, 98, 115, 112]
  · obtain rfl := of_toList e5
    clear e5
    go_enter Tryd.func57, Tryd.ntmps57
    go_wp2_with fail
    go_ret
    exact ⟨rfl, rfl⟩
  have b5 : (s.toList == [38, 110, 98, 115, 112]) = false := beq_eq_false_iff_ne.2 e5
  by_cases e6 : s.toList = [38, 99, 111, 112, 121]
  · obtain rfl := of_toList e6
    clear e6
    go_enter Tryd.func57, Tryd.ntmps57
    go_wp2_with fail
    go_ret
    exact ⟨rfl, rfl⟩
  have b6 : (s.toList == [38, 99, 111, 112, 121]) = false := beq_eq_false_iff_ne.2 e6
  by_cases e7 : s.toList = [38, 114, 101, 103]
  · obtain rfl := of_toList e7
    clear e7
    go_enter Tryd.func57, Tryd.ntmps57
    go_wp2_with fail
    go_ret
    exact ⟨rfl, rfl⟩
  have b7 : (s.toList == [38, 114, 101, 103]) = false := beq_eq_false_iff_ne.2 e7
  by_cases e8 : s.toList = [38, 104, 101, 108, 108, 105, 112]
  · obtain rfl := of_toList e8
    clear e8
    go_enter Tryd.func57, Tryd.ntmps57
    go_wp2_with fail
    go_ret
    exact ⟨rfl, rfl⟩
  have b8 : (s.toList == [38, 104, 101, 108, 108, 105, 112]) = false := beq_eq_false_iff_ne.2 e8
  by_cases e9 : s.toList = [38, 109, 100, 97, 115, 104]
  · obtain rfl := of_toList e9
    clear e9
    go_enter Tryd.func57, Tryd.ntmps57
    go_wp2_with fail
    go_ret
    exact ⟨rfl, rfl⟩
  have b9 : (s.toList == [38, 109, 100, 97, 115, 104]) = false := beq_eq_false_iff_ne.2 e9
  by_cases e10 : s.toList = [38, 110, 100, 97, 115, 104]
  · obtain rfl := of_toList e10
    clear e10
    go_enter Tryd.func57, Tryd.ntmps57
    go_wp2_with fail
    go_ret
    exact ⟨rfl, rfl⟩
  have b10 : (s.toList == [38, 110, 100, 97, 115, 104]) = false := beq_eq_false_iff_ne.2 e10
  have Hn : Hid (chrA s.data.toList = 0) := Lib.hid (by
    rw [Lib.toList_data] at e0 e1 e2 e3 e4 e5 e6 e7 e8 e9 e10
    unfold chrA
    rw [if_neg e0, if_neg e1, if_neg e2, if_neg e3, if_neg e4, if_neg e5, if_neg e6, if_neg e7, if_neg e8, if_neg e9, if_neg e10])
  clear e0 e1 e2 e3 e4 e5 e6 e7 e8 e9 e10
  go_enter Tryd.func57, Tryd.ntmps57
  go_wp2_with fail
  go_ret
  exact ⟨ret_i32 (by rw [Hn.out]; rfl), rfl⟩

/-! A cut at the first of a byte. -/
def cutL (l : List UInt8) (c : UInt8) : List UInt8 × List UInt8 × Bool :=
  if 0 ≤ Lib.indexByte l c then (l.take (Lib.indexByte l c).toNat, l.drop ((Lib.indexByte l c).toNat + 1), true) else (l, [], false)
theorem str_ext (s : ByteArray) (l : List UInt8) (h : s.data.toList = l) : s = ofL l := by subst h; exact (ofL_eq s).symm
theorem take_str (s : ByteArray) (k : Nat) : s.extract 0 k = ofL (s.data.toList.take k) := str_ext _ _ (by rw [← Lib.toList_data, Lib.extract_toList]; simp)
theorem drop_str (s : ByteArray) (k : Nat) : s.extract k s.size = ofL (s.data.toList.drop k) := str_ext _ _ (by rw [← Lib.toList_data, Lib.extract_toList, List.take_of_length_le]; simp)
theorem mid_str (s : ByteArray) (i j : Nat) : s.extract i j = ofL ((s.data.toList.drop i).take (j - i)) := str_ext _ _ (by rw [← Lib.toList_data, Lib.extract_toList])
theorem ret_three {a b c d : ByteArray} {x y : Bool} (h1 : a = c) (h2 : b = d) (h3 : x = y) : Ending.returned (.tuple #[.string a, .string b, .bool x]) = .returned (.tuple #[.string c, .string d, .bool y]) := by rw [h1, h2, h3]
theorem byte_range (l : List UInt8) (c : UInt8) (h : 0 ≤ Lib.indexByte l c) : ∃ k : Nat, k < l.length ∧ Lib.indexByte l c = k := by
  obtain ⟨k, hk⟩ := Int.eq_ofNat_of_zero_le h
  obtain ⟨h1, _⟩ := Lib.indexByte_some hk
  exact ⟨k, (List.getElem?_eq_some_iff.1 h1).1, hk⟩
theorem byte_miss (a : List UInt8) (x : UInt8) (h : x ∉ a) : Lib.indexByte a x = -1 := by
  induction a with
  | nil => rfl
  | cons c t ih =>
    rw [Lib.indexByte, if_neg (by intro e; exact h (by rw [beq_iff_eq.1 e]; simp)), ih (fun hd => h (by simp [hd]))]
    rfl
theorem byte_hit (a : List UInt8) (x : UInt8) (t : List UInt8) (h : x ∉ a) : Lib.indexByte (a ++ x :: t) x = a.length := by
  induction a with
  | nil => rw [List.nil_append, Lib.indexByte, if_pos (by simp)]; rfl
  | cons c r ih =>
    rw [List.cons_append, Lib.indexByte, if_neg (by intro e; exact h (by rw [beq_iff_eq.1 e]; simp)), ih (fun hd => h (by simp [hd]))]
    simp

set_option maxHeartbeats 1000000 in
theorem lcut_any (s : ByteArray) (c : UInt8) (w : World) (hs : s.size ≤ 4096) :
    Calls Tryd.prog 69 #[.string s, .string ⟨#[c]⟩] w fun e w' => e = .returned (.tuple #[.string (ofL (cutL s.data.toList c).1), .string (ofL (cutL s.data.toList c).2.1), .bool (cutL s.data.toList c).2.2]) ∧ Below w.heap.size w w' := by
  by_cases h0 : 0 ≤ Lib.indexByte s.data.toList c
  · obtain ⟨k, hk, hi⟩ := byte_range _ _ h0
    have hks : k < s.size := by rw [Lib.size_eq]; exact hk
    have Hf : Hid (cutL s.data.toList c = (s.data.toList.take k, s.data.toList.drop (k + 1), true)) := Lib.hid (by rw [cutL, if_pos h0, hi]; rfl)
    have Hi := Lib.hid hi
    clear h0 hi hk
    go_enter Tryd.func69, Tryd.ntmps69
    go_wp2_with fail
    refine (Tryd.stringslite_Index_one s c _).mono ?_
    rintro e w' ⟨rfl, hw⟩
    rw [hw, Hi.out]
    clear hw
    go_wp2_with fail
    go_region
    all_goals (try go_wp2)
    all_goals go_ret3
    all_goals exact ⟨ret_three (by rw [Hf.out, take_str]) (by rw [Hf.out, drop_str]) (by rw [Hf.out]), (Below.refl _ _).drew⟩
  · have Hf : Hid (cutL s.data.toList c = (s.data.toList, [], false)) := Lib.hid (by rw [cutL, if_neg h0])
    have hi : Lib.indexByte s.data.toList c = -1 := by have := Lib.indexByte_ge s.data.toList c; omega
    have Hi := Lib.hid hi
    clear h0 hi
    go_enter Tryd.func69, Tryd.ntmps69
    go_wp2_with fail
    refine (Tryd.stringslite_Index_one s c _).mono ?_
    rintro e w' ⟨rfl, hw⟩
    rw [hw, Hi.out]
    clear hw
    go_wp2_with fail
    go_ret3
    exact ⟨ret_three (by rw [Hf.out, ofL_eq]) (by rw [Hf.out]; rfl) (by rw [Hf.out]), Below.refl _ _⟩

set_option maxHeartbeats 1000000 in
theorem cut_any (s : ByteArray) (c : UInt8) (w : World) (hs : s.size ≤ 4096) :
    Calls Tryd.prog 56 #[.string s, .string ⟨#[c]⟩] w fun e w' => e = .returned (.tuple #[.string (ofL (cutL s.data.toList c).1), .string (ofL (cutL s.data.toList c).2.1), .bool (cutL s.data.toList c).2.2]) ∧ Below w.heap.size w w' := by
  go_enter Tryd.func56, Tryd.ntmps56
  go_wp2_with fail
  refine (lcut_any s c _ hs).mono ?_
  rintro e w' ⟨rfl, hb⟩
  go_wp2_with fail
  go_ret3
  exact ⟨rfl, hb⟩

/-! Names. -/
theorem name_free (t : List UInt8) : 59 ∉ nameF t := by
  induction t with
  | nil => simp [nameF]
  | cons c r ih =>
    unfold nameF at ih ⊢
    by_cases h : c = 59
    · subst h; simp
    · rw [List.takeWhile_cons_of_pos (by simpa using h)]
      intro hm
      rcases List.mem_cons.1 hm with e | e
      · exact h e.symm
      · exact ih e
theorem name_split (t : List UInt8) (h : (nameF t).length < t.length) : ∃ r, t = nameF t ++ 59 :: r := by
  induction t with
  | nil => simp [nameF] at h
  | cons c r ih =>
    unfold nameF at ih h ⊢
    by_cases e : c = 59
    · subst e; exact ⟨r, by simp⟩
    · rw [List.takeWhile_cons_of_pos (by simpa using e)] at h ⊢
      obtain ⟨x, hx⟩ := ih (by simpa using h)
      refine ⟨x, ?_⟩
      rw [List.cons_append, ← hx]
theorem name_whole (t : List UInt8) (h : ¬ (nameF t).length < t.length) : 59 ∉ t := by
  have e : nameF t = t := List.IsPrefix.eq_of_length (List.takeWhile_prefix _) (by have := (List.takeWhile_prefix (l := t) (fun c : UInt8 => c != 59)).length_le; unfold nameF at *; omega)
  rw [← e]; exact name_free t

/-- What the reader of names answers. -/
def namR (t : List UInt8) : Value := if (nameF t).length < t.length ∧ chrF (nameF t) ≠ 0 then .tuple #[.int .i32 (chrF (nameF t)), .int .i64 ((nameF t).length + 2 : Nat)] else .tuple #[.int .i32 0, .int .i64 0]

theorem cut_name (t : List UInt8) (h : (nameF t).length < t.length) (h6 : (nameF t).length ≤ 6) : ∃ r, cutL ((38 :: t).take 8) 59 = (38 :: nameF t, r, true) := by
  obtain ⟨x, hx⟩ := name_split t h
  have hf := name_free t
  generalize nameF t = m at *
  subst hx
  have e : (38 :: (m ++ 59 :: x)).take 8 = (38 :: m) ++ 59 :: x.take (8 - (m.length + 1 + 1)) := by
    rw [show (8 : Nat) = (38 :: m).length + (8 - (m.length + 1)) by simp; omega, show (38 :: (m ++ 59 :: x)) = (38 :: m) ++ 59 :: x from rfl, List.take_length_add_append]
    rw [show 8 - (m.length + 1) = (8 - (m.length + 1 + 1)) + 1 by omega]
    simp
    omega
  have hn : (59 : UInt8) ∉ 38 :: m := fun hm => (List.mem_cons.1 hm).elim (fun h1 => by cases h1) hf
  rw [e, cutL, byte_hit _ _ _ hn, if_pos (by omega)]
  have hk : ((((38 :: m).length : Nat) : Int)).toNat = (38 :: m).length := Int.toNat_natCast _
  rw [hk, List.take_left]
  exact ⟨_, rfl⟩
theorem cut_no (t : List UInt8) (h : ¬ ((nameF t).length < t.length ∧ (nameF t).length ≤ 6)) : cutL ((38 :: t).take 8) 59 = ((38 :: t).take 8, [], false) := by
  have hm : 59 ∉ (38 :: t).take 8 := by
    by_cases h1 : (nameF t).length < t.length
    · have h2 : 7 ≤ (nameF t).length := by have : ¬ (nameF t).length ≤ 6 := fun x => h ⟨h1, x⟩; omega
      obtain ⟨x, hx⟩ := name_split t h1
      have hf := name_free t
      generalize nameF t = m at *
      subst hx
      rw [show (38 :: (m ++ 59 :: x)) = (38 :: m) ++ 59 :: x from rfl, List.take_append_of_le_length (by simp; omega)]
      intro hc
      have := List.mem_of_mem_take hc
      rcases List.mem_cons.1 this with e | e
      · cases e
      · exact hf e
    · have := name_whole t h1
      intro hc
      rcases List.mem_cons.1 (List.mem_of_mem_take hc) with e | e
      · cases e
      · exact this e
  rw [cutL, byte_miss _ _ hm, if_neg (by omega)]

set_option maxHeartbeats 1000000 in
theorem named_any (s : ByteArray) (t : List UInt8) (w : World) (hl : s.data.toList = 38 :: t) (hs : s.size ≤ 140737488355328) :
    Calls Tryd.prog 43 #[.string s] w fun e w' => e = .returned (namR t) ∧ Below w.heap.size w w' := by
  have Hl := Lib.hid hl; clear hl
  have key : ∀ m : Nat, m ≤ s.size → m ≤ 8 → (s.size ≤ m ∨ m = 8) → (s.extract 0 m).size ≤ 4096 ∧ (s.extract 0 m).data.toList = (38 :: t).take 8 := by
    intro m h1 h2 h3
    refine ⟨by simp; omega, ?_⟩
    rw [take_str, ofL_list, Hl.out]
    have := list_size s
    rw [Hl.out] at this
    rcases h3 with h3 | rfl
    · rw [List.take_of_length_le (by omega), List.take_of_length_le (by omega)]
    · rfl
  have hmin : ∃ m : Nat, min (s.size : Int) 8 = m ∧ m ≤ s.size ∧ m ≤ 8 ∧ (s.size ≤ m ∨ m = 8) := by
    by_cases h : s.size ≤ 8
    · exact ⟨s.size, by omega, by omega, by omega, .inl (by omega)⟩
    · exact ⟨8, by omega, by omega, by omega, .inr rfl⟩
  obtain ⟨m, hm0, hm1, hm2, hm3⟩ := hmin
  obtain ⟨k1, k2⟩ := key m hm1 hm2 hm3
  clear key hm3
  have K1 := Lib.hid k1
  have K2 := Lib.hid k2
  clear k1 k2
  go_enter Tryd.func43, Tryd.ntmps43
  go_wp2_with fail
  refine (cut_any _ 59 _ K1.out).mono ?_
  rintro e w1 ⟨rfl, hb⟩
  rw [K2.out]
  have HB := Lib.hid hb; clear hb
  by_cases hq : (nameF t).length < t.length ∧ (nameF t).length ≤ 6
  · obtain ⟨r, hr⟩ := cut_name t hq.1 hq.2
    rw [hr]
    go_wp2_with fail
    refine (chr_any _ _).mono ?_
    rintro e w2 ⟨rfl, rfl⟩
    rw [ofL_list, chrA_cons]
    have hz : (ofL (38 :: nameF t)).size = (nameF t).length + 1 := by rw [ofL_size]; rfl
    generalize (ofL (38 :: nameF t)) = nm at *
    by_cases hc : chrF (nameF t) = 0
    · have Hf : Hid (namR t = .tuple #[.int .i32 0, .int .i64 0]) := Lib.hid (by rw [namR, if_neg (fun h => h.2 hc)])
      rw [hc]
      clear hc hq hr
      go_wp2_with fail
      go_ret2
      exact ⟨by rw [Hf.out]; rfl, HB.out⟩
    · have Hf : Hid (namR t = .tuple #[.int .i32 (chrF (nameF t)), .int .i64 ((nameF t).length + 2 : Nat)]) := Lib.hid (by rw [namR, if_pos ⟨hq.1, hc⟩])
      have hc' : ((chrF (nameF t) : Nat) : Int) ≠ 0 := by omega
      have h6 := hq.2
      clear hc hq hr
      generalize chrF (nameF t) = v at *
      generalize (nameF t).length = n at *
      go_wp2_with fail
      go_ret2
      exact ⟨by rw [Hf.out]; exact ret_pair rfl (by omega), HB.out⟩
  · have hr := cut_no t hq
    have Hf : Hid (namR t = .tuple #[.int .i32 0, .int .i64 0]) := Lib.hid (by rw [namR, if_neg (fun h => hq ⟨h.1, (chrF_len _ h.2).2⟩)])
    rw [hr]
    clear hr hq
    generalize (ofL (List.take 8 (38 :: t))) = nm at *
    go_wp2_with fail
    go_ret2
    exact ⟨by rw [Hf.out]; rfl, HB.out⟩

/-- What 'entity' answers. -/
def entR (t : List UInt8) : Value := match entF t with
  | some x => .tuple #[.int .i32 x.1, .int .i64 x.2]
  | none => .tuple #[.int .i32 0, .int .i64 0]
theorem pre_dec (t : List UInt8) : Lib.hasPrefix (38 :: t) [38, 35] = decide (t.head? = some 35) := by
  unfold Lib.hasPrefix
  cases t with
  | nil => rfl
  | cons a r =>
    by_cases ha : a = 35
    · subst ha; simp [List.isPrefixOf]
    · have h1 : ((35 : UInt8) == a) = false := beq_eq_false_iff_ne.2 (fun e => ha e.symm)
      simp [List.isPrefixOf, h1, ha]
theorem pre_hex (t : List UInt8) : Lib.hasPrefix (38 :: t) [38, 35, 120] = decide (t.head? = some 35 ∧ t.tail.head? = some 120) := by
  unfold Lib.hasPrefix
  cases t with
  | nil => rfl
  | cons a r =>
    by_cases ha : a = 35
    · subst ha
      cases r with
      | nil => simp [List.isPrefixOf]
      | cons b q =>
        by_cases hb : b = 120
        · subst hb; simp [List.isPrefixOf]
        · have h1 : ((120 : UInt8) == b) = false := beq_eq_false_iff_ne.2 (fun e => hb e.symm)
          simp [List.isPrefixOf, h1, hb]
    · have h1 : ((35 : UInt8) == a) = false := beq_eq_false_iff_ne.2 (fun e => ha e.symm)
      simp [List.isPrefixOf, h1, ha]
theorem pref_any (s : ByteArray) (p : List UInt8) (w : World) :
    Calls Tryd.prog 39 #[.string s, .string ⟨p.toArray⟩] w fun e w' => e = .returned (.bool (Lib.hasPrefix s.data.toList p)) ∧ w = w' := by
  refine (Tryd.strings_HasPrefix s ⟨p.toArray⟩ w).mono ?_
  rintro e w' ⟨rfl, rfl⟩
  exact ⟨by simp, rfl⟩
theorem ent_hex (t : List UInt8) (h : t.head? = some 35 ∧ t.tail.head? = some 120) : numR 3 (numF true 0 0 ((38 :: t).drop 3)) = entR t := by
  rw [show (38 :: t).drop 3 = t.tail.tail by cases t with | nil => rfl | cons a r => cases r <;> rfl, entR, entF, if_pos h.1, if_pos h.2]
  cases numF true 0 0 t.tail.tail with
  | none => rfl
  | some x =>
    show Value.tuple #[_, .int .i64 ((3 + x.2 : Nat) : Int)] = _
    rw [Nat.add_comm]; rfl
theorem ent_dec (t : List UInt8) (h : t.head? = some 35) (h' : ¬ (t.head? = some 35 ∧ t.tail.head? = some 120)) : numR 2 (numF false 0 0 ((38 :: t).drop 2)) = entR t := by
  rw [show (38 :: t).drop 2 = t.tail by cases t <;> rfl, entR, entF, if_pos h, if_neg (fun x => h' ⟨h, x⟩)]
  cases numF false 0 0 t.tail with
  | none => rfl
  | some x =>
    show Value.tuple #[_, .int .i64 ((2 + x.2 : Nat) : Int)] = _
    rw [Nat.add_comm]; rfl
theorem ent_name (t : List UInt8) (h : ¬ t.head? = some 35) : namR t = entR t := by
  rw [entR, entF, if_neg h, namR]
  split <;> rfl
/-- The two limbs of an answer. -/
def parts1 : Option (Nat × Nat) → Int × Int
  | some x => (x.1, x.2)
  | none => (0, 0)
theorem entR_parts (t : List UInt8) : ∃ a b : Int, entR t = .tuple #[.int .i32 a, .int .i64 b] := by
  unfold entR; split <;> exact ⟨_, _, rfl⟩

set_option maxHeartbeats 1000000 in
theorem entity_any (s : ByteArray) (t : List UInt8) (w : World) (hl : s.data.toList = 38 :: t) (hs : s.size ≤ 140737488355328) :
    Calls Tryd.prog 24 #[.string s] w fun e w' => e = .returned (entR t) ∧ Below w.heap.size w w' := by
  have Hl := Lib.hid hl; clear hl
  have H1 := Lib.hid (pre_hex t)
  have H2 := Lib.hid (pre_dec t)
  have hsz : s.size = t.length + 1 := by rw [← list_size, Hl.out]; rfl
  have HZ := Lib.hid hsz; clear hsz
  obtain ⟨a, b, hab⟩ := entR_parts t
  have Hab := Lib.hid hab; clear hab
  have g1 : ∀ h : t.head? = some 35 ∧ t.tail.head? = some 120, 3 ≤ s.size := fun h => by
    rw [HZ.out]
    cases t with
    | nil => cases h.1
    | cons x r => cases r with
      | nil => cases h.2
      | cons => simp
  have g2 : ∀ h : t.head? = some 35, 2 ≤ s.size := fun h => by
    rw [HZ.out]
    cases t with
    | nil => cases h
    | cons => simp
  go_enter Tryd.func24, Tryd.ntmps24
  go_wp2_with fail
  refine (pref_any s [38, 35, 120] _).mono ?_
  rintro e w1 ⟨rfl, rfl⟩
  rw [Hl.out, H1.out]
  by_cases h1 : t.head? = some 35 ∧ t.tail.head? = some 120
  · have He := Lib.hid (ent_hex t h1)
    have g := g1 h1
    rw [decide_eq_true h1]
    clear h1 g1 g2
    go_wp2_with fail
    refine (numd_hex s _ g hs).mono ?_
    rintro e w2 ⟨rfl, rfl⟩
    rw [Hl.out, He.out, Hab.out]
    go_wp2_with fail
    go_ret2
    exact ⟨by rw [Hab.out]; rfl, Below.refl _ _⟩
  · have g := g2
    have Hh := Lib.hid h1
    rw [decide_eq_false h1]
    clear h1 g1 g2
    go_wp2_with fail
    refine (pref_any s [38, 35] _).mono ?_
    rintro e w1 ⟨rfl, rfl⟩
    rw [Hl.out, H2.out]
    by_cases h2 : t.head? = some 35
    · have He := Lib.hid (ent_dec t h2 Hh.out)
      have gg := g h2
      rw [decide_eq_true h2]
      clear h2 g
      go_wp2_with fail
      refine (numd_dec s _ gg hs).mono ?_
      rintro e w2 ⟨rfl, rfl⟩
      rw [Hl.out, He.out, Hab.out]
      go_wp2_with fail
      go_ret2
      exact ⟨by rw [Hab.out]; rfl, Below.refl _ _⟩
    · have He := Lib.hid (ent_name t h2)
      rw [decide_eq_false h2]
      clear h2 g
      go_wp2_with fail
      refine (named_any s t _ Hl.out hs).mono ?_
      rintro e w2 ⟨rfl, hb⟩
      rw [He.out, Hab.out]
      go_wp2_with fail
      go_ret2
      exact ⟨by rw [Hab.out]; rfl, hb⟩

end Jsx
end Go.Proofs.YtcalgpkcefccmaaDoor
