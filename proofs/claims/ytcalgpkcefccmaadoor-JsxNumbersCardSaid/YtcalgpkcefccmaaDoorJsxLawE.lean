/-
  A character's number stands for it.
-/
import Derived.Test.YtcalgpkcefccmaaDoorJsxLawA
import Derived.Test.YtcalgpkcefccmaaDoorLexDec
namespace Go.Proofs.YtcalgpkcefccmaaDoor
namespace Jsx
open Go.RowKit

/-! Values. -/
def baseN (hex : Bool) : Nat := if hex = true then 16 else 10
def valF (hex : Bool) : Nat → List UInt8 → Nat
  | v, [] => v
  | v, c :: t => valF hex (baseN hex * v + (digH hex c).getD 0) t
def digitsF (hex : Bool) (l : List UInt8) : Prop := ∀ c ∈ l, (digH hex c).isSome = true
theorem cap_cap (hex : Bool) (v d : Nat) : stepN hex (capN v) d = capN (baseN hex * v + d) := by
  unfold stepN baseN capN
  cases hex
  · simp only [Bool.false_eq_true, if_false]
    by_cases h : v ≤ 1114112
    · rw [if_pos h]
    · rw [if_neg h, if_neg (by omega), if_neg (by omega)]
  · simp only [if_true]
    by_cases h : v ≤ 1114112
    · rw [if_pos h]
    · rw [if_neg h, if_neg (by omega), if_neg (by omega)]
theorem digs_val (hex : Bool) : ∀ (l : List UInt8) (v : Nat), digitsF hex l → digsF hex (capN v) l = capN (valF hex v l)
  | [], v, _ => rfl
  | c :: t, v, h => by
    have hc := h c (by simp)
    obtain ⟨d, hd⟩ := Option.isSome_iff_exists.1 hc
    rw [digsF, hd, valF, hd]
    show digsF hex (stepN hex (capN v) d) t = _
    rw [cap_cap, digs_val hex t _ (fun x hx => h x (by simp [hx]))]; rfl
theorem val_app (hex : Bool) : ∀ (a b : List UInt8) (v : Nat), valF hex v (a ++ b) = valF hex (valF hex v a) b
  | [], _, _ => rfl
  | c :: a, b, v => by rw [List.cons_append, valF, valF, val_app hex a b]
theorem val_zeros (hex : Bool) : ∀ k : Nat, valF hex 0 (List.replicate k 48) = 0
  | 0 => rfl
  | k + 1 => by
    rw [List.replicate_succ, valF, show (digH hex 48).getD 0 = 0 by cases hex <;> decide]
    simpa using val_zeros hex k
theorem zeros_digits (hex : Bool) (k : Nat) : digitsF hex (List.replicate k 48) := by
  intro c hc
  rw [List.eq_of_mem_replicate hc]; cases hex <;> decide
theorem digits_app {hex : Bool} {a b : List UInt8} (h : digitsF hex a) (k : digitsF hex b) : digitsF hex (a ++ b) := fun c hc => (List.mem_append.1 hc).elim (h c) (k c)
theorem dec_chr : ∀ d : Nat, d < 10 → digH false (UInt8.ofNat (48 + d)) = some d := by decide +kernel
theorem dec_digits (n : Nat) : digitsF false (Lib.decDigits n) ∧ valF false 0 (Lib.decDigits n) = n := by
  induction n using Nat.strongRecOn with
  | ind n ih =>
    have hd := dec_chr (n % 10) (Nat.mod_lt _ (by decide))
    by_cases h0 : n / 10 = 0
    · rw [Num.dec_last n h0]
      refine ⟨fun c hc => by rw [List.mem_singleton.1 hc, hd]; rfl, ?_⟩
      rw [valF, valF, hd]
      show 10 * 0 + n % 10 = n
      omega
    · obtain ⟨i1, i2⟩ := ih (n / 10) (by omega)
      rw [Num.dec_step n h0]
      refine ⟨digits_app i1 (fun c hc => by rw [List.mem_singleton.1 hc, hd]; rfl), ?_⟩
      rw [val_app, i2, valF, valF, hd]
      show 10 * (n / 10) + n % 10 = n
      omega

/-! Hexadecimal numerals, as the law writes them. -/
def hxL : List UInt8 := [48, 49, 50, 51, 52, 53, 54, 55, 56, 57, 97, 98, 99, 68, 69, 70]
def hxC (d : Nat) : UInt8 := hxL.getD d 0
theorem hex_chr : ∀ d : Nat, d < 16 → digH true (hxC d) = some d := by decide +kernel
theorem hex_cut : ∀ d : Nat, d < 16 → (⟨#[48, 49, 50, 51, 52, 53, 54, 55, 56, 57, 97, 98, 99, 68, 69, 70]⟩ : ByteArray).extract d (d + 1) = ofL [hxC d] := by decide +kernel
def hexF : Nat → Nat → List UInt8
  | 0, _ => []
  | f + 1, y => if y < 16 then [hxC y] else hexF f (y / 16) ++ [hxC (y % 16)]
theorem hex_digits : ∀ (f y : Nat), y < 16 ^ f → 0 < f → digitsF true (hexF f y) ∧ valF true 0 (hexF f y) = y
  | 0, _, _, h => absurd h (by decide)
  | f + 1, y, hy, _ => by
    rw [hexF]
    by_cases h16 : y < 16
    · rw [if_pos h16]
      have hd := hex_chr y h16
      refine ⟨fun c hc => by rw [List.mem_singleton.1 hc, hd]; rfl, ?_⟩
      rw [valF, valF, hd]
      show 16 * 0 + y = y
      omega
    · rw [if_neg h16]
      have hd := hex_chr (y % 16) (Nat.mod_lt _ (by decide))
      have hf : 0 < f := by
        rcases Nat.eq_zero_or_pos f with h | h
        · subst h; simp at hy; omega
        · exact h
      have hy2 : y / 16 < 16 ^ f := by rw [Nat.pow_succ] at hy; omega
      obtain ⟨i1, i2⟩ := hex_digits f (y / 16) hy2 hf
      refine ⟨digits_app i1 (fun c hc => by rw [List.mem_singleton.1 hc, hd]; rfl), ?_⟩
      rw [val_app, i2, valF, valF, hd]
      show 16 * (y / 16) + y % 16 = y
      omega
theorem hex_len : ∀ (f y : Nat), (hexF f y).length ≤ f
  | 0, _ => by simp [hexF]
  | f + 1, y => by
    rw [hexF]
    split
    · simp
    · have := hex_len f (y / 16); rw [List.length_append]; simp; omega
/-- Where the loop of the numeral stands. -/
def HAt (n y : Nat) (h : List UInt8) : Prop := ∃ f, f ≤ 6 ∧ y < 16 ^ f ∧ ((h = [] ∧ f = 6 ∧ y = n) ∨ (h ≠ [] ∧ y = 0 ∧ hexF 6 n = h) ∨ (h ≠ [] ∧ 0 < y ∧ hexF 6 n = hexF f y ++ h))
theorem HAt.step {n y : Nat} {h : List UInt8} (ha : HAt n y h) (hc : 0 < y ∨ h = []) : HAt n (y / 16) (hxC (y % 16) :: h) := by
  obtain ⟨f, hf, hy, hk⟩ := ha
  have key : ∀ f, f ≤ 6 → y < 16 ^ f → hexF 6 n = hexF f y ++ h → 0 < f → HAt n (y / 16) (hxC (y % 16) :: h) := by
    intro f hf hy e h0
    obtain ⟨g, rfl⟩ : ∃ g, f = g + 1 := ⟨f - 1, by omega⟩
    by_cases h16 : y < 16
    · refine ⟨0, by omega, by simp; omega, .inr (.inl ⟨by simp, by omega, ?_⟩)⟩
      rw [e, hexF, if_pos h16, Nat.mod_eq_of_lt h16]; rfl
    · refine ⟨g, by omega, by rw [Nat.pow_succ] at hy; omega, .inr (.inr ⟨by simp, by omega, ?_⟩)⟩
      rw [e, hexF, if_neg h16]; simp
  rcases hk with ⟨h1, h2, h3⟩ | ⟨h1, h2, h3⟩ | ⟨h1, h2, h3⟩
  · subst h1; subst h2; subst h3
    exact key 6 (by omega) hy (by simp) (by omega)
  · rcases hc with h | h
    · omega
    · exact absurd h h1
  · refine key f hf hy h3 ?_
    rcases Nat.eq_zero_or_pos f with h0 | h0
    · subst h0; simp at hy; omega
    · exact h0
theorem HAt.done {n y : Nat} {h : List UInt8} (ha : HAt n y h) (hc : ¬ (0 < y ∨ h = [])) : hexF 6 n = h := by
  obtain ⟨f, hf, hy, hk⟩ := ha
  rcases hk with ⟨h1, _, _⟩ | ⟨_, _, h3⟩ | ⟨_, h2, _⟩
  · exact absurd (.inr h1) hc
  · exact h3
  · exact absurd (.inl h2) hc
theorem HAt.len {n y : Nat} {h : List UInt8} (ha : HAt n y h) : h.length ≤ 6 := by
  obtain ⟨f, hf, hy, hk⟩ := ha
  have := hex_len 6 n
  rcases hk with ⟨h1, _, _⟩ | ⟨_, _, h3⟩ | ⟨_, _, h3⟩
  · rw [h1]; simp
  · rw [← h3]; exact this
  · rw [h3, List.length_append] at this; omega

/-! The two texts. -/
theorem digH_hash (hex : Bool) : digH hex 120 = none := by cases hex <;> decide
theorem no_semi {hex : Bool} {m : List UInt8} (h : digitsF hex m) : (59 : UInt8) ∉ m := fun hm => by
  have := h 59 hm
  rw [digH_semi] at this; cases this
theorem cap_bad (n : Nat) : badV (capN n) ↔ badV n := by
  unfold badV capN
  split <;> omega
theorem num_read (hex : Bool) (m : List UInt8) (n : Nat) (hD : digitsF hex m) (hm : 0 < m.length) (hval : valF hex 0 m = n) : numF hex 0 0 (m ++ [59]) = some (capN n, m.length + 1) := by
  rw [numF_semi hex [] m 0 0 (no_semi hD)]
  have hd := digs_val hex m 0 hD
  rw [hval, show capN 0 = 0 from rfl] at hd
  rw [hd, if_pos ⟨by omega, by omega⟩]
  simp
theorem ents_fin (t : List UInt8) (n m : Nat) (he : entF t = some (capN n, m)) (hm : t.length + 1 = m) : ents 0 0 (98 :: 38 :: t) = if badV n then .error 1 else .ok (98 :: Lib.encodeRune n) := by
  rw [ents_plain 0 98 _ (by decide)]
  by_cases hb : badV n
  · rw [if_pos hb, ents_bad _ _ _ _ he ((cap_bad n).2 hb)]; rfl
  · rw [if_neg hb, ents_some _ _ _ _ he (fun h => hb ((cap_bad n).1 h)) (by omega), List.drop_eq_nil_of_le (by omega), ents_nil]
    have : capN n = n := by unfold capN; unfold badV at hb; rw [if_pos (by omega)]
    rw [this]
    simp [prep]
theorem dec_ne (n : Nat) : 0 < (Lib.decDigits n).length := by
  by_cases h0 : n / 10 = 0
  · rw [Num.dec_last n h0]; simp
  · rw [Num.dec_step n h0, List.length_append]; simp
theorem hexF_ne (f n : Nat) : 0 < (hexF (f + 1) n).length := by
  rw [hexF]; split
  · simp
  · rw [List.length_append]; simp
theorem ents_dec (k n : Nat) : ents 0 0 ([98, 38, 35] ++ (List.replicate k 48 ++ Lib.decDigits n) ++ [59]) = if badV n then .error 1 else .ok (98 :: Lib.encodeRune n) := by
  obtain ⟨d1, d2⟩ := dec_digits n
  have hD := digits_app (zeros_digits false k) d1
  have hval : valF false 0 (List.replicate k 48 ++ Lib.decDigits n) = n := by rw [val_app, val_zeros, d2]
  have hm : 0 < (List.replicate k 48 ++ Lib.decDigits n).length := by have := dec_ne n; rw [List.length_append]; omega
  generalize List.replicate k 48 ++ Lib.decDigits n = m at *
  have hr := num_read false m n hD hm hval
  have h120 : (m ++ [59]).head? ≠ some 120 := by
    cases m with
    | nil => simp at hm
    | cons c t =>
      have := hD c (by simp)
      intro e
      simp only [List.cons_append, List.head?_cons, Option.some.injEq] at e
      rw [e, digH_hash] at this; cases this
  show ents 0 0 (98 :: 38 :: (35 :: (m ++ [59]))) = _
  refine ents_fin (35 :: (m ++ [59])) n (m.length + 1 + 2) ?_ (by simp)
  rw [entF_hash, if_neg h120, hr]; rfl
theorem ents_hex (k n : Nat) (hn : n < 1114128) : ents 0 0 ([98, 38, 35, 120] ++ (List.replicate k 48 ++ hexF 6 n) ++ [59]) = if badV n then .error 1 else .ok (98 :: Lib.encodeRune n) := by
  obtain ⟨d1, d2⟩ := hex_digits 6 n (by omega) (by omega)
  have hD := digits_app (zeros_digits true k) d1
  have hval : valF true 0 (List.replicate k 48 ++ hexF 6 n) = n := by rw [val_app, val_zeros, d2]
  have hm : 0 < (List.replicate k 48 ++ hexF 6 n).length := by have : 0 < (hexF 6 n).length := hexF_ne 5 n; rw [List.length_append]; omega
  generalize List.replicate k 48 ++ hexF 6 n = m at *
  have hr := num_read true m n hD hm hval
  show ents 0 0 (98 :: 38 :: (35 :: 120 :: (m ++ [59]))) = _
  refine ents_fin (35 :: 120 :: (m ++ [59])) n (m.length + 1 + 3) ?_ (by simp)
  rw [entF_hash, if_pos (show (120 :: (m ++ [59])).head? = some 120 from rfl), List.tail_cons, hr]; rfl

theorem i64_mask (a : Int) (k m : Nat) (hm : m = 2 ^ k - 1) (hk : k < 63) : bits .and .i64 a (m : Int) = a % ((2 ^ k : Nat) : Int) := by
  have hp : 2 ^ k ≤ 2 ^ 62 := Nat.pow_le_pow_right (by decide) (by omega)
  have hp2 : (2 : Nat) ^ 62 < 2 ^ 63 := by decide
  have hm63 : m < 9223372036854775808 := by omega
  show IntKind.i64.wrap ((BitVec.ofInt 64 a &&& BitVec.ofInt 64 (m : Int)).toNat : Int) = _
  rw [BitVec.toNat_and, Uni.ofInt_i64 m hm63, hm, Nat.and_two_pow_sub_one_eq_mod, IntKind.wrap_i64, BitVec.toNat_ofInt]
  have h1 : (((a % ((2 : Nat) ^ 64 : Nat)).toNat % 2 ^ k : Nat) : Int) = a % ((2 ^ k : Nat) : Int) := by
    rw [Int.natCast_emod, Int.toNat_of_nonneg (Int.emod_nonneg _ (by decide))]
    exact Int.emod_emod_of_dvd a (by
      have : (2 : Nat) ^ k ∣ 2 ^ 64 := Nat.pow_dvd_pow 2 (by omega)
      exact Int.natCast_dvd_natCast.2 this)
  rw [h1]
  have h2 : 0 ≤ a % ((2 ^ k : Nat) : Int) := Int.emod_nonneg _ (by have := Nat.pow_pos (n := k) (show 0 < 2 by decide); omega)
  have h3 : a % ((2 ^ k : Nat) : Int) < ((2 ^ k : Nat) : Int) := Int.emod_lt_of_pos _ (by have := Nat.pow_pos (n := k) (show 0 < 2 by decide); omega)
  omega

theorem zero_cut : ∀ k : Nat, k ≤ 9 → (⟨#[48, 48, 48, 48, 48, 48, 48, 48, 48]⟩ : ByteArray).extract 0 k = ofL (List.replicate k 48) := by decide +kernel
theorem num_of (r : Int) : ∃ n : Nat, n < 1114128 ∧ wrap64 ((IntKind.u64.wrap r).tmod 1114128) = n := by
  have h0 : 0 ≤ IntKind.u64.wrap r := by rw [IntKind.wrap_u64]; omega
  have h1 := Int.tmod_eq_emod_of_nonneg (b := 1114128) h0
  refine ⟨((IntKind.u64.wrap r) % 1114128).toNat, by omega, ?_⟩
  rw [h1, IntWalk.wrap64_in _ ⟨by omega, by omega⟩]
  omega
theorem mask_of (z : Int) : ∃ k : Nat, k ≤ 7 ∧ bits .and .i64 z 7 = k := by
  have h := i64_mask z 3 7 rfl (by decide)
  refine ⟨(z % 8).toNat, by omega, ?_⟩
  show bits .and .i64 z ((7 : Nat) : Int) = _
  rw [h]
  show z % ((8 : Nat) : Int) = _
  omega
def hexM (h y : Value) : Nat := 2 * (intOf y).toNat + (if strLn h = 0 then 1 else 0)
where strLn : Value → Nat
  | .string s => s.size
  | _ => 0
theorem hexM_less (h : List UInt8) (c : UInt8) (k : Nat) (hc : 0 < k ∨ h = []) : hexM (.string (ofL (c :: h))) (.int .i64 (k / 16 : Nat)) < hexM (.string (ofL h)) (.int .i64 k) := by
  unfold hexM
  have e1 : hexM.strLn (.string (ofL (c :: h))) = h.length + 1 := ofL_size (c :: h)
  have e2 : hexM.strLn (.string (ofL h)) = h.length := ofL_size h
  rw [e1, e2, if_neg (by omega)]
  simp only [intOf, Int.toNat_natCast]
  rcases hc with h0 | h0
  · split <;> omega
  · rw [if_pos (by rw [h0]; rfl)]; omega
theorem cat_list (a b : ByteArray) : (a ++ b).data.toList = a.data.toList ++ b.data.toList := by simp [ByteArray.data_append]
theorem hex_cat (d : Nat) (hd : d < 16) (h : List UInt8) : (⟨#[48, 49, 50, 51, 52, 53, 54, 55, 56, 57, 97, 98, 99, 68, 69, 70]⟩ : ByteArray).extract d (d + 1) ++ ofL h = ofL (hxC d :: h) := by
  rw [hex_cut d hd]
  apply ByteArray.ext
  apply Array.ext'
  simp [ofL]

set_option maxHeartbeats 8000000 in
set_option maxRecDepth 20000 in
theorem law_numbers (r z : Int) (W : World) (_hT : True) :
    Calls Tryd.prog 7 #[.int .i64 r, .int .i64 z] W fun e w' => e = .returned (.bool true) ∧ Below W.heap.size W w' := by
  obtain ⟨n, hn, hx⟩ := num_of r
  obtain ⟨kz, hkz, hz⟩ := mask_of z
  have Hz := Lib.hid hz
  clear hz
  go_enter Tryd.func7, Tryd.ntmps7
  go_wp2_with fail
  refine (awake_any _).mono ?_
  rintro e w1 ⟨rfl, hb1⟩
  go_wp2_with fail
  rw [hx]
  clear hx
  go_loop [6, 7] (fun h y => ∃ (hs : List UInt8) (k : Nat), h = .string (ofL hs) ∧ y = .int .i64 k ∧ k < 1114128 ∧ Hid (HAt n k hs)) (fun h y => hexM h y)
  case atStart => exact ⟨[], n, rfl, rfl, hn, Lib.hid ⟨6, by omega, by omega, .inl ⟨rfl, rfl, rfl⟩⟩⟩
  case round =>
    obtain ⟨hs, k, rfl, rfl, hk, Hh⟩ := hrel
    have hhl := Hh.out.len
    have hhz : (ofL hs).size ≤ 6 := by rw [ofL_size]; exact hhl
    by_cases hk0 : 0 < k
    · have Hn := Lib.hid (Hh.out.step (.inl hk0))
      have Hcat := Lib.hid (hex_cat (k % 16) (Nat.mod_lt _ (by decide)) hs)
      have Hms := Lib.hid (hexM_less hs (hxC (k % 16)) k (.inl hk0))
      have h16 : k % 16 < 16 := Nat.mod_lt _ (by decide)
      have hk16 : k / 16 < 1114128 := by omega
      go_wp2_with fail
      go_round
      case rel => exact ⟨hxC (k % 16) :: hs, k / 16, by rw [Hcat.out], by go_num, hk16, Hn⟩
      case measure => rw [Hcat.out]; exact Hms.out
    · have hkn : ¬ ((k : Int) > 0) := by omega
      have hemp := emp_iff (ofL hs) _ (ofL_list hs)
      by_cases hh : hs = []
      · have hemp' : (ofL hs).toList.isEmpty = true := by rw [hemp, hh]; rfl
        have Hn := Lib.hid (Hh.out.step (.inr hh))
        have Hcat := Lib.hid (hex_cat (k % 16) (Nat.mod_lt _ (by decide)) hs)
        have Hms := Lib.hid (hexM_less hs (hxC (k % 16)) k (.inr hh))
        have h16 : k % 16 < 16 := Nat.mod_lt _ (by decide)
        have hk16 : k / 16 < 1114128 := by omega
        clear hemp hh
        go_wp2_with fail
        go_round
        case rel => exact ⟨hxC (k % 16) :: hs, k / 16, by rw [Hcat.out], by go_num, hk16, Hn⟩
        case measure => rw [Hcat.out]; exact Hms.out
      · have hemp' : (ofL hs).toList.isEmpty = false := by rw [hemp]; cases hs with | nil => exact absurd rfl hh | cons => rfl
        have hfin := Hh.out.done (fun h => h.elim hk0 hh)
        have Hhs : Hid ((ofL hs).data.toList = hexF 6 n) := Lib.hid (by rw [ofL_list, hfin])
        clear hemp hh hfin Hh hhl
        generalize ofL hs = hx at *
        have hz := Hz.out
        clear Hz
        go_wp2_with fail
        rw [zero_cut kz (by omega)]
        have Hzs : Hid ((ofL (List.replicate kz 48)).data.toList = List.replicate kz 48) := Lib.hid (ofL_list _)
        have hzz : (ofL (List.replicate kz 48)).size ≤ 7 := by rw [ofL_size, List.length_replicate]; exact hkz
        generalize ofL (List.replicate kz 48) = zs at *
        clear hz
        refine (Num.decimal_any (n : Int) w1 (by omega) (by omega)).mono ?_
        rintro e w2 ⟨rfl, hb2⟩
        have hb12 := bel_trans hb1 hb2
        clear hb1 hb2
        have hd0 : (⟨(Lib.itoa (n : Int)).toArray⟩ : ByteArray).data.toList = Lib.decDigits n := by rw [Lib.itoa_nonneg]
        have Hds : Hid ((⟨(Lib.itoa (n : Int)).toArray⟩ : ByteArray).data.toList = Lib.decDigits n) := Lib.hid hd0
        have hdz : (⟨(Lib.itoa (n : Int)).toArray⟩ : ByteArray).size ≤ 20 := by rw [← list_size, hd0]; exact Num.digits_le n (by omega)
        clear hd0
        generalize (⟨(Lib.itoa (n : Int)).toArray⟩ : ByteArray) = ds at *
        have hs1 : ((((⟨#[98, 38, 35]⟩ : ByteArray) ++ zs) ++ ds) ++ ⟨#[59]⟩).size ≤ 140737488351232 := by rw [ByteArray.size_append, ByteArray.size_append, ByteArray.size_append, show (⟨#[98, 38, 35]⟩ : ByteArray).size = 3 from rfl, show (⟨#[59]⟩ : ByteArray).size = 1 from rfl]; omega
        have hs2 : ((((⟨#[98, 38, 35, 120]⟩ : ByteArray) ++ zs) ++ hx) ++ ⟨#[59]⟩).size ≤ 140737488351232 := by rw [ByteArray.size_append, ByteArray.size_append, ByteArray.size_append, show (⟨#[98, 38, 35, 120]⟩ : ByteArray).size = 4 from rfl, show (⟨#[59]⟩ : ByteArray).size = 1 from rfl]; omega
        have He1 : Hid (ents 0 0 ((((⟨#[98, 38, 35]⟩ : ByteArray) ++ zs) ++ ds) ++ ⟨#[59]⟩).data.toList = if badV n then .error 1 else .ok (98 :: Lib.encodeRune n)) := Lib.hid (by
          rw [cat_list, cat_list, cat_list, Hzs.out, Hds.out, ← ents_dec kz n]; simp)
        have He2 : Hid (ents 0 0 ((((⟨#[98, 38, 35, 120]⟩ : ByteArray) ++ zs) ++ hx) ++ ⟨#[59]⟩).data.toList = if badV n then .error 1 else .ok (98 :: Lib.encodeRune n)) := Lib.hid (by
          rw [cat_list, cat_list, cat_list, Hzs.out, Hhs.out, ← ents_hex kz n hn]; simp)
        have Hs1 := Lib.hid hs1
        have Hs2 := Lib.hid hs2
        clear hs1 hs2 Hzs Hds Hhs
        by_cases hbad : badV n
        · have Hf1 := Lib.hid (He1.out.trans (if_pos hbad))
          have Hf2 := Lib.hid (He2.out.trans (if_pos hbad))
          clear He1 He2
          have Hq : Hid (entsR (.error 1) = .tuple #[.string ⟨#[]⟩, .int .i64 1, .int .i64 700]) := Lib.hid rfl
          have hbd : (1114111 : Int) < n ∨ (55296 ≤ (n : Int) ∧ (n : Int) ≤ 57343) := by unfold badV at hbad; omega
          clear hbad
          rcases hbd with hbd | ⟨hbd, hbd1⟩
          · go_wp2_with fail
            refine (ents_any _ _ Hs1.out).mono ?_
            rintro e w3 ⟨rfl, hb3⟩
            rw [Hf1.out, Hq.out]
            have hb13 := bel_trans hb12 hb3
            clear hb12 hb3
            go_wp2_with fail
            refine (ents_any _ _ Hs2.out).mono ?_
            rintro e w4 ⟨rfl, hb4⟩
            rw [Hf2.out, Hq.out]
            have hb14 := bel_trans hb13 hb4
            clear hb13 hb4
            clear Hf1 Hf2 Hq
            go_wp2_with fail
            refine (num_any _ _).mono ?_
            rintro e w5 ⟨rfl, rfl⟩
            go_wp2_with fail
            refine (num_any _ _).mono ?_
            rintro e w5 ⟨rfl, rfl⟩
            go_wp2_with fail
            go_ret
            exact ⟨by simp, hb14⟩
          · have hbd2 : ¬ ((n : Int) > 1114111) := by omega
            go_wp2_with fail
            refine (ents_any _ _ Hs1.out).mono ?_
            rintro e w3 ⟨rfl, hb3⟩
            rw [Hf1.out, Hq.out]
            have hb13 := bel_trans hb12 hb3
            clear hb12 hb3
            go_wp2_with fail
            refine (ents_any _ _ Hs2.out).mono ?_
            rintro e w4 ⟨rfl, hb4⟩
            rw [Hf2.out, Hq.out]
            have hb14 := bel_trans hb13 hb4
            clear hb13 hb4
            clear Hf1 Hf2 Hq
            go_wp2_with fail
            refine (num_any _ _).mono ?_
            rintro e w5 ⟨rfl, rfl⟩
            go_wp2_with fail
            refine (num_any _ _).mono ?_
            rintro e w5 ⟨rfl, rfl⟩
            go_wp2_with fail
            go_ret
            exact ⟨by simp, hb14⟩
        · have Hf1 := Lib.hid (He1.out.trans (if_neg hbad))
          have Hf2 := Lib.hid (He2.out.trans (if_neg hbad))
          clear He1 He2
          have hrl := rune_list n hbad
          have hbl : (⟨#[98]⟩ ++ runesBytes [(n : Int)] : ByteArray).data.toList = 98 :: Lib.encodeRune n := by rw [cat_list, hrl]; rfl
          have hob : ofL (98 :: Lib.encodeRune n) = ⟨#[98]⟩ ++ runesBytes [(n : Int)] := by rw [← hbl]; exact ofL_eq _
          have Hq : Hid (entsR (.ok (98 :: Lib.encodeRune n)) = .tuple #[.string (⟨#[98]⟩ ++ runesBytes [(n : Int)]), .int .i64 0, .int .i64 0]) := Lib.hid (by rw [← hob]; rfl)
          have Hrz : Hid ((runesBytes [(n : Int)]).size ≤ 4) := Lib.hid (by rw [← list_size, hrl]; exact encode_le n)
          clear hrl hbl hob
          have hbd : ¬ ((n : Int) > 1114111) := by unfold badV at hbad; omega
          have hbd' : n ≤ 55295 ∨ 57343 < (n : Int) := by unfold badV at hbad; omega
          clear hbad
          rcases hbd' with hb1 | hb1
          · go_wp2_with fail
            refine (ents_any _ _ Hs1.out).mono ?_
            rintro e w3 ⟨rfl, hb3⟩
            rw [Hf1.out, Hq.out]
            have hb13 := bel_trans hb12 hb3
            clear hb12 hb3
            go_wp2_with fail
            refine (ents_any _ _ Hs2.out).mono ?_
            rintro e w4 ⟨rfl, hb4⟩
            rw [Hf2.out, Hq.out]
            have hb14 := bel_trans hb13 hb4
            clear hb13 hb4
            clear Hf1 Hf2 Hq
            have Hcv := Lib.hid (rune_made w4 n)
            have hcv := Hcv.out
            have hrz := Hrz.out
            clear Hcv Hrz
            generalize runesBytes [(n : Int)] = rb at *
            go_wp2_with fail
            refine (num_any _ _).mono ?_
            rintro e w5 ⟨rfl, rfl⟩
            go_wp2_with fail
            refine (num_any _ _).mono ?_
            rintro e w5 ⟨rfl, rfl⟩
            go_wp2_with fail
            go_ret
            exact ⟨by simp, hb14.alloc hb14.size _⟩
          · have hb3 : (55296 : Int) ≤ n := by omega
            go_wp2_with fail
            refine (ents_any _ _ Hs1.out).mono ?_
            rintro e w3 ⟨rfl, hb3⟩
            rw [Hf1.out, Hq.out]
            have hb13 := bel_trans hb12 hb3
            clear hb12 hb3
            go_wp2_with fail
            refine (ents_any _ _ Hs2.out).mono ?_
            rintro e w4 ⟨rfl, hb4⟩
            rw [Hf2.out, Hq.out]
            have hb14 := bel_trans hb13 hb4
            clear hb13 hb4
            clear Hf1 Hf2 Hq
            have Hcv := Lib.hid (rune_made w4 n)
            have hcv := Hcv.out
            have hrz := Hrz.out
            clear Hcv Hrz
            generalize runesBytes [(n : Int)] = rb at *
            go_wp2_with fail
            refine (num_any _ _).mono ?_
            rintro e w5 ⟨rfl, rfl⟩
            go_wp2_with fail
            refine (num_any _ _).mono ?_
            rintro e w5 ⟨rfl, rfl⟩
            go_wp2_with fail
            go_ret
            exact ⟨by simp, hb14.alloc hb14.size _⟩

end Jsx
end Go.Proofs.YtcalgpkcefccmaaDoor
