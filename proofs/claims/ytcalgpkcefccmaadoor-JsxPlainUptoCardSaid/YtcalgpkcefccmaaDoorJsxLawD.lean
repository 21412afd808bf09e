/-
  A text without & stands for itself; texts joined; what is valid stays so.
-/
import Derived.Test.YtcalgpkcefccmaaDoorJsxLawA
import Derived.Test.YtcalgpkcefccmaaDoorJsxWords
import Derived.Test.YtcalgpkcefccmaaDoorUniCutPlain
import Derived.Test.YtcalgpkcefccmaaDoorUniValid
namespace Go.Proofs.YtcalgpkcefccmaaDoor
namespace Jsx
open Go.RowKit

/-! Valid texts. -/
def Val (l : List UInt8) : Prop := Uni.badFrom (ofL l) 0 = none
theorem ofL_app (a b : List UInt8) : ofL (a ++ b) = ofL a ++ ofL b := by
  apply ByteArray.ext
  apply Array.ext'
  simp [ofL]
theorem Val.nil : Val [] := Uni.bad_end _ _ (by decide)
theorem Val.app {a b : List UInt8} (h : Val a) (k : Val b) : Val (a ++ b) := by
  unfold Val at *
  rw [ofL_app, Uni.bad_left (ofL a) (ofL b) (ofL a).size 0 (by omega) (by omega) h, k]; rfl
theorem Val.back {a b : List UInt8} (h : Val (a ++ b)) (k : Val a) : Val b := by
  unfold Val at *
  rw [ofL_app, Uni.bad_left (ofL a) (ofL b) (ofL a).size 0 (by omega) (by omega) k] at h
  cases hb : Uni.badFrom (ofL b) 0 with
  | none => rfl
  | some i => rw [hb] at h; cases h
theorem byte_first (c : UInt8) (t : List UInt8) : Uni.byteN (ofL (c :: t)) 0 = c.toNat := rfl
theorem Val.one (c : UInt8) (h : c.toNat < 128) : Val [c] := by
  unfold Val
  have hl : Uni.lenN (ofL [c]) 0 = 1 := by rw [Uni.lenN, byte_first, if_pos h]
  rw [Uni.bad_step _ 0 (by rw [ofL_size]; simp) (by rw [hl]; decide), hl]
  exact Uni.bad_end _ _ (by rw [ofL_size]; simp)
theorem Val.ascii : ∀ a : List UInt8, (∀ c ∈ a, c.toNat < 128) → Val a
  | [], _ => Val.nil
  | c :: t, h => by
    have := (Val.one c (h c (by simp))).app (Val.ascii t (fun x hx => h x (by simp [hx])))
    exact this
theorem utf8_list (v : Nat) (h : ¬ badV v) : ofL (Lib.encodeRune v) = Utf8.encode v := by
  have := rune_list v h
  rw [← this, ofL_eq]
  show ByteArray.empty ++ Utf8.encode v = _
  rw [ByteArray.empty_append]
theorem Val.rune (v : Nat) (h : ¬ badV v) : Val (Lib.encodeRune v) := by
  unfold Val
  rw [utf8_list v h]
  exact Uni.encode_good v (enc_valid v h)
/-- The first character of a valid text. -/
theorem Val.first {l : List UInt8} (h : Val l) (hne : l ≠ []) : ∃ ch r, l = ch ++ r ∧ ch ≠ [] ∧ Val ch ∧ Val r ∧ ((∃ c, ch = [c] ∧ c.toNat < 128) ∨ ∀ c ∈ ch, 128 ≤ c.toNat) := by
  have hsz : 0 < (ofL l).size := by rw [ofL_size]; exact List.length_pos_iff.2 hne
  have hn := Uni.bad_none_len (ofL l) 0 hsz h
  have hle := Uni.lenN_le (ofL l) 0 hsz
  rw [Nat.zero_add, ofL_size] at hle
  obtain ⟨n, hnn⟩ : ∃ n, Uni.lenN (ofL l) 0 = n := ⟨_, rfl⟩
  have hsp : l = l.take n ++ l.drop n := (List.take_append_drop n l).symm
  rw [hnn] at hn hle
  have hch : Val (l.take n) := by
    have e : ofL (l.take n) = (ofL l).extract 0 n := by rw [take_str, ofL_list]
    unfold Val
    rw [e]
    have hs2 : ((ofL l).extract 0 n).size = n := Uni.size_front _ _ (by rw [ofL_size]; exact hle)
    have hl2 : Uni.lenN ((ofL l).extract 0 n) 0 = n := by
      rw [Uni.len_in (ofL l) n 0 (by rw [ofL_size]; exact hle) (by omega) (by rw [hnn]; omega) (by rw [hnn]; exact hn), hnn]
    rw [Uni.bad_step _ 0 (by rw [hs2]; omega) (by rw [hl2]; exact hn), hl2]
    exact Uni.bad_end _ _ (by rw [hs2]; omega)
  refine ⟨l.take n, l.drop n, hsp, ?_, hch, Val.back (hsp ▸ h) hch, ?_⟩
  · intro e
    have := congrArg List.length e
    rw [List.length_take, List.length_nil] at this
    omega
  · obtain ⟨c, t, rfl⟩ : ∃ c t, l = c :: t := by cases l with | nil => exact absurd rfl hne | cons c t => exact ⟨c, t, rfl⟩
    by_cases hc : c.toNat < 128
    · have : Uni.lenN (ofL (c :: t)) 0 = 1 := by rw [Uni.lenN, byte_first, if_pos hc]
      rw [hnn] at this
      subst this
      exact .inl ⟨c, rfl, hc⟩
    · right
      have hh := high_step (ofL (c :: t)) 0 hsz (by rw [byte_first]; omega)
      rw [Uni.step_len _ _ (by rw [hnn]; exact hn), hnn] at hh
      intro x hx
      obtain ⟨j, hj⟩ := List.getElem?_of_mem hx
      rw [List.getElem?_take] at hj
      split at hj
      · rename_i hjn
        obtain ⟨y, hy, hy'⟩ := byte_list (ofL (c :: t)) j (by rw [ofL_size]; omega)
        rw [ofL_list, hj] at hy
        cases hy
        rw [hy']
        exact hh j (by omega) (by omega)
      · cases hj

/-! An entity is ASCII. -/
theorem digH_ascii (hex : Bool) (c : UInt8) (d : Nat) (h : digH hex c = some d) : c.toNat < 128 := by
  unfold digH at h
  split at h
  · omega
  split at h
  · omega
  split at h
  · omega
  · cases h
theorem numF_ascii (hex : Bool) : ∀ (l : List UInt8) (v n : Nat) (r : Nat × Nat), numF hex v n l = some r → ∀ c ∈ l.take (r.2 - n), c.toNat < 128
  | [], _, _, _, h => by cases h
  | c :: t, v, n, r, h => by
    rw [numF] at h
    split at h
    · rename_i d hd
      have ih := numF_ascii hex t _ _ r h
      have hle := (numF_len hex t _ _ r h)
      have hge : n + 1 ≤ r.2 := by
        have : ∀ (l : List UInt8) (v n : Nat) (r : Nat × Nat), numF hex v n l = some r → n + 1 ≤ r.2 := by
          intro l
          induction l with
          | nil => intro _ _ _ h; cases h
          | cons a b ih2 =>
            intro v n r h
            rw [numF] at h
            split at h
            · have := ih2 _ _ _ h; omega
            · split at h
              · cases h; omega
              · cases h
        have := this t _ _ r h; omega
      intro x hx
      rw [show r.2 - n = (r.2 - (n + 1)) + 1 by omega, List.take_succ_cons] at hx
      rcases List.mem_cons.1 hx with e | e
      · rw [e]; exact digH_ascii hex c d hd
      · exact ih x e
    · split at h
      · rename_i h1
        cases h
        intro x hx
        rw [show n + 1 - n = 1 by omega, List.take_succ_cons, List.take_zero, List.mem_singleton] at hx
        rw [hx, h1.1]; decide
      · cases h
theorem chrF_ascii (l : List UInt8) (h : chrF l ≠ 0) : ∀ c ∈ l, c.toNat < 128 := by
  rcases chrF_cases l with h0 | h1
  · exact absurd h0 h
  · have : ∀ x ∈ ([[97, 109, 112], [108, 116], [103, 116], [113, 117, 111, 116], [97, 112, 111, 115], [110, 98, 115, 112], [99, 111, 112, 121], [114, 101, 103], [104, 101, 108, 108, 105, 112], [109, 100, 97, 115, 104], [110, 100, 97, 115, 104]] : List (List UInt8)), ∀ c ∈ x, c.toNat < 128 := by decide
    exact this l h1
theorem entF_ascii (t : List UInt8) (v n : Nat) (h : entF t = some (v, n)) : ∀ c ∈ t.take (n - 1), c.toNat < 128 := by
  by_cases h0 : t.head? = some 35
  · obtain ⟨t', rfl⟩ : ∃ t', t = 35 :: t' := by cases t with | nil => cases h0 | cons a b => simp at h0; exact ⟨b, by rw [h0]⟩
    rw [entF_hash] at h
    by_cases h1 : t'.head? = some 120
    · rw [if_pos h1] at h
      obtain ⟨t'', rfl⟩ : ∃ t'', t' = 120 :: t'' := by cases t' with | nil => cases h1 | cons a b => simp at h1; exact ⟨b, by rw [h1]⟩
      rw [List.tail_cons] at h
      cases hn : numF true 0 0 t'' with
      | none => rw [hn] at h; cases h
      | some r =>
        rw [hn] at h
        simp only [Option.map_some, Option.some.injEq, Prod.mk.injEq] at h
        have := numF_ascii true t'' 0 0 r hn
        intro x hx
        rw [← h.2, show r.2 + 3 - 1 = r.2 + 1 + 1 by omega, List.take_succ_cons, List.take_succ_cons] at hx
        rcases List.mem_cons.1 hx with e | e
        · rw [e]; decide
        · rcases List.mem_cons.1 e with e2 | e2
          · rw [e2]; decide
          · exact this x e2
    · rw [if_neg h1] at h
      cases hn : numF false 0 0 t' with
      | none => rw [hn] at h; cases h
      | some r =>
        rw [hn] at h
        simp only [Option.map_some, Option.some.injEq, Prod.mk.injEq] at h
        have := numF_ascii false t' 0 0 r hn
        intro x hx
        rw [← h.2, show r.2 + 2 - 1 = r.2 + 1 by omega, List.take_succ_cons] at hx
        rcases List.mem_cons.1 hx with e | e
        · rw [e]; decide
        · exact this x e
  · rw [entF_other t h0] at h
    by_cases h1 : (nameF t).length < t.length ∧ chrF (nameF t) ≠ 0
    · rw [if_pos h1] at h
      simp only [Option.some.injEq, Prod.mk.injEq] at h
      obtain ⟨r, hr⟩ := name_split t h1.1
      have hc := chrF_ascii _ h1.2
      intro x hx
      rw [← h.2] at hx
      generalize nameF t = m at *
      subst hr
      rw [show m.length + 2 - 1 = m.length + 1 by omega, List.take_length_add_append, List.take_succ_cons, List.take_zero] at hx
      rcases List.mem_append.1 hx with e | e
      · exact hc x e
      · rw [List.mem_singleton.1 e]; decide
    · rw [if_neg h1] at h; cases h

/-- WHAT IS VALID STAYS SO. -/
theorem ents_valid : ∀ (n : Nat) (l : List UInt8) (p : Nat) (x : List UInt8), l.length ≤ n → Val l → ents 0 p l = .ok x → Val x := by
  intro n
  induction n with
  | zero =>
    intro l p x hl _ h
    rw [List.eq_nil_of_length_eq_zero (by omega : l.length = 0), ents_nil] at h
    cases h; exact Val.nil
  | succ n ih =>
    intro l p x hl hv h
    by_cases hne : l = []
    · subst hne; rw [ents_nil] at h; cases h; exact Val.nil
    obtain ⟨ch, r, rfl, hcn, hc, hr, hk⟩ := hv.first hne
    have hlen : r.length ≤ n := by
      have : 0 < ch.length := List.length_pos_iff.2 hcn
      rw [List.length_append] at hl; omega
    have chunk : (∀ c ∈ ch, c ≠ 38) → Val x := by
      intro hf
      rw [ents_free ch p r hf] at h
      cases hr2 : ents 0 (p + ch.length) r with
      | error e => rw [hr2] at h; cases h
      | ok y => rw [hr2] at h; cases h; exact hc.app (ih r _ y hlen hr hr2)
    rcases hk with ⟨c, rfl, hlow⟩ | hhigh
    · by_cases h38 : c = 38
      · subst h38
        rw [List.singleton_append] at h
        cases he : entF r with
        | none =>
          rw [ents_none _ _ he] at h
          cases hr2 : ents 0 (p + 1) r with
          | error e => rw [hr2] at h; cases h
          | ok y => rw [hr2] at h; cases h; exact (Val.one 38 (by decide)).app (ih r _ y hlen hr hr2)
        | some z =>
          obtain ⟨v, m⟩ := z
          have hm := (entF_len r v m he).1
          by_cases hb : badV v
          · rw [ents_bad _ _ _ _ he hb] at h; cases h
          · rw [ents_some _ _ _ _ he hb (by omega)] at h
            have hv2 : Val (r.drop (m - 1)) := by
              refine Val.back (a := r.take (m - 1)) ?_ (Val.ascii _ (entF_ascii r v m he))
              rw [List.take_append_drop]; exact hr
            cases hr2 : ents 0 (p + m) (r.drop (m - 1)) with
            | error e => rw [hr2] at h; cases h
            | ok y =>
              rw [hr2] at h; cases h
              exact (Val.rune v hb).app (ih _ _ y (by rw [List.length_drop]; omega) hv2 hr2)
      · exact chunk (fun x hx => by rw [List.mem_singleton.1 hx]; exact h38)
    · exact chunk (fun x hx e => by have := hhigh x hx; rw [e] at this; exact absurd this (by decide))

/-! Places. -/
def shiftE (p : Nat) : Except Nat (List UInt8) → Except Nat (List UInt8)
  | .ok x => .ok x
  | .error e => .error (e + p)
theorem shift_prep (p : Nat) (a : List UInt8) (r : Except Nat (List UInt8)) : shiftE p (prep a r) = prep a (shiftE p r) := by cases r <;> rfl
theorem ents_shift : ∀ (l : List UInt8) (k q p : Nat), ents k (q + p) l = shiftE p (ents k q l)
  | [], k, q, p => by cases k <;> rfl
  | c :: t, k + 1, q, p => by
    rw [ents, ents, show q + p + 1 = (q + 1) + p by omega, ents_shift t k (q + 1) p]
  | c :: t, 0, q, p => by
    rw [ents, ents]
    have ih := fun k => ents_shift t k (q + 1) p
    rw [show q + p + 1 = (q + 1) + p by omega]
    split
    · split
      · rw [ih, shift_prep]
      · split
        · rfl
        · rw [ih, shift_prep]
    · rw [ih, shift_prep]
theorem ents_join (a t : List UInt8) (h : ∀ c ∈ a, c ≠ 38) : ents 0 0 (a ++ t) = prep a (shiftE a.length (ents 0 0 t)) := by
  rw [ents_free a 0 t h, ents_shift t 0 0 a.length]
theorem ents_self (a : List UInt8) (h : ∀ c ∈ a, c ≠ 38) : ents 0 0 a = .ok a := by
  have := ents_free a 0 [] h
  rw [List.append_nil, ents_nil] at this
  rw [this]; simp [prep]

theorem freeA_snoc (L : List UInt8) (k : Nat) (c : UInt8) (t : List UInt8) (hd : L.drop k = c :: t) (h : ∀ x ∈ L.take k, x ≠ 38) (hc : c ≠ 38) : ∀ x ∈ L.take (k + 1), x ≠ 38 := by
  have : L.take (k + 1) = L.take k ++ [c] := by rw [List.take_add, hd]; rfl
  rw [this]
  intro x hx
  rcases List.mem_append.1 hx with e | e
  · exact h x e
  · rw [List.mem_singleton.1 e]; exact hc

theorem prep_ok {a : List UInt8} {r : Except Nat (List UInt8)} {x : List UInt8} (h : prep a r = .ok x) : ∃ y, r = .ok y ∧ x = a ++ y := by
  cases r with
  | ok y => simp only [prep, Except.ok.injEq] at h; exact ⟨y, rfl, h.symm⟩
  | error e => cases h
theorem prep_err {a : List UInt8} {r : Except Nat (List UInt8)} {p : Nat} (h : prep a r = .error p) : r = .error p := by
  cases r with
  | ok y => cases h
  | error e => exact h
theorem ents_err : ∀ (l : List UInt8) (k q p : Nat), ents k q l = .error p → p ≤ q + l.length
  | [], k, q, p, h => by cases k <;> cases h
  | c :: t, k + 1, q, p, h => by
    rw [ents] at h
    have := ents_err t k (q + 1) p h
    simp only [List.length_cons]; omega
  | c :: t, 0, q, p, h => by
    rw [ents] at h
    have ih := fun k h => ents_err t k (q + 1) p h
    simp only [List.length_cons]
    split at h
    · split at h
      · have := ih _ (prep_err h); omega
      · split at h
        · cases h; omega
        · have := ih _ (prep_err h); omega
    · have := ih _ (prep_err h); omega
theorem ents_len : ∀ (n : Nat) (l : List UInt8) (q : Nat) (x : List UInt8), l.length ≤ n → ents 0 q l = .ok x → x.length ≤ l.length := by
  intro n
  induction n with
  | zero => intro l q x hl h; rw [List.eq_nil_of_length_eq_zero (by omega : l.length = 0), ents_nil] at h; cases h; simp
  | succ n ih =>
    intro l q x hl h
    cases l with
    | nil => rw [ents_nil] at h; cases h; simp
    | cons c t =>
      simp only [List.length_cons] at hl ⊢
      by_cases h38 : c = 38
      · subst h38
        cases he : entF t with
        | none =>
          rw [ents_none _ _ he] at h
          obtain ⟨y, h1, h2⟩ := prep_ok h
          have := ih t _ y (by omega) h1
          rw [h2, List.length_append]; simp; omega
        | some z =>
          obtain ⟨v, m⟩ := z
          have hm := entF_len t v m he
          by_cases hb : badV v
          · rw [ents_bad _ _ _ _ he hb] at h; cases h
          · rw [ents_some _ _ _ _ he hb (by omega)] at h
            obtain ⟨y, h1, h2⟩ := prep_ok h
            have := ih (t.drop (m - 1)) _ y (by rw [List.length_drop]; omega) h1
            rw [List.length_drop] at this
            have hel := encode_le v
            rw [h2, List.length_append]; omega
      · rw [ents_plain _ _ _ h38] at h
        obtain ⟨y, h1, h2⟩ := prep_ok h
        have := ih t _ y (by omega) h1
        rw [h2, List.length_append]; simp; omega
theorem valid_after (t : ByteArray) (x : List UInt8) (h : ents 0 0 t.data.toList = .ok x) (ht : Uni.badCode t = 0) : Uni.badCode (ofL x) = 0 := by
  have hv : Val t.data.toList := by
    unfold Val
    rw [ofL_eq]
    unfold Uni.badCode at ht
    cases hb : Uni.badFrom t 0 with
    | none => rfl
    | some i => rw [hb] at ht; simp at ht
  have := ents_valid _ _ 0 x (Nat.le_refl _) hv h
  unfold Val at this
  unfold Uni.badCode
  rw [this]

set_option maxHeartbeats 4000000 in
set_option maxRecDepth 20000 in
theorem law_plain (s t : ByteArray) (W : World) (hs : s.size ≤ 1048576) (ht : t.size ≤ 1048576) (_hT : True) :
    Calls Tryd.prog 6 #[.string s, .string t] W fun e w' => e = .returned (.bool true) ∧ Below W.heap.size W w' := by
  have hcat : Hid ((s ++ t).data.toList = s.data.toList ++ t.data.toList) := Lib.hid (by simp [ByteArray.data_append])
  have hst : (s ++ t).size ≤ 140737488351232 := by rw [ByteArray.size_append]; omega
  have hs1 : s.size ≤ 140737488351232 := by omega
  have ht1 : t.size ≤ 140737488351232 := by omega
  have htm : t.size ≤ maxLen := by unfold maxLen; omega
  have Hst := Lib.hid hst
  clear hst
  go_enter Tryd.func6, Tryd.ntmps6
  go_wp2_with fail
  refine (awake_any _).mono ?_
  rintro e w1 ⟨rfl, hb1⟩
  go_wp2_with fail
  go_loop [5] (fun i => ∃ k : Nat, i = .int .i64 k ∧ k ≤ s.size ∧ Hid (∀ x ∈ s.data.toList.take k, x ≠ 38)) (fun i => s.size - (intOf i).toNat)
  case atStart => exact ⟨0, rfl, by omega, Lib.hid (fun x hx => by simp at hx)⟩
  case round =>
    obtain ⟨k, rfl, hk, Hf⟩ := hrel
    by_cases hlt : k < s.size
    · have hd := drop_at s k hlt
      by_cases h38 : s[k] = 38
      · have f38 : ((((s[k]'hlt).toNat : Nat) : Int) == 38) = true := by rw [h38]; rfl
        clear h38 hd
        go_wp2_with fail
        go_ret
        exact ⟨rfl, hb1⟩
      · have Hn := Lib.hid (freeA_snoc _ _ _ _ hd Hf.out h38)
        have f38 : ((((s[k]'hlt).toNat : Nat) : Int) == 38) = false := beq_eq_false_iff_ne.2 (fun h => h38 (UInt8.toNat_inj.1 (by show _ = 38; omega)))
        clear h38 hd
        go_wp2_with fail
        go_round
        case rel => exact ⟨k + 1, by go_num, by omega, Hn⟩
        case measure => simp [intOf]; omega
    · have hfree : ∀ x ∈ s.data.toList, x ≠ 38 := by
        have := Hf.out
        rw [List.take_of_length_le (by rw [list_size]; omega)] at this; exact this
      have Hself : Hid (entsR (ents 0 0 s.data.toList) = .tuple #[.string s, .int .i64 0, .int .i64 0]) := Lib.hid (by rw [ents_self _ hfree]; show Value.tuple #[.string (ofL s.data.toList), _, _] = _; rw [ofL_eq])
      have Hjoin := Lib.hid (ents_join s.data.toList t.data.toList hfree)
      have Hlen : Hid (s.data.toList.length = s.size) := Lib.hid (list_size s)
      clear hfree Hf
      go_wp2_with fail
      refine (ents_any s _ hs1).mono ?_
      rintro e w2 ⟨rfl, hb2⟩
      rw [Hself.out]
      have hb12 := bel_trans hb1 hb2
      clear hb2
      go_wp2_with fail
      refine (ents_any t _ ht1).mono ?_
      rintro e w3 ⟨rfl, hb3⟩
      have hb13 := bel_trans hb12 hb3
      clear hb3 hb12
      cases hr : ents 0 0 t.data.toList with
      | error p =>
        have Hj : Hid (entsR (ents 0 0 (s ++ t).data.toList) = .tuple #[.string ⟨#[]⟩, .int .i64 (p + s.size : Nat), .int .i64 700]) := Lib.hid (by
          rw [hcat.out, Hjoin.out, hr, Hlen.out]; rfl)
        have He : Hid (entsR (.error p) = .tuple #[.string ⟨#[]⟩, .int .i64 p, .int .i64 700]) := Lib.hid rfl
        have Hp : p ≤ t.size := by have := ents_err _ _ _ _ hr; rw [list_size] at this; omega
        rw [He.out]
        clear hr
        go_wp2_with fail
        refine (ents_any (s ++ t) _ Hst.out).mono ?_
        rintro e w4 ⟨rfl, hb4⟩
        rw [Hj.out]
        have hb14 := bel_trans hb13 hb4
        clear hb4 hb13
        go_wp2_with fail
        refine (Uni.valid_any t _ htm).mono ?_
        rintro e w5 ⟨rfl, hb5⟩
        have hb15 := bel_trans hb14 hb5
        clear hb5 hb14
        go_wp2_with fail
        refine (num_any _ _).mono ?_
        rintro e w6 ⟨rfl, rfl⟩
        go_wp2_with fail
        refine (num_any _ _).mono ?_
        rintro e w6 ⟨rfl, rfl⟩
        go_wp2_with fail
        refine (num_any _ _).mono ?_
        rintro e w6 ⟨rfl, rfl⟩
        go_wp2_with fail
        refine (num_any _ _).mono ?_
        rintro e w6 ⟨rfl, rfl⟩
        go_wp2_with fail
        go_ret
        exact ⟨by simp, hb15⟩
      | ok x =>
        obtain ⟨b, hbx⟩ : ∃ b, ofL x = b := ⟨_, rfl⟩
        have Hj : Hid (entsR (ents 0 0 (s ++ t).data.toList) = .tuple #[.string (s ++ b), .int .i64 0, .int .i64 0]) := Lib.hid (by
          rw [hcat.out, Hjoin.out, hr]
          show Value.tuple #[.string (ofL (s.data.toList ++ x)), _, _] = _
          rw [ofL_app, ofL_eq, hbx])
        have He : Hid (entsR (.ok x) = .tuple #[.string b, .int .i64 0, .int .i64 0]) := Lib.hid (by rw [← hbx]; rfl)
        have hbs : b.size ≤ 1048576 := by rw [← hbx, ofL_size]; have := ents_len _ _ 0 x (Nat.le_refl _) hr; rw [list_size] at this; omega
        have hbm : b.size ≤ maxLen := by unfold maxLen; omega
        have Hval : Hid (Uni.badCode t = 0 → Uni.badCode b = 0) := Lib.hid (fun h => by rw [← hbx]; exact valid_after t x hr h)
        rw [He.out]
        clear hr hbx
        go_wp2_with fail
        refine (ents_any (s ++ t) _ Hst.out).mono ?_
        rintro e w4 ⟨rfl, hb4⟩
        rw [Hj.out]
        have hb14 := bel_trans hb13 hb4
        clear hb4 hb13
        go_wp2_with fail
        refine (Uni.valid_any t _ htm).mono ?_
        rintro e w5 ⟨rfl, hb5⟩
        have hb15 := bel_trans hb14 hb5
        clear hb5 hb14
        go_wp2_with fail
        refine (num_any _ _).mono ?_
        rintro e w6 ⟨rfl, rfl⟩
        go_wp2_with fail
        refine (num_any _ _).mono ?_
        rintro e w6 ⟨rfl, rfl⟩
        go_wp2_with fail
        refine (num_any _ _).mono ?_
        rintro e w6 ⟨rfl, rfl⟩
        go_wp2_with fail
        refine (num_any _ _).mono ?_
        rintro e w6 ⟨rfl, rfl⟩
        go_wp2_with fail
        refine (Uni.valid_any b _ hbm).mono ?_
        rintro e w7 ⟨rfl, hb7⟩
        have hb17 := bel_trans hb15 hb7
        clear hb7 hb15
        by_cases hc : Uni.badCode t = 0
        · have hc2 := Hval.out hc
          rw [hc2]
          rw [hc]
          clear hc hc2
          go_wp2_with fail
          refine (num_any _ _).mono ?_
          rintro e w8 ⟨rfl, rfl⟩
          go_wp2_with fail
          refine (num_any _ _).mono ?_
          rintro e w8 ⟨rfl, rfl⟩
          go_wp2_with fail
          go_ret
          exact ⟨by simp, hb17⟩
        · have hcn : ((Uni.badCode t : Int) != 0) = true := bne_iff_ne.2 (by omega)
          clear hc
          go_wp2_with fail
          refine (num_any _ _).mono ?_
          rintro e w8 ⟨rfl, rfl⟩
          go_wp2_with fail
          go_ret
          exact ⟨by simp, hb17⟩

end Jsx
end Go.Proofs.YtcalgpkcefccmaaDoor
