/-
  A name is one token, and what is one token of a name's kind is a name.
-/
import Derived.Test.YtggibhlmnfodaaaDoorLexLawA
import Derived.Test.YtggibhlmnfodaaaDoorWordPlain
namespace Go.Proofs.YtggibhlmnfodaaaDoor
namespace Lex
open Go.RowKit
open Str (lenL runeL sufL)

/-! What a name begins with. -/
theorem start_range (c : Int) (h : Uni.startB c = true) : 0 ≤ c ∧ c ≤ 1114111 := Uni.part_range c (Uni.start_part c h)
def plainC (c : Int) : Bool := decide (c ≠ 34 ∧ c ≠ 39 ∧ c ≠ 96 ∧ c ≠ 35 ∧ c ≠ 46 ∧ c ≠ 47 ∧ c ≠ 92) && (!digC c && (!punC c && !tagB c))
theorem plain_low : ∀ n : Fin 128, Uni.startB (n.val : Int) = true → plainC (n.val : Int) = true := by decide +kernel
theorem plain_far (c : Int) (h : 128 ≤ c) : plainC c = true := by
  unfold plainC digC punC tagB
  rw [decide_eq_true (by omega), decide_eq_false (by omega), decide_eq_false (by omega), decide_eq_false (by omega)]
  rfl
theorem start_plain (c : Int) (h : Uni.startB c = true) : plainC c = true := by
  by_cases e : c < 128
  · have h0 := (start_range c h).1
    have := plain_low ⟨c.toNat, by omega⟩
    rw [show (((⟨c.toNat, by omega⟩ : Fin 128).val : Nat) : Int) = c from by simp; omega] at this
    exact this h
  · exact plain_far c (by omega)

theorem common_name (x : Bool) (l : List UInt8) (h : Uni.startB (chL l) = true) : commonP x l = nameP false l := by
  have hr := start_range _ h
  have hp := start_plain _ h
  unfold plainC at hp
  simp only [Bool.and_eq_true, decide_eq_true_eq, Bool.not_eq_true'] at hp
  obtain ⟨⟨p1, p2, p3, p4, p5, p6, p7⟩, hd, hu, ht⟩ := hp
  unfold commonP
  rw [if_neg (by omega), if_neg (by omega), if_neg p3, if_neg p4, if_neg p5, hd, if_neg (by decide), if_neg p6, hu, if_neg (by decide)]
theorem tag_name (l : List UInt8) (h : Uni.startB (chL l) = true) : tagP l = (1, parts true l) := by
  have hr := start_range _ h
  have hp := start_plain _ h
  unfold plainC at hp
  simp only [Bool.and_eq_true, decide_eq_true_eq, Bool.not_eq_true'] at hp
  obtain ⟨⟨p1, p2, p3, p4, p5, p6, p7⟩, hd, hu, ht⟩ := hp
  unfold tagP
  rw [if_neg (by omega), ht, if_neg (by decide), if_neg (by omega), nameP, if_pos h]
theorem name_skip (l : List UInt8) (h : Uni.startB (chL l) = true) : skip (true, false, []) l = ⟨0, false, [], l⟩ := by
  have hr := start_range _ h
  have hp := start_plain _ h
  unfold plainC at hp
  simp only [Bool.and_eq_true, decide_eq_true_eq, Bool.not_eq_true'] at hp
  obtain ⟨⟨p1, p2, p3, p4, p5, p6, p7⟩, hd, hu, ht⟩ := hp
  exact skip_stay _ _ _ _ (by omega) (Uni.part_ends _ (Uni.start_part _ h)) (Uni.part_blank _ (Uni.start_part _ h)) (opens_no p6 p4)

theorem common_one (x : Bool) (l : List UInt8) (h : (commonP x l).1 = 1) : commonP x l = nameP false l := by
  have k0 := litP_kind l; have k1 := template_kind 7 8 l; have k2 := priv_kind l; have k3 := num_kind l; have k4 := pun_kind l; have k5 := regex_kind l
  unfold commonP at h ⊢
  by_cases c1 : chL l = -1
  · rw [if_pos c1] at h; exact absurd (show (0 : Int) = 1 from h) (by decide)
  rw [if_neg c1] at h ⊢
  by_cases c2 : chL l = 34 ∨ chL l = 39
  · rw [if_pos c2] at h; omega
  rw [if_neg c2] at h ⊢
  by_cases c3 : chL l = 96
  · rw [if_pos c3] at h; omega
  rw [if_neg c3] at h ⊢
  by_cases c4 : chL l = 35
  · rw [if_pos c4] at h; omega
  rw [if_neg c4] at h ⊢
  by_cases c5 : chL l = 46
  · rw [if_pos c5] at h
    by_cases c6 : digAt l.tail = true
    · rw [if_pos c6] at h; omega
    · rw [if_neg c6] at h; omega
  rw [if_neg c5] at h ⊢
  by_cases c6 : digC (chL l) = true
  · rw [if_pos c6] at h; omega
  rw [if_neg c6] at h ⊢
  by_cases c7 : chL l = 47
  · rw [if_pos c7] at h
    by_cases c8 : x = true
    · rw [if_pos c8] at h; omega
    · rw [if_neg c8] at h; omega
  rw [if_neg c7] at h ⊢
  by_cases c9 : punC (chL l) = true
  · rw [if_pos c9] at h; omega
  · rw [if_neg c9]
theorem common_two (x : Bool) (l : List UInt8) (h : (commonP x l).1 = 2) : commonP x l = privP l := by
  have k0 := litP_kind l; have k1 := template_kind 7 8 l; have k3 := num_kind l; have k4 := pun_kind l; have k5 := regex_kind l; have k6 := name_kind false l
  unfold commonP at h ⊢
  by_cases c1 : chL l = -1
  · rw [if_pos c1] at h; exact absurd (show (0 : Int) = 2 from h) (by decide)
  rw [if_neg c1] at h ⊢
  by_cases c2 : chL l = 34 ∨ chL l = 39
  · rw [if_pos c2] at h; omega
  rw [if_neg c2] at h ⊢
  by_cases c3 : chL l = 96
  · rw [if_pos c3] at h; omega
  rw [if_neg c3] at h ⊢
  by_cases c4 : chL l = 35
  · rw [if_pos c4]
  rw [if_neg c4] at h ⊢
  by_cases c5 : chL l = 46
  · rw [if_pos c5] at h
    by_cases c6 : digAt l.tail = true
    · rw [if_pos c6] at h; omega
    · rw [if_neg c6] at h; omega
  rw [if_neg c5] at h ⊢
  by_cases c6 : digC (chL l) = true
  · rw [if_pos c6] at h; omega
  rw [if_neg c6] at h ⊢
  by_cases c7 : chL l = 47
  · rw [if_pos c7] at h
    by_cases c8 : x = true
    · rw [if_pos c8] at h; omega
    · rw [if_neg c8] at h; omega
  rw [if_neg c7] at h ⊢
  by_cases c9 : punC (chL l) = true
  · rw [if_pos c9] at h; omega
  · rw [if_neg c9] at h; omega

/-! What goes on in a name. -/
theorem parts_bad (d : Bool) (l : List UInt8) (h : chL l = -2) : parts d l = (502, l) := loop_in _ (by unfold partsS; rw [if_pos h])
theorem parts_stop (d : Bool) (l : List UInt8) (h : chL l ≠ -2) (hp : Uni.partB (chL l) = false) (hd : chL l ≠ 45 ∨ d = false) : parts d l = (0, l) :=
  loop_in _ (by unfold partsS; rw [if_neg h, if_pos ⟨hp, hd⟩])
theorem parts_go (d : Bool) (l : List UInt8) (h : chL l ≠ -2) (hp : ¬ (Uni.partB (chL l) = false ∧ (chL l ≠ 45 ∨ d = false))) : parts d l = parts d (tl l) :=
  loop_go (falls_parts d) _ (by unfold partsS; rw [if_neg h, if_neg hp])
theorem ch_suf (s : ByteArray) (i : Nat) (h : i < s.size) : chL (sufL s i) = if Uni.lenN s i = 0 then -2 else (Uni.runeN s i : Int) := by
  obtain ⟨h1, h2⟩ := Str.len_suf s i h
  rw [chL, if_neg (by rw [Str.suf_cons s i h]; exact List.cons_ne_nil _ _), h1, h2]
theorem tl_suf' (s : ByteArray) (i : Nat) (h : i < s.size) : tl (sufL s i) = sufL s (i + Uni.lenN s i) := by
  rw [tl, (Str.len_suf s i h).1, Str.suf_drop]

theorem goes_parts (s : ByteArray) : ∀ n i, s.size - i ≤ n → (Word.goes s i = true ↔ parts false (sufL s i) = (0, []))
  | n, i, hn => by
    by_cases hlt : i < s.size
    · have hne : sufL s i ≠ [] := by rw [Str.suf_cons s i hlt]; exact List.cons_ne_nil _ _
      have hch := ch_suf s i hlt
      by_cases h0 : Uni.lenN s i = 0
      · rw [if_pos h0] at hch
        rw [Word.goes_no s i hlt (Word.none_part s i h0), parts_bad false _ hch]
        constructor
        · intro h; cases h
        · intro h; exact absurd (congrArg Prod.fst h) (show (502 : Int) ≠ 0 by decide)
      · rw [if_neg h0] at hch
        have hd : (Utf8.decode s i) = (Uni.runeN s i, Uni.lenN s i) := by rw [Uni.decode_eq, if_neg h0]
        have h2 : chL (sufL s i) ≠ -2 := by rw [hch]; omega
        cases hp : Uni.partB (Uni.runeN s i : Int) with
        | false =>
          rw [Word.goes_no s i hlt (by rw [hd]; exact hp), parts_stop false _ h2 (by rw [hch]; exact hp) (Or.inr rfl)]
          constructor
          · intro h; cases h
          · intro h; exact absurd (congrArg Prod.snd h) hne
        | true =>
          rw [Word.goes_on s i hlt (by rw [hd]; exact hp), parts_go false _ h2 (by rw [hch, hp]; rintro ⟨h, _⟩; cases h), tl_suf' s i hlt, hd]
          match n, hn with
          | 0, hn => omega
          | n + 1, hn => exact goes_parts s n (i + Uni.lenN s i) (by omega)
    · rw [Word.goes_end s i hlt, Str.suf_nil s i hlt]
      exact ⟨fun _ => parts_stop false [] (by decide) (by decide) (Or.inr rfl), fun _ => rfl⟩

/-- A name, as a list. -/
def nameQ (l : List UInt8) : Prop := Uni.startB (chL l) = true ∧ parts false l = (0, [])
theorem name_iff (s : ByteArray) : Word.nameB s = true ↔ nameQ s.data.toList := by
  have hs : sufL s 0 = s.data.toList := rfl
  by_cases h : 0 < s.size
  · have hch := ch_suf s 0 h
    rw [hs] at hch
    have hst : Uni.startB (chL s.data.toList) = Uni.startB ((Utf8.decode s 0).1 : Int) := by
      rw [hch, Uni.decode_eq]
      by_cases h0 : Uni.lenN s 0 = 0
      · rw [if_pos h0, if_pos h0]; decide
      · rw [if_neg h0, if_neg h0]
    unfold nameQ Word.nameB
    rw [decide_eq_true h, hst, Bool.true_and, Bool.and_eq_true, goes_parts s _ 0 (Nat.le_refl _), hs]
  · rw [Word.name_empty s h]
    have hl : s.data.toList = [] := by rw [← hs]; exact Str.suf_nil s 0 h
    unfold nameQ
    rw [hl]
    constructor
    · intro h; cases h
    · rintro ⟨h, _⟩; exact absurd h (by decide)

/-! One token. -/
theorem only_name (s : ByteArray) (g : Int) (hg : g = 1 ∨ g = 2) : onlyB s (nextP g true s.data.toList) 1 = Word.nameB s := by
  have htk : ∀ l, tokenP g l = commonP (decide (g = 2)) l := fun l => by rw [tokenP, if_neg (by omega), if_neg (by omega), if_neg (by omega)]
  cases h : Word.nameB s with
  | true =>
    obtain ⟨h1, h2⟩ := (name_iff s).1 h
    have : nextP g true s.data.toList = ⟨0, [], 1, s.data.toList, [], false, []⟩ := by
      rw [nextP, gapP, if_neg (by omega), name_skip _ h1, htk, common_name _ _ h1, nameP, if_pos h1, h2]
      rfl
    rw [this]; exact only_yes s 1 false
  | false =>
    cases h2 : onlyB s (nextP g true s.data.toList) 1 with
    | false => rfl
    | true =>
      exfalso
      obtain ⟨_, _, h3⟩ := only_inv s g 1 hg h2
      have h4 := common_one _ s.data.toList (by rw [h3])
      rw [h3, nameP] at h4
      by_cases c1 : Uni.startB (chL s.data.toList) = true
      · rw [if_pos c1] at h4
        have : Word.nameB s = true := (name_iff s).2 ⟨c1, (congrArg Prod.snd h4).symm⟩
        rw [h] at this; cases this
      · rw [if_neg c1] at h4
        split at h4
        · exact absurd (congrArg Prod.fst h4) (show (1 : Int) ≠ 0 by decide)
        · exact absurd (congrArg Prod.fst h4) (show (1 : Int) ≠ 0 by decide)

theorem hash_ch (l : List UInt8) : chL (35 :: l) = 35 := (ch_asc 35 l (by decide)).1
theorem only_priv (s u : ByteArray) (hu : u.data.toList = 35 :: s.data.toList) : onlyB u (nextP 1 true u.data.toList) 2 = Word.nameB s := by
  cases h : Word.nameB s with
  | true =>
    obtain ⟨h1, h2⟩ := (name_iff s).1 h
    have ho : opensP true (35 :: s.data.toList) = 0 := by
      have h33 : pre [35, 33] (35 :: s.data.toList) = false := by
        cases hb : pre [35, 33] (35 :: s.data.toList) with
        | false => rfl
        | true =>
          exfalso
          obtain ⟨r, hr⟩ := (pre_iff _ _).1 hb
          have : s.data.toList = 33 :: r := (List.cons.inj hr).2
          rw [this, (ch_asc 33 r (by decide)).1] at h1
          exact absurd h1 (by decide)
      have h47 : ∀ b, pre [47, b] (35 :: s.data.toList) = false := by
        intro b
        cases hb : pre [47, b] (35 :: s.data.toList) with
        | false => rfl
        | true =>
          exfalso
          obtain ⟨r, hr⟩ := (pre_iff _ _).1 hb
          exact absurd (List.cons.inj hr).1 (by decide)
      unfold opensP
      rw [h47, h47, h33]; simp
    have hsk : skip (true, false, []) (35 :: s.data.toList) = ⟨0, false, [], 35 :: s.data.toList⟩ := skip_stay _ _ _ _ (by rw [hash_ch]; decide) (by rw [hash_ch]; decide) (by rw [hash_ch]; decide) ho
    have hc : commonP false (35 :: s.data.toList) = (2, 0, []) := by
      unfold commonP
      rw [hash_ch, if_neg (by decide), if_neg (by decide), if_neg (by decide), if_pos rfl, privP, List.tail_cons]
      have := start_range _ h1
      rw [if_neg (by omega), h1, if_neg (by decide), h2]
    have : nextP 1 true u.data.toList = ⟨0, [], 2, u.data.toList, [], false, []⟩ := by
      rw [hu, nextP, gapP, if_neg (by decide), hsk]
      show ansP _ (commonP false (35 :: s.data.toList)) = _
      rw [hc]; rfl
    rw [this]; exact only_yes u 2 false
  | false =>
    cases h2 : onlyB u (nextP 1 true u.data.toList) 2 with
    | false => rfl
    | true =>
      exfalso
      obtain ⟨_, _, h3⟩ := only_inv u 1 2 (Or.inl rfl) h2
      have h4 := common_two _ u.data.toList (by rw [h3])
      rw [h3, hu, privP, List.tail_cons] at h4
      by_cases c1 : chL s.data.toList = -2
      · rw [if_pos c1] at h4; exact absurd (congrArg Prod.fst h4) (show (2 : Int) ≠ 0 by decide)
      rw [if_neg c1] at h4
      cases c2 : Uni.startB (chL s.data.toList) with
      | false => rw [if_pos c2] at h4; exact absurd (congrArg Prod.fst h4) (show (2 : Int) ≠ 0 by decide)
      | true =>
        rw [if_neg (by rw [c2]; decide)] at h4
        have : Word.nameB s = true := (name_iff s).2 ⟨c2, (congrArg Prod.snd h4).symm⟩
        rw [h] at this; cases this

/-- Where all goes on in a name it goes on with a dash too, whatever stands behind. -/
theorem parts_more (T : List UInt8) : ∀ n l, l.length ≤ n → parts false l = (0, []) → parts true (l ++ T) = parts true T
  | n, l, hn, h => by
    by_cases e1 : l = []
    · subst e1; rfl
    have c1 := ch_pos e1
    by_cases c2 : chL l = -2
    · rw [parts_bad false l c2] at h; exact absurd (congrArg Prod.fst h) (show (502 : Int) ≠ 0 by decide)
    cases hp : Uni.partB (chL l) with
    | false => rw [parts_stop false l c2 hp (Or.inr rfl)] at h; exact absurd (congrArg Prod.snd h) e1
    | true =>
      obtain ⟨a1, a2⟩ := ch_app l T c1 c2
      rw [parts_go false l c2 (by rw [hp]; rintro ⟨h, _⟩; cases h)] at h
      rw [parts_go true (l ++ T) (by rw [a1]; exact c2) (by rw [a1, hp]; rintro ⟨h, _⟩; cases h), a2]
      have hlt := tl_lt c1 c2
      match n, hn with
      | 0, hn => omega
      | n + 1, hn => exact parts_more T n (tl l) (by omega) h
theorem dashes : parts true [45, 120, 45] = (0, []) := by decide +kernel

theorem only_tag (s u : ByteArray) (T : List UInt8) (hT : parts true T = (0, [])) (hu : u.data.toList = s.data.toList ++ T) (h : Word.nameB s = true) : onlyB u (nextP 5 true u.data.toList) 1 = true := by
  obtain ⟨h1, h2⟩ := (name_iff s).1 h
  have hr := start_range _ h1
  obtain ⟨a1, _⟩ := ch_app s.data.toList T (by omega) (by omega)
  have h3 : Uni.startB (chL u.data.toList) = true := by rw [hu, a1]; exact h1
  have : nextP 5 true u.data.toList = ⟨0, [], 1, u.data.toList, [], false, []⟩ := by
    rw [nextP, gapP, if_neg (by decide), name_skip _ h3]
    show ansP _ (tagP u.data.toList) = _
    rw [tag_name _ h3, hu, parts_more T _ _ (Nat.le_refl _) h2, hT]
    rfl
  rw [this]; exact only_yes u 1 false

end Lex
end Go.Proofs.YtggibhlmnfodaaaDoor
