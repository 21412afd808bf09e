/-
  Patterns without numbers and names may be joined, and stand in a group.
-/
import Derived.Test.YtjoohpdohdehgaaGreatDoorRegJoin
import Derived.Test.YtjoohpdohdehgaaGreatDoorRegBits
namespace Go.Proofs.YtjoohpdohdehgaaGreatDoor
namespace Reg
open Go.RowKit
open Str (lenL runeL hexV)

theorem pat_like {T : List UInt8} (hT : hd T = -1 ∨ hd T = 41) (u : Bool) {st st' s : St} (hp : plainL st.rest = true) (hr : st'.rest = st.rest ++ T) (h : patV u st = .ok s) :
    ∃ s' : St, patV u st' = .ok s' ∧ s'.rest = s.rest ++ T ∧ s'.names = st'.names ∧ s'.refs = st'.refs := by
  have hS : Stop T := hT.elim .inl (fun h => .inr (.inl h))
  have h1 := read_loc hS u (2 * st.rest.length + 2) (2 * st'.rest.length + 2) true st st' (by rw [hr, List.length_append]; omega) hp hr
  have h2 : readP u (2 * st.rest.length + 2) true st = .ok s := h
  rw [h2] at h1
  exact h1.2.2 (.inr (.inr (by rcases hT with h | h <;> rw [h] <;> decide)))
theorem alt_like {T : List UInt8} (hT : Stop T) (u : Bool) {st st' s : St} (hp : plainL st.rest = true) (hr : st'.rest = st.rest ++ T) (h : altV u st = .ok s) :
    s.rest <:+ st.rest ∧ ∃ s' : St, altV u st' = .ok s' ∧ s'.rest = s.rest ++ T ∧ s'.names = st'.names ∧ s'.refs = st'.refs := by
  have h1 := read_loc hT u (2 * st.rest.length + 1) (2 * st'.rest.length + 1) false st st' (by rw [hr, List.length_append]; omega) hp hr
  have h2 : readP u (2 * st.rest.length + 1) false st = .ok s := h
  rw [h2] at h1
  exact ⟨h1.1, h1.2.2 (.inl rfl)⟩
theorem rest_nil {l : List UInt8} (h : hd l = -1) : l = [] := by
  cases l with
  | nil => rfl
  | cons x l =>
    have : (x.toNat : Int) = -1 := h
    omega

/-- A pattern without numbers and names that is well is read to its end. -/
theorem whole {u : Bool} {L : List UInt8} (hp : plainL L = true) (h : ∀ e, bodyP u L = .error e → e.2 = 0) : L ≠ [] ∧ ∃ s : St, patV u ⟨L, 0, [], []⟩ = .ok s ∧ s.rest = [] := by
  have e4 : (400 : Nat) ≠ 0 := by decide
  by_cases hne : L = []
  · have := h (L.length, 400) (by unfold bodyP; rw [if_pos hne]; rfl)
    exact absurd this e4
  refine ⟨hne, ?_⟩
  have hb : bodyP u L = match patV u ⟨L, 0, [], []⟩ with
    | .error e => .error e
    | .ok st => if hd st.rest = -1 then lookP st.groups st.names st.refs else wrong st.rest := by unfold bodyP; rw [if_neg hne]; rfl
  have h1 := read_loc (T := []) (.inl rfl) u (2 * L.length + 2) (2 * L.length + 2) true ⟨L, 0, [], []⟩ ⟨L, 0, [], []⟩ (Nat.le_refl _) hp (by simp)
  have h1' : LocT [] (Asks [] true) ⟨L, 0, [], []⟩ ⟨L, 0, [], []⟩ (patV u ⟨L, 0, [], []⟩) (patV u ⟨L, 0, [], []⟩) := h1
  cases hc : patV u ⟨L, 0, [], []⟩ with
  | error e =>
    rw [hc] at hb h1'
    exact absurd (h e hb) h1'
  | ok s =>
    rw [hc] at hb
    by_cases e : hd s.rest = -1
    · exact ⟨s, rfl, rest_nil e⟩
    · simp only at hb
      rw [if_neg e] at hb
      exact absurd (h _ hb) e4
/-- A pattern that is read to its end, and notes nothing, is well. -/
theorem well {u : Bool} {L : List UInt8} (hne : L ≠ []) {s : St} (h : patV u ⟨L, 0, [], []⟩ = .ok s) (hr : s.rest = []) (hf : s.refs = []) : bodyP u L = .ok () := by
  have hb : bodyP u L = match patV u ⟨L, 0, [], []⟩ with
    | .error e => .error e
    | .ok st => if hd st.rest = -1 then lookP st.groups st.names st.refs else wrong st.rest := by unfold bodyP; rw [if_neg hne]; rfl
  rw [hb, h]
  simp only
  rw [hr, if_pos (show hd [] = -1 from rfl), hf]
  rfl

/-- A bar between. -/
theorem pat_or (u : Bool) (B : List UInt8) : ∀ (m : Nat) (st s : St), st.rest.length ≤ m → patV u st = .ok s → s.rest = [] → plainL st.rest = true → ∀ st' : St, st'.rest = st.rest ++ 124 :: B →
    ∃ s' : St, patV u st' = patV u s' ∧ s'.rest = B ∧ s'.names = st'.names ∧ s'.refs = st'.refs := by
  have hS : Stop (124 :: B) := .inr (.inr rfl)
  intro m
  induction m with
  | zero =>
    intro st s hm h hs hp st' hr
    rw [pat_eq] at h
    cases ha : altV u st with
    | error e => rw [ha] at h; cases h
    | ok s1 =>
      rw [ha] at h
      simp only at h
      obtain ⟨h1, s1', h2, h3, h4, h5⟩ := alt_like hS u hp hr ha
      have hl := h1.length_le
      have h0 : s1.rest = [] := List.eq_nil_of_length_eq_zero (by omega)
      rw [h0] at h3
      refine ⟨s1'.at B, ?_, rfl, h4, h5⟩
      rw [pat_eq u st', h2]
      simp only
      rw [h3, if_pos (show hd ([] ++ 124 :: B) = 124 from rfl)]
      rfl
  | succ m ih =>
    intro st s hm h hs hp st' hr
    rw [pat_eq] at h
    cases ha : altV u st with
    | error e => rw [ha] at h; cases h
    | ok s1 =>
      rw [ha] at h
      simp only at h
      obtain ⟨h1, s1', h2, h3, h4, h5⟩ := alt_like hS u hp hr ha
      have hl := h1.length_le
      by_cases c : hd s1.rest = 124
      · rw [if_pos c] at h
        have hne := ne_of_hd c (by decide)
        have ht := tail_lt c (by decide)
        obtain ⟨s2, k1, k2, k3, k4⟩ := ih (s1.at s1.rest.tail) s (by show s1.rest.tail.length ≤ m; omega) h hs (plain_suf hp ((tail_suf _).trans h1)) (s1'.at (s1.rest.tail ++ 124 :: B)) rfl
        refine ⟨s2, ?_, k2, k3.trans h4, k4.trans h5⟩
        rw [pat_eq u st', h2]
        simp only
        rw [h3, hd_ne hne, if_pos c, tail_ne hne]
        exact k1
      · rw [if_neg c] at h
        have h0 : s1.rest = [] := by cases h; exact hs
        rw [h0] at h3
        refine ⟨s1'.at B, ?_, rfl, h4, h5⟩
        rw [pat_eq u st', h2]
        simp only
        rw [h3, if_pos (show hd ([] ++ 124 :: B) = 124 from rfl)]
        rfl

/-- A pattern that is read to its end doesn't begin with a question mark. -/
theorem no_mark {u : Bool} {L : List UInt8} {s : St} (h : patV u ⟨L, 0, [], []⟩ = .ok s) : hd L ≠ 63 := by
  intro e
  have h1 : pieceP u (patV u) ⟨L, 0, [], []⟩ = wrong L := by
    unfold pieceP
    have e' : hd (⟨L, 0, [], []⟩ : St).rest = 63 := e
    rw [e', if_neg (by decide), if_neg (by decide), if_neg (by decide), if_neg (by decide), if_pos (by decide)]
  have h2 : termP u (patV u) ⟨L, 0, [], []⟩ = wrong L := by unfold termP; rw [h1]; rfl
  have e' : hd (⟨L, 0, [], []⟩ : St).rest = 63 := e
  have h3 : altV u ⟨L, 0, [], []⟩ = wrong L := by rw [alt_eq, e', if_neg (by decide), h2]; rfl
  rw [pat_eq, h3] at h
  cases h

/-- One term, and no more. -/
theorem pat_one {u : Bool} {st s : St} (hc : ¬ (hd st.rest = -1 ∨ hd st.rest = 124 ∨ hd st.rest = 41)) (h : termP u (patV u) st = .ok s) (hr : s.rest = []) : patV u st = .ok s := by
  have h0 : altV u s = .ok s := by rw [alt_eq, if_pos (.inl (by rw [hr]; rfl))]
  have h1 : altV u st = .ok s := by rw [alt_eq, if_neg hc, h]; exact h0
  rw [pat_eq, h1]
  simp only
  rw [hr, if_neg (by decide)]
/-- Two of them. -/
theorem pat_two {u : Bool} {st s1 s : St} (hc : ¬ (hd st.rest = -1 ∨ hd st.rest = 124 ∨ hd st.rest = 41)) (h : termP u (patV u) st = .ok s1)
    (hc1 : ¬ (hd s1.rest = -1 ∨ hd s1.rest = 124 ∨ hd s1.rest = 41)) (h1 : termP u (patV u) s1 = .ok s) (hr : s.rest = []) : patV u st = .ok s := by
  have h0 : altV u s = .ok s := by rw [alt_eq, if_pos (.inl (by rw [hr]; rfl))]
  have h2 : altV u s1 = .ok s := by rw [alt_eq, if_neg hc1, h1]; exact h0
  have h3 : altV u st = .ok s := by rw [alt_eq, if_neg hc, h]; exact h2
  rw [pat_eq, h3]
  simp only
  rw [hr, if_neg (by decide)]

/-- The brackets' inside, behind which R stands. -/
theorem inside {u : Bool} {A : List UInt8} {s : St} (h : patV u ⟨A, 0, [], []⟩ = .ok s) (hs : s.rest = []) (hp : plainL A = true) (R : List UInt8) (st : St) (hr : st.rest = A ++ 41 :: R) :
    ∃ s' : St, patV u st = .ok s' ∧ s'.rest = 41 :: R ∧ s'.names = st.names ∧ s'.refs = st.refs := by
  obtain ⟨s', h1, h2, h3, h4⟩ := pat_like (T := 41 :: R) (.inr rfl) u (st := ⟨A, 0, [], []⟩) hp hr h
  rw [hs] at h2
  exact ⟨s', h1, h2, h3, h4⟩
theorem close (R : List UInt8) : expP 41 (41 :: R) = .ok R := by unfold expP; rw [if_pos (show hd (41 :: R) = 41 from rfl)]; rfl
theorem hd_app_ne {A R : List UInt8} (hne : A ≠ []) {c : Int} (h : hd A ≠ c) : hd (A ++ R) ≠ c := by rw [hd_ne hne]; exact h

/-- A group that takes part. -/
theorem term_group {u : Bool} {A R m : List UInt8} {s : St} (hne : A ≠ []) (h : patV u ⟨A, 0, [], []⟩ = .ok s) (hs : s.rest = []) (hp : plainL A = true) (hq : quanP R = .ok m) (st : St) (hr : st.rest = 40 :: (A ++ 41 :: R)) :
    ∃ s' : St, termP u (patV u) st = .ok s' ∧ s'.rest = m ∧ s'.names = st.names ∧ s'.refs = st.refs := by
  obtain ⟨s1, h1, h2, h3, h4⟩ := inside h hs hp R { st with rest := A ++ 41 :: R, groups := st.groups + 1 } rfl
  have hg : groupP (patV u) (st.at (A ++ 41 :: R)) = .ok (true, s1.at R) := by
    unfold groupP
    have e : ¬ hd (st.at (A ++ 41 :: R)).rest = 63 := hd_app_ne hne (no_mark h)
    rw [if_neg e]
    simp only
    have e2 : ({ st.at (A ++ 41 :: R) with groups := (st.at (A ++ 41 :: R)).groups + 1 } : St) = { st with rest := A ++ 41 :: R, groups := st.groups + 1 } := rfl
    rw [e2, h1]
    simp only
    rw [h2, close]
  have hpc : pieceP u (patV u) st = .ok (true, s1.at R) := by
    unfold pieceP
    rw [hr, if_neg (by simp [hd]), if_pos (by simp [hd])]
    exact hg
  refine ⟨s1.at m, ?_, rfl, h3, h4⟩
  unfold termP
  rw [hpc]
  simp only
  rw [if_pos True.intro, show (s1.at R).rest = R from rfl, hq]
  rfl

/-- A group that is marked by c and takes part or not. -/
theorem term_marked {u : Bool} {A R m : List UInt8} {s : St} (h : patV u ⟨A, 0, [], []⟩ = .ok s) (hs : s.rest = []) (hp : plainL A = true) (c : UInt8) (b : Bool)
    (hc : (c = 58 ∧ b = true ∧ quanP R = .ok m) ∨ (c = 61 ∧ b = false ∧ R = m)) (st : St) (hr : st.rest = 40 :: 63 :: c :: (A ++ 41 :: R)) :
    ∃ s' : St, termP u (patV u) st = .ok s' ∧ s'.rest = m ∧ s'.names = st.names ∧ s'.refs = st.refs := by
  obtain ⟨s1, h1, h2, h3, h4⟩ := inside h hs hp R (st.at (A ++ 41 :: R)) rfl
  have hm : markP (st.at (c :: (A ++ 41 :: R))) = .ok (b, st.at (A ++ 41 :: R)) := by
    unfold markP
    rcases hc with ⟨rfl, rfl, -⟩ | ⟨rfl, rfl, -⟩
    · rw [show hd (st.at (58 :: (A ++ 41 :: R))).rest = 58 from rfl, if_neg (by decide), if_pos rfl]; rfl
    · rw [show hd (st.at (61 :: (A ++ 41 :: R))).rest = 61 from rfl, if_neg (by decide), if_neg (by decide), if_pos (by decide)]; rfl
  have hg : groupP (patV u) (st.at (63 :: c :: (A ++ 41 :: R))) = .ok (b, s1.at R) := by
    unfold groupP
    have e : hd (st.at (63 :: c :: (A ++ 41 :: R))).rest = 63 := rfl
    rw [if_pos e]
    have e2 : (st.at (63 :: c :: (A ++ 41 :: R))).at (st.at (63 :: c :: (A ++ 41 :: R))).rest.tail = st.at (c :: (A ++ 41 :: R)) := rfl
    rw [e2, hm]
    simp only
    rw [h1]
    simp only
    rw [h2, close]
  have hpc : pieceP u (patV u) st = .ok (b, s1.at R) := by
    unfold pieceP
    rw [hr, if_neg (by simp [hd]), if_pos (by simp [hd])]
    exact hg
  refine ⟨s1.at m, ?_, rfl, h3, h4⟩
  unfold termP
  rw [hpc]
  simp only
  rcases hc with ⟨-, rfl, hq⟩ | ⟨-, rfl, rfl⟩
  · rw [if_pos rfl, show (s1.at R).rest = R from rfl, hq]
    rfl
  · rw [if_neg (by decide)]

theorem star_end : quanP [42] = .ok [] := rfl
theorem maybe_end : quanP [63] = .ok [] := rfl
theorem start_40 (l : List UInt8) (st : St) (h : st.rest = 40 :: l) : ¬ (hd st.rest = -1 ∨ hd st.rest = 124 ∨ hd st.rest = 41) := by rw [h]; simp [hd]

section
variable {u : Bool} {A B : List UInt8} (pa : plainL A = true) (pb : plainL B = true) (ha : ∀ e, bodyP u A = .error e → e.2 = 0) (hb : ∀ e, bodyP u B = .error e → e.2 = 0)
include pa ha
theorem group_well : bodyP u (40 :: (A ++ [41, 42])) = .ok () := by
  obtain ⟨hne, s, h1, h2⟩ := whole pa ha
  obtain ⟨s', k1, k2, k3, k4⟩ := term_group hne h1 h2 pa star_end ⟨40 :: (A ++ 41 :: [42]), 0, [], []⟩ rfl
  exact well (by simp) (pat_one (start_40 _ _ rfl) k1 k2) k2 k4
include pb hb
theorem or_well : bodyP u (A ++ 124 :: B) = .ok () := by
  obtain ⟨hne, s, h1, h2⟩ := whole pa ha
  obtain ⟨-, t, g1, g2⟩ := whole pb hb
  obtain ⟨s', k1, k2, k3, k4⟩ := pat_or u B A.length ⟨A, 0, [], []⟩ s (Nat.le_refl _) h1 h2 pa ⟨A ++ 124 :: B, 0, [], []⟩ rfl
  obtain ⟨t', j1, j2, j3, j4⟩ := pat_like (T := []) (.inl rfl) u (st := ⟨B, 0, [], []⟩) (st' := s') pb (by rw [k2]; simp) g1
  rw [g2] at j2
  exact well (by simp) (k1.trans j1) (by rw [j2]; rfl) (j4.trans k4)
theorem look_well : bodyP u (40 :: 63 :: 61 :: (A ++ 41 :: (40 :: 63 :: 58 :: (B ++ [41, 63])))) = .ok () := by
  obtain ⟨hne, s, h1, h2⟩ := whole pa ha
  obtain ⟨-, t, g1, g2⟩ := whole pb hb
  obtain ⟨s1, k1, k2, k3, k4⟩ := term_marked (R := 40 :: 63 :: 58 :: (B ++ 41 :: [63])) (m := 40 :: 63 :: 58 :: (B ++ 41 :: [63])) h1 h2 pa 61 false (.inr ⟨rfl, rfl, rfl⟩) ⟨40 :: 63 :: 61 :: (A ++ 41 :: (40 :: 63 :: 58 :: (B ++ 41 :: [63]))), 0, [], []⟩ rfl
  obtain ⟨s2, j1, j2, j3, j4⟩ := term_marked (R := [63]) (m := []) g1 g2 pb 58 true (.inl ⟨rfl, rfl, maybe_end⟩) s1 k2
  exact well (by simp) (pat_two (start_40 _ _ rfl) k1 (start_40 _ _ k2) j1 j2) j2 (j4.trans k4)
end

/-- Is a check's answer that all is well? -/
theorem end_well {body flags : ByteArray} (h : (endP body flags).2 = 0) : goodB [] flags.data.toList = true ∧ body.size ≤ 4096 ∧ ∀ e, bodyP (maskL flags.data.toList &&& 32 != 0) body.data.toList = .error e → e.2 = 0 := by
  rw [end_flags] at h
  by_cases c1 : goodB [] flags.data.toList = true
  · rw [if_pos c1] at h
    by_cases c2 : 4096 < body.size
    · rw [if_pos c2] at h; exact absurd h (by decide)
    · rw [if_neg c2] at h
      refine ⟨c1, by omega, fun e he => ?_⟩
      unfold runP at h
      rw [he] at h
      exact h
  · rw [if_neg c1] at h; exact absurd h (by decide)
theorem end_of_well {body flags : ByteArray} (hg : goodB [] flags.data.toList = true) (hs : body.size ≤ 4096) (h : bodyP (maskL flags.data.toList &&& 32 != 0) body.data.toList = .ok ()) : endP body flags = (0, 0) := by
  rw [end_flags, if_pos hg, if_neg (by omega)]
  unfold runP
  rw [h]

theorem ba_toList (a b : ByteArray) : (a ++ b).data.toList = a.data.toList ++ b.data.toList := by simp [ByteArray.data_append]
theorem joins_all (a b f : ByteArray) (pa : plainL a.data.toList = true) (pb : plainL b.data.toList = true) (ha : (endP a f).2 = 0) (hb : (endP b f).2 = 0) (hl : a.size + b.size + 9 ≤ 4096) :
    endP ((a ++ ⟨#[124]⟩) ++ b) f = (0, 0) ∧ endP ((⟨#[40]⟩ ++ a) ++ ⟨#[41, 42]⟩) f = (0, 0) ∧ endP ((((⟨#[40, 63, 61]⟩ ++ a) ++ ⟨#[41, 40, 63, 58]⟩) ++ b) ++ ⟨#[41, 63]⟩) f = (0, 0) := by
  obtain ⟨hg, -, ha'⟩ := end_well ha
  obtain ⟨-, -, hb'⟩ := end_well hb
  refine ⟨end_of_well hg ?_ ?_, end_of_well hg ?_ ?_, end_of_well hg ?_ ?_⟩
  · rw [ByteArray.size_append, ByteArray.size_append]; show _ + 1 + _ ≤ 4096; omega
  · rw [ba_toList, ba_toList, List.append_assoc]; exact or_well pa pb ha' hb'
  · rw [ByteArray.size_append, ByteArray.size_append]; show 1 + _ + 2 ≤ 4096; omega
  · rw [ba_toList, ba_toList, List.append_assoc]; exact group_well pa ha'
  · rw [ByteArray.size_append, ByteArray.size_append, ByteArray.size_append, ByteArray.size_append]; show 3 + _ + 4 + _ + 2 ≤ 4096; omega
  · rw [ba_toList, ba_toList, ba_toList, ba_toList, List.append_assoc, List.append_assoc, List.append_assoc]; exact look_well pa pb ha' hb'

end Reg
end Go.Proofs.YtjoohpdohdehgaaGreatDoor
