/-
  What is noted is no longer than the body.
-/
import Derived.Test.YtjoohpdohdehgaaGreatDoorRegRead
namespace Go.Proofs.YtjoohpdohdehgaaGreatDoor
namespace Reg

/-- What is left, and what is noted, is no longer than N. -/
def Small (N : Nat) (st : St) : Prop := st.rest.length ≤ N ∧ ∀ r ∈ st.refs, r.text.length ≤ N
theorem Small.mk2 {N : Nat} {st s : St} (h : Small N st) (hl : s.rest.length ≤ st.rest.length) (hr : s.refs = st.refs) : Small N s := ⟨Nat.le_trans hl h.1, by rw [hr]; exact h.2⟩
theorem Small.snoc {N : Nat} {st s : St} (h : Small N st) (hl : s.rest.length ≤ st.rest.length) {q : Ref} (hq : q.text.length ≤ N) (hr : s.refs = st.refs ++ [q]) : Small N s :=
  ⟨Nat.le_trans hl h.1, by
    rw [hr]; intro r hm
    rcases List.mem_append.1 hm with h1 | h1
    · exact h.2 r h1
    · rw [List.mem_singleton.1 h1]; exact hq⟩

theorem lop_len (l : List UInt8) : (lop l).length ≤ l.length := (List.dropWhile_sublist _).length_le
theorem digs_len (l : List UInt8) : (digsL l).length ≤ l.length := (List.takeWhile_sublist _).length_le
theorem num_text {l : List UInt8} {r : List UInt8 × List UInt8} (h : numP l = .ok r) : r.1.length ≤ l.length := by
  unfold numP at h
  split at h
  · cases h
    exact Nat.le_trans (lop_len _) (digs_len _)
  · cases h
theorem name_text {l : List UInt8} {r : List UInt8 × List UInt8} (h : nameP l = .ok r) : r.1.length ≤ l.length := by
  unfold nameP at h
  cases hc : chrP Uni.startB l with
  | error x => rw [hc] at h; cases h
  | ok q =>
    rw [hc] at h
    simp only at h
    cases ht : tillP Uni.partB 62 (q.2.length + 1) q.2 with
    | error x => rw [ht] at h; cases h
    | ok m => rw [ht] at h; cases h; simp only [List.length_take]; omega

theorem escd_small {u : Bool} {N : Nat} {st : St} {r : Bool × St} (hq : hd st.rest = 92) (hs : Small N st) (h : escdP u st = .ok r) : Small N r.2 := by
  have hl := Nat.le_of_lt (escd_len hq h)
  have ht := tail_len st.rest
  unfold escdP at h
  split at h
  · cases h; exact hs.mk2 hl rfl
  split at h
  · cases he : expP 60 st.rest.tail.tail with
    | error x => rw [he] at h; cases h
    | ok m =>
      rw [he] at h; simp only at h
      have h1 := exp_len (by decide) he
      have h2 := tail_len st.rest.tail
      cases hn : nameP m with
      | error x => rw [hn] at h; cases h
      | ok q =>
        rw [hn] at h; cases h
        have h3 := name_text hn
        exact hs.snoc hl (by show q.1.length ≤ N; have := hs.1; omega) rfl
  split at h
  · cases hn : numP st.rest.tail with
    | error x => rw [hn] at h; cases h
    | ok q =>
      rw [hn] at h; cases h
      have h3 := num_text hn
      exact hs.snoc hl (by show q.1.length ≤ N; have := hs.1; omega) rfl
  · cases hn : escP u st.rest.tail with
    | error x => rw [hn] at h; cases h
    | ok q => rw [hn] at h; cases h; exact hs.mk2 hl rfl

theorem decl_refs {st s : St} (h : declP st = .ok s) : s.refs = st.refs := by
  unfold declP at h
  cases hn : nameP st.rest with
  | error x => rw [hn] at h; cases h
  | ok q =>
    rw [hn] at h; simp only at h
    split at h
    · cases h
    · cases h; rfl
theorem mark_refs {st : St} {r : Bool × St} (h : markP st = .ok r) : r.2.refs = st.refs := by
  unfold markP at h
  split at h
  · cases h
  split at h
  · cases h; rfl
  split at h
  · cases h; rfl
  split at h
  · split at h
    · cases h; rfl
    · cases hd : declP (st.at st.rest.tail) with
      | error x => rw [hd] at h; cases h
      | ok s => rw [hd] at h; cases h; exact decl_refs (st := st.at st.rest.tail) hd
  · cases h
theorem head_refs {st : St} {r : Bool × St} (h : (if hd st.rest = 63 then markP (st.at st.rest.tail) else .ok (true, { st with groups := st.groups + 1 })) = Except.ok (ε := Nat × Nat) r) : r.2.refs = st.refs := by
  split at h
  · exact mark_refs (st := st.at st.rest.tail) h
  · cases h; rfl

def Keeps (N : Nat) (pat : St → Except (Nat × Nat) St) : Prop := ∀ st s, Small N st → pat st = .ok s → Small N s
theorem group_small {N : Nat} {pat : St → Except (Nat × Nat) St} (hk : Keeps N pat) {st : St} {r : Bool × St} (hs : Small N st) (h : groupP pat st = .ok r) : Small N r.2 := by
  unfold groupP at h
  cases hm : (if hd st.rest = 63 then markP (st.at st.rest.tail) else .ok (true, { st with groups := st.groups + 1 })) with
  | error x => rw [hm] at h; cases h
  | ok q =>
    rw [hm] at h
    simp only at h
    have h1 : Small N q.2 := hs.mk2 (group_head hm) (head_refs hm)
    cases hq : pat q.2 with
    | error x => rw [hq] at h; cases h
    | ok s =>
      rw [hq] at h
      simp only at h
      have h2 := hk _ _ h1 hq
      cases he : expP 41 s.rest with
      | error x => rw [he] at h; cases h
      | ok m =>
        rw [he] at h; cases h
        exact h2.mk2 (Nat.le_of_lt (exp_len (by decide) he)) rfl
theorem piece_small {u : Bool} {N : Nat} {pat : St → Except (Nat × Nat) St} (hp : Down pat) (hk : Keeps N pat) {st : St} {r : Bool × St} (hs : Small N st) (h : pieceP u pat st = .ok r) : Small N r.2 := by
  have hl := Nat.le_of_lt (piece_len hp h)
  unfold pieceP at h
  split at h
  · cases h; exact hs.mk2 hl rfl
  split at h
  · exact group_small hk (st := st.at st.rest.tail) (hs.mk2 (tail_len _) rfl) h
  split at h
  · cases hc : classP u st.rest.tail with
    | error x => rw [hc] at h; cases h
    | ok m => rw [hc] at h; cases h; exact hs.mk2 hl rfl
  split at h
  · rename_i e4; exact escd_small e4 hs h
  split at h
  · cases h
  · cases hc : chrP anyP st.rest with
    | error x => rw [hc] at h; cases h
    | ok q => rw [hc] at h; cases h; exact hs.mk2 hl rfl
theorem term_small {u : Bool} {N : Nat} {pat : St → Except (Nat × Nat) St} (hp : Down pat) (hk : Keeps N pat) {st s : St} (hs : Small N st) (h : termP u pat st = .ok s) : Small N s := by
  unfold termP at h
  cases hc : pieceP u pat st with
  | error x => rw [hc] at h; cases h
  | ok r =>
    rw [hc] at h
    simp only at h
    have h1 := piece_small hp hk hs hc
    split at h
    · cases hq : quanP r.2.rest with
      | error x => rw [hq] at h; cases h
      | ok m => rw [hq] at h; cases h; exact h1.mk2 (quan_len hq) rfl
    · cases h; exact h1
theorem read_small {u : Bool} {N : Nat} : ∀ (n : Nat) (b : Bool) (st s : St), Small N st → readP u n b st = .ok s → Small N s
  | 0, _, _, _, _, h => by cases h
  | n + 1, true, st, s, hs, h => by
    rw [readP] at h
    cases ha : readP u n false st with
    | error x => rw [ha] at h; cases h
    | ok s1 =>
      rw [ha] at h
      simp only at h
      have h1 := read_small n false st s1 hs ha
      split at h
      · exact read_small n true (s1.at s1.rest.tail) s (h1.mk2 (tail_len _) rfl) h
      · cases h; exact h1
  | n + 1, false, st, s, hs, h => by
    rw [readP] at h
    split at h
    · cases h; exact hs
    · cases ht : termP u (readP u n true) st with
      | error x => rw [ht] at h; cases h
      | ok s1 =>
        rw [ht] at h
        exact read_small n false s1 s (term_small (fun a b hab => read_len n true a b hab) (fun a b hab => read_small n true a b hab) hs ht) h
theorem pat_small (u : Bool) (N : Nat) : Keeps N (patV u) := fun st s hs h => read_small _ _ st s hs h

end Reg
end Go.Proofs.YtjoohpdohdehgaaGreatDoor
