/-
  Comments side by side are told in their row: no program is called here.
-/
import Derived.Test.YtfnilkhccomemaaDoorLexBlankU
import Derived.Test.YtfnilkhccomemaaDoorLexDec
namespace Go.Proofs.YtfnilkhccomemaaDoor
namespace Lex
open Go.RowKit
open Str (lenL runeL)

/-- A comment's kind and text. -/
abbrev Key := Nat × List UInt8
def keyC (c : Com) : Key := (c.kind, upTo c.fr c.to)
/-- The digits of a number below 20. -/
def digL (k : Nat) : List UInt8 := Lib.itoa (k : Nat)
def digU (x : UInt8) : Prop := 48 ≤ x.toNat ∧ x.toNat ≤ 57
theorem dig_one (r : Nat) (h : r < 10) : digU (UInt8.ofNat (48 + r)) := by
  unfold digU
  have e : (UInt8.ofNat (48 + r)).toNat = 48 + r := by
    rw [UInt8.toNat_ofNat']; exact Nat.mod_eq_of_lt (by omega)
  rw [e]; omega
theorem dig_small (k : Nat) (h : k < 10) : (∀ x ∈ Lib.decDigits k, digU x) ∧ (Lib.decDigits k).length = 1 := by
  rw [Num.dec_last k (by omega)]
  refine ⟨fun x hx => ?_, rfl⟩
  rw [List.mem_singleton.1 hx]
  exact dig_one _ (Nat.mod_lt _ (by decide))
theorem dig_all (k : Nat) (h : k < 20) : (∀ x ∈ digL k, digU x) ∧ (digL k).length ≤ 2 := by
  have e : digL k = Lib.decDigits k := by
    unfold digL
    exact Lib.itoa_nonneg k
  rw [e]
  by_cases h1 : k < 10
  · have := dig_small k h1
    exact ⟨this.1, by omega⟩
  · rw [Num.dec_step k (by omega)]
    have := dig_small (k / 10) (by omega)
    refine ⟨fun x hx => ?_, by rw [List.length_append, List.length_singleton]; omega⟩
    rcases List.mem_append.1 hx with h2 | h2
    · exact this.1 x h2
    · rw [List.mem_singleton.1 h2]
      exact dig_one _ (Nat.mod_lt _ (by decide))
theorem ends_dig (x : UInt8) (h : digU x) : Uni.endsB (x.toNat : Int) = false := by
  obtain ⟨n, hn⟩ : ∃ n, x.toNat = n := ⟨_, rfl⟩
  have h' : 48 ≤ n ∧ n ≤ 57 := by rw [← hn]; exact h
  rw [hn]
  obtain ⟨a, b⟩ := h'
  obtain rfl | rfl | rfl | rfl | rfl | rfl | rfl | rfl | rfl | rfl : n = 48 ∨ n = 49 ∨ n = 50 ∨ n = 51 ∨ n = 52 ∨ n = 53 ∨ n = 54 ∨ n = 55 ∨ n = 56 ∨ n = 57 := by omega
  all_goals decide
theorem lin_digs : ∀ (d l : List UInt8), (∀ x ∈ d, digU x) → lin (d ++ l) = lin l
  | [], _, _ => rfl
  | x :: d, l, h => by
    have hx := h x (List.mem_cons_self ..)
    rw [List.cons_append, lin_go x _ (by have := hx.2; omega) (ends_dig x hx)]
    exact lin_digs d l (fun y hy => h y (List.mem_cons_of_mem _ hy))
theorem blk_digs (b : Bool) : ∀ (d l : List UInt8), (∀ x ∈ d, digU x) → blk b (d ++ l) = blk b l
  | [], _, _ => rfl
  | x :: d, l, h => by
    have hx := h x (List.mem_cons_self ..)
    rw [List.cons_append, blk_byte b x _ (by have := hx.2; omega) (pre_hd (fun e => by subst e; have := hx.1; revert this; decide)), ends_dig x hx, Bool.or_false]
    exact blk_digs b d l (fun y hy => h y (List.mem_cons_of_mem _ hy))

/-- Text that, wherever it stands, is read as these comments; whether a line ends in it. -/
def Said (Q : List UInt8) (e : Bool) (K : List Key) : Prop := ∀ b cs l, ∃ ds, skip (false, b, cs) (Q ++ l) = skip (false, b || e, cs ++ ds) l ∧ ds.map keyC = K
theorem said_nil : Said [] false [] := fun b cs l => ⟨[], by simp, rfl⟩
theorem said_app {Q R : List UInt8} {e f : Bool} {K L : List Key} (h : Said Q e K) (k : Said R f L) : Said (Q ++ R) (e || f) (K ++ L) := fun b cs l => by
  obtain ⟨ds, h1, h2⟩ := h b cs (R ++ l)
  obtain ⟨es, k1, k2⟩ := k (b || e) (cs ++ ds) l
  refine ⟨ds ++ es, ?_, by rw [List.map_append, h2, k2]⟩
  rw [List.append_assoc, h1, k1, Bool.or_assoc, List.append_assoc]
theorem said_blank : Said [32] false [] := fun b cs l => ⟨[], by
  rw [List.singleton_append, skip_blank b cs 32 l (by decide) (by decide) (by decide)]; simp, rfl⟩
theorem said_line (d : List UInt8) (hd : ∀ x ∈ d, digU x) : Said (47 :: 47 :: (d ++ [32, 10])) true [(1, 47 :: 47 :: (d ++ [32]))] := fun b cs l => by
  refine ⟨[⟨1, 47 :: 47 :: ((d ++ [32, 10]) ++ l), 10 :: l⟩], ?_, ?_⟩
  · have hn : lin ((d ++ [32, 10]) ++ l) = (0, 10 :: l) := by
      rw [List.append_assoc, lin_digs d _ hd]
      show lin (32 :: 10 :: l) = _
      rw [lin_go 32 _ (by decide) (by decide)]
      refine loop_in _ ?_
      obtain ⟨a1, _, _⟩ := ch_asc 10 l (by decide)
      unfold linS
      rw [a1, if_neg (by decide), if_pos (by decide)]
    rw [List.cons_append, List.cons_append, skip_lin b cs ((d ++ [32, 10]) ++ l) (10 :: l) hn (by simp only [List.length_append, List.length_cons, List.length_nil]; omega), skip_line _ _ 10 l (by decide) (by decide), Bool.or_true]
  · show [keyC _] = _
    unfold keyC
    have : (47 :: 47 :: ((d ++ [32, 10]) ++ l) : List UInt8) = (47 :: 47 :: (d ++ [32])) ++ 10 :: l := by simp
    rw [this, upTo_app]
theorem said_block (t : List UInt8) (e : Bool) (ht : ∀ b l, blk b (t ++ l) = (0, b || e, l)) : Said (47 :: 42 :: t) e [(2, 47 :: 42 :: t)] := fun b cs l => by
  refine ⟨[⟨2, 47 :: 42 :: (t ++ l), l⟩], ?_, ?_⟩
  · rw [List.cons_append, List.cons_append, skip_block b (b || e) cs (t ++ l) l (ht b l) (by rw [List.length_append]; omega)]
  · show [keyC _] = _
    unfold keyC
    rw [show (47 :: 42 :: (t ++ l) : List UInt8) = (47 :: 42 :: t) ++ l from rfl, upTo_app]
theorem said_dig (d : List UInt8) (hd : ∀ x ∈ d, digU x) : Said (47 :: 42 :: (d ++ [42, 42, 47])) false [(2, 47 :: 42 :: (d ++ [42, 42, 47]))] :=
  said_block _ _ fun b l => by
    rw [List.append_assoc, blk_digs b d _ hd]
    show blk b (42 :: 42 :: 47 :: l) = _
    rw [blk_byte b 42 _ (by decide) (pre_sd (by decide)), blk_end, show Uni.endsB ((42 : UInt8).toNat : Int) = false from by decide]
theorem said_turn : Said [47, 42, 10, 47, 42, 47] true [(2, [47, 42, 10, 47, 42, 47])] :=
  said_block [10, 47, 42, 47] true fun b l => by
    show blk b (10 :: 47 :: 42 :: 47 :: l) = _
    rw [blk_byte b 10 _ (by decide) (pre_hd (by decide)), blk_byte _ 47 _ (by decide) (pre_hd (by decide)), blk_end, show Uni.endsB ((10 : UInt8).toNat : Int) = true from by decide, show Uni.endsB ((47 : UInt8).toNat : Int) = false from by decide, Bool.or_false]

/-- What is written so far: the text, whether a line ends in it, its comments. -/
def Wro (k : Nat) (S : ByteArray) (e : Bool) (K : List Key) : Prop := ∃ Q, S.data.toList = 97 :: Q ∧ Q.length ≤ 7 * k ∧ K.length ≤ k ∧ Said Q e K
theorem Wro.start : Wro 0 ⟨#[97]⟩ false [] := ⟨[], rfl, by simp, by simp, said_nil⟩
theorem Wro.le {k : Nat} {S : ByteArray} {e : Bool} {K : List Key} (h : Wro k S e K) : S.size ≤ 7 * k + 1 ∧ K.length ≤ k := by
  obtain ⟨Q, h1, h2, h3, _⟩ := h
  refine ⟨?_, h3⟩
  rw [Lib.size_eq, h1, List.length_cons]; omega
theorem Wro.add {k : Nat} {S S' : ByteArray} {e f g : Bool} {K L : List Key} {Q : List UInt8} (h : Wro k S e K) (hq : Said Q f L) (hS : S'.data.toList = S.data.toList ++ Q) (hl : Q.length ≤ 7) (hL : L.length ≤ 1) (hg : g = (e || f)) : Wro (k + 1) S' g (K ++ L) := by
  obtain ⟨P, h1, h2, h3, h4⟩ := h
  subst hg
  exact ⟨P ++ Q, by rw [hS, h1]; rfl, by rw [List.length_append]; omega, by rw [List.length_append]; omega, said_app h4 hq⟩
/-- What Next answers behind it. -/
theorem wro_ans {k : Nat} {S : ByteArray} {e : Bool} {K : List Key} (h : Wro k S e K) : ∃ kk cs, answer (S ++ ⟨#[59]⟩) 1 1 = ⟨0, [], kk, [59], [], e, cs⟩ ∧ cs.map keyC = K := by
  obtain ⟨Q, h1, _, _, h4⟩ := h
  obtain ⟨cs, h5, h6⟩ := h4 false [] [59]
  have hl : (S ++ ⟨#[59]⟩ : ByteArray).data.toList = 97 :: (Q ++ [59]) := by simp [h1]
  have hz : 1 ≤ (S ++ ⟨#[59]⟩ : ByteArray).size := by rw [Lib.size_eq, hl, List.length_cons]; omega
  have hs : Str.sufL (S ++ ⟨#[59]⟩) 1 = Q ++ [59] := by unfold Str.sufL; rw [hl]; rfl
  have hsk : ∀ b cs, skip (false, b, cs) [59] = ⟨0, b, cs, [59]⟩ := fun b cs => loop_in _ (by
    obtain ⟨a1, _, _⟩ := ch_asc 59 [] (by decide)
    unfold skipS
    rw [a1, if_neg (by decide), if_neg (by decide), if_neg (by decide), if_pos (show opensP false [59] = 0 by decide)])
  have htok : tokenP 1 [59] = ((tokenP 1 [59]).1, 0, []) := by decide +kernel
  refine ⟨(tokenP 1 [59]).1, cs, ?_, h6⟩
  rw [answer, if_neg (by omega), show (1 : Int).toNat = 1 from rfl, hs, show goalB 1 (Q ++ [59]) = true from rfl, if_neg (by decide), nextP]
  have hgap : gapP 1 (decide ((1 : Int) = 0)) (Q ++ [59]) = ⟨0, e, cs, [59]⟩ := by
    rw [gapP, if_neg (by decide)]
    show skip (false, false, []) (Q ++ [59]) = _
    rw [h5, hsk, Bool.false_or, List.nil_append]
  rw [hgap]
  show ansP ⟨0, e, cs, [59]⟩ (tokenP 1 [59]) = _
  rw [htok]
  rfl
theorem row_cat (K : Box) : ∀ (cs : List Com) (j : Nat) (c : Com) (q : Nat) (v : Value), cs[j]? = some c → (comV K c)[q]? = some v → (rowV K cs)[4 * j + q]? = some v
  | [], j, c, q, v, h, _ => by simp at h
  | c0 :: cs, 0, c, q, v, h, hv => by
    obtain rfl : c0 = c := by simpa using h
    have hq : q < (comV K c0).length := (List.getElem?_eq_some_iff.1 hv).1
    show (comV K c0 ++ rowV K cs)[4 * 0 + q]? = _
    rw [List.getElem?_append_left (by omega), show 4 * 0 + q = q by omega, hv]
  | c0 :: cs, j + 1, c, q, v, h, hv => by
    have h1 := row_cat K cs j c q v (by simpa using h) hv
    show (comV K c0 ++ rowV K cs)[4 * (j + 1) + q]? = _
    have hl : (comV K c0).length = 4 := rfl
    rw [List.getElem?_append_right (by omega), hl, show 4 * (j + 1) + q - 4 = 4 * j + q by omega, h1]

/-- Rows of other kinds lie in other blocks. -/
theorem rows_apart {w : World} {B B' : Nat} {t t' : TypeId} {z z' : Nat} {v v' : Value} {n n' : Nat} {xs xs' : List Value} (h : w.ownsRow B t z v n xs) (h' : w.ownsRow B' t' z' v' n' xs') (hne : t ≠ t') : v.ownBlock = none ∨ v.ownBlock ≠ v'.ownBlock := by
  rcases h.2 with ⟨rfl, _⟩ | ⟨g, cap, cur, rfl, _, hg, _⟩
  · exact Or.inl rfl
  rcases h'.2 with ⟨rfl, _⟩ | ⟨g', cap', cur', rfl, _, hg', _⟩
  · exact Or.inr (by simp [Value.ownBlock])
  refine Or.inr fun e => ?_
  have e' : g = g' := by simpa [Value.ownBlock] using e
  subst e'
  rw [hg] at hg'
  injection hg' with e1
  injection e1 with _ e2 _
  exact hne e2
theorem owns_on {B : Nat} {e : TypeId} {k : Nat} {v : Value} {n : Nat} {xs : List Value} {w w' : World} (h : w.ownsRow B e k v n xs) (hb : Below w.heap.size w w') : w'.ownsRow B e k v n xs := by
  refine ⟨h.1, ?_⟩
  rcases h.2 with hn | ⟨g, cap, cur, rfl, hg, hgg, rest⟩
  · exact .inl hn
  · exact .inr ⟨g, cap, cur, rfl, hg, (hb.block g (Array.getElem?_eq_some_iff.1 hgg).1).trans hgg, rest⟩
theorem intInfo : (Tryd.prog.info? 3).map (fun i => (i.zero, i.size, i.bytes)) = some (some (.int .i64 0), 1, 8) := by kernel_rfl
theorem strInfo : (Tryd.prog.info? 9).map (fun i => (i.zero, i.size, i.bytes)) = some (some (.string ⟨#[]⟩), 1, 16) := by kernel_rfl
def kindsV (K : List Key) : List Value := K.map fun p => .int .i64 (p.1 : Nat)
def textsV (K : List Key) : List Value := K.map fun p => .string (Str.ofL p.2)
theorem picks_com {w : World} {a : Option Addr} {len cap : Nat} {zs : List Int} (h : (a = none ∧ len = 0 ∧ cap = 0 ∧ zs = []) ∨
    ∃ x, a = some x ∧ len ≤ cap ∧ cap ≤ maxLen ∧ zs.length = cap ∧ (∀ i, i < zs.length → w.cell? (x.add i) = some (.int .i64 (zs.getD i 0))) ∧ ∀ n ∈ zs, (Lit.int .i64 n).wf = true) :
    ∀ k, k < len → ∃ x z, a = some x ∧ w.cell? (x.add k) = some (.int .i64 z) ∧ x.block < w.heap.size := by
  intro k hk
  rcases h with ⟨_, h, _⟩ | ⟨x, ha, hl, _, hz, hc, _⟩
  · omega
  · have h1 := hc k (by omega)
    have h2 := World.block_lt_of_cell? w _ h1
    refine ⟨x, _, ha, h1, ?_⟩
    unfold Addr.add at h2
    split at h2 <;> exact h2


end Lex
end Go.Proofs.YtfnilkhccomemaaDoor
