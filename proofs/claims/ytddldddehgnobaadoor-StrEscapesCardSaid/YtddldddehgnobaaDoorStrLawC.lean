/-
  The walk of the law StrJoins.
-/
import Derived.Test.YtddldddehgnobaaDoorStrLawB
import Derived.BigFrame
import Derived.Laws.AppendOwnNone
namespace Go.Proofs.YtddldddehgnobaaDoor
namespace Str
open Go.RowKit

theorem follows_more (p rest m m' : List UInt8) (hne : rest ≠ []) (h : follows p (rest ++ m)) : follows p (rest ++ m') := by
  cases rest with
  | nil => exact absurd rfl hne
  | cons x rest => exact ⟨fun e => h.1 e, fun e => h.2 e⟩
theorem row_more (q : UInt8) (m' : List UInt8) (hd : digHead m' = false) : ∀ ps : List Piece, Row ps [q] → ((bytesP ps).getLast? = some 13 → m'.head? ≠ some 10) → Row ps m'
  | [], _, _ => trivial
  | [p], ⟨h1, _, _⟩, hr => ⟨h1, ⟨fun _ => hd, fun e => hr (by rw [bytesP_cons, e]; rfl)⟩, trivial⟩
  | p :: p2 :: ps, ⟨h1, h2, h3⟩, hr => by
    have hne : bytesP (p2 :: ps) ≠ [] := by
      rw [bytesP_cons]
      have := row_ne _ _ h3 p2 (List.mem_cons_self ..)
      intro e
      exact this (List.append_eq_nil_iff.1 e).1
    refine ⟨h1, follows_more _ _ _ _ hne h2, row_more q m' hd (p2 :: ps) h3 (fun e => hr ?_)⟩
    rw [bytesP_cons, List.getLast?_append, e]
    rfl
theorem row_app (m : List UInt8) : ∀ ps qs : List Piece, Row ps (bytesP qs ++ m) → Row qs m → Row (ps ++ qs) m
  | [], _, _, h => h
  | p :: ps, qs, ⟨h1, h2, h3⟩, h => ⟨h1, by show follows p.1 (bytesP (ps ++ qs) ++ m); rw [bytesP_app, List.append_assoc]; exact h2, row_app m ps qs h3 h⟩
/-- TWO LITERALS' PARTS IN ONE. -/
theorem lit_join (s t : List UInt8) (ps qs : List Piece) (h1 : (litL (39 :: (s ++ [39]))).2 = some ps) (h2 : (litL (39 :: (t ++ [39]))).2 = some qs)
    (hd : digHead t = false) (hr : s.getLast? = some 13 → t.head? ≠ some 10) : (litL (39 :: ((s ++ t) ++ [39]))).2 = some (ps ++ qs) := by
  obtain ⟨_, q1, hq1, e1, r1, f1⟩ := lit_inv _ _ h1
  obtain ⟨_, q2, hq2, e2, r2, f2⟩ := lit_inv _ _ h2
  injection e1 with e1 e1'
  injection e2 with e2 e2'
  subst e1
  subst e2
  have e1 := List.append_cancel_right e1'
  have e2 := List.append_cancel_right e2'
  subst e1
  subst e2
  have hd' : digHead (bytesP qs ++ [39]) = false := by
    cases hb : bytesP qs with
    | nil => rfl
    | cons x l => rw [hb] at hd; exact hd
  have hr' : (bytesP ps).getLast? = some 13 → (bytesP qs ++ [39]).head? ≠ some 10 := fun e => by
    have := hr e
    cases hb : bytesP qs with
    | nil => simp
    | cons x l => rw [hb] at this; simpa using this
  have hrow := row_app [39] ps qs (row_more 39 _ hd' ps r1 hr') r2
  have := lit_of 39 (Or.inl rfl) (ps ++ qs) hrow (fun p hp => by
    rcases List.mem_append.1 hp with h | h
    · exact f1 p h
    · exact f2 p h)
  rw [bytesP_app] at this
  rw [this]

/-- As wpList_append_own, where a guard says yes. -/
theorem wpList_append_want {P : Program} {w : World} {ops : Array Oper} {rest : List Oper} {o : Oper} {a : Act} {Q : Exit → Act → World → Prop} (hw : Region.wanted o (yielded ops a.tmps) = true) (s x : Operand) (t : TypeId)
    (ho : o.op = .call { callee := .builtin .append, args := #[s, x], argTypes := #[t, t] })
    (base : Nat) (e : TypeId) (i : TypeInfo) (z : Value) (size bytes : Nat) (ht : P.underlying t = some (.slice e)) (hi : P.info? e = some i) (hz : i.zero = some z)
    (hsize : i.size = size) (hby : i.bytes = bytes) (hzs : z.cells.size = size) (hsz : 0 < size)
    (v : Value) (n : Nat) (xs : List Value) (hs : a.eval s = v) (hown : w.ownsRow base e size v n xs)
    (ad : Addr) (m c : Nat) (news : List Value) (hx : a.eval x = .slice (some ad) m c) (hl : news.length = m * size) (hnews : ∀ j u, news[j]? = some u → w.cell? (ad.add j) = some u) (h1 : ∀ u ∈ news, u.oneCell' = true)
    (h63 : n + m ≤ maxLen) (hbytes : (n + m) * bytes ≤ 140737488355328) (hbase : base ≤ w.heap.size)
    (h : ∀ v' w', w'.ownsRow base e size v' (n + m) (xs ++ news) → w.grownBy w' v.ownBlock → (v' = .slice none 0 0 ↔ v = .slice none 0 0 ∧ m = 0) → wpList P ops Q rest (a.put o.dst v') w') : wpList P ops Q (o :: rest) a w :=
  BigFrame.wpList_want hw fun _ hK => wp_append_own w s x t ho base e i z size bytes ht hi hz hsize hby hzs hsz v n xs hs hown ad m c news hx hl hnews h1 h63 hbytes hbase fun v' w' h2 h3 h4 => hK _ _ (h v' w' h2 h3 h4)
theorem wpList_append_want_none {P : Program} {w : World} {ops : Array Oper} {rest : List Oper} {o : Oper} {a : Act} {Q : Exit → Act → World → Prop} (hw : Region.wanted o (yielded ops a.tmps) = true) (s x : Operand) (t : TypeId)
    (ho : o.op = .call { callee := .builtin .append, args := #[s, x], argTypes := #[t, t] })
    (base : Nat) (e : TypeId) (i : TypeInfo) (size : Nat) (ht : P.underlying t = some (.slice e)) (hi : P.info? e = some i)
    (v : Value) (n : Nat) (xs : List Value) (hs : a.eval s = v) (hown : w.ownsRow base e size v n xs) (hx : a.eval x = .slice none 0 0)
    (h : wpList P ops Q rest (a.put o.dst v) w) : wpList P ops Q (o :: rest) a w := by
  refine BigFrame.wpList_want hw fun K hK => ?_
  have hrun := run_append_owned_none (P := P) (w := w) base t o.type e i size ht hi v n xs hown
  unfold Oper.wp
  simp [execOp, ho, resolve, invoke, builtin, hs, hx, hrun, Result.andThen]
  exact hK _ _ h
theorem ints_news {w : World} {v : Value} {us : List Int} {g n c : Nat} (h : IntsAt w v us) (hv : v = .slice (some ⟨g, 0, none⟩) n c) : ∀ j u, (us.map (Value.int .i64))[j]? = some u → w.cell? ((⟨g, 0, none⟩ : Addr).add j) = some u := by
  rcases h with ⟨h1, _⟩ | ⟨g', c', cs, fr, h1, h2, h3⟩
  · rw [hv] at h1; cases h1
  · rw [hv] at h1
    injection h1 with h1 _ _
    injection h1 with h1
    injection h1 with h1 _ _
    subst h1
    intro j u hj
    rw [List.getElem?_map] at hj
    cases hz : us[j]? with
    | none => rw [hz] at hj; cases hj
    | some z =>
      rw [hz] at hj
      injection hj with hj
      subst hj
      have e : (⟨g, 0, none⟩ : Addr).add j = ⟨g, j, none⟩ := by simp [Addr.add]; exact fun h => h.symm
      rw [e, blk_cell h2]
      exact h3 j z hz

/-- In quotes. -/
def inq (s : ByteArray) : ByteArray := (⟨#[39]⟩ ++ s) ++ ⟨#[39]⟩
theorem inq_list (s : ByteArray) : (inq s).data.toList = 39 :: (s.data.toList ++ [39]) := by
  unfold inq
  simp
theorem inq_size (s : ByteArray) : (inq s).size = s.size + 2 := by
  rw [Lib.size_eq, inq_list]; simp

set_option maxHeartbeats 2000000 in
set_option maxRecDepth 20000 in
theorem joins_one (s t : ByteArray) (w : World) (hz : s.size + t.size ≤ 8388608) (hT : Tabs w) (hn : (litL (inq s).data.toList).2 = none) :
    Calls Tryd.prog 7 #[.string s, .string t] w fun e w' => e = .returned (.bool true) ∧ Below w.heap.size w w' := by
  have HC : Hid (∀ W, Tabs W → Calls Tryd.prog 14 #[.string ((⟨#[39]⟩ ++ s) ++ ⟨#[39]⟩)] W fun e w' => e = .returned (.tuple #[.slice none 0 0, .int .i64 300]) ∧ Below W.heap.size W w') := Lib.hid (fun W hT => (units_any (inq s) W (by rw [inq_size]; omega) hT).mono (by
    rintro e w' ⟨h | ⟨ps, v, h, _⟩, hb⟩
    · exact ⟨h.2, hb⟩
    · rw [hn] at h; cases h))
  have HD : Hid (∀ W, Tabs W → Calls Tryd.prog 14 #[.string ((⟨#[39]⟩ ++ t) ++ ⟨#[39]⟩)] W fun e w' => ∃ v n, e = .returned (.tuple #[v, .int .i64 n]) ∧ Below W.heap.size W w') := Lib.hid (fun W hT => (units_any (inq t) W (by rw [inq_size]; omega) hT).mono (by
    rintro e w' ⟨⟨_, rfl⟩ | ⟨ps, v, _, rfl, _⟩, hb⟩
    · exact ⟨_, _, rfl, hb⟩
    · exact ⟨_, _, rfl, hb⟩))
  have HT := Lib.hid hT
  have h2 : 2 ≤ w.heap.size := hT.1
  have hl1 : s.size + 2 ≤ maxLen := by unfold maxLen; omega
  have hl2 : t.size + 2 ≤ maxLen := by unfold maxLen; omega
  clear hT hn
  go_enter Tryd.func7, Tryd.ntmps7
  go_wp2_with fail
  refine (awake_any w HT.out).mono ?_
  rintro e w0 ⟨rfl, hb0⟩
  have HB0 := Lib.hid hb0
  clear hb0
  go_wp2_with fail
  refine (HC.out w0 (HT.out.below HB0.out h2)).mono ?_
  rintro e w1 ⟨rfl, hb1⟩
  have HB1 := Lib.hid (HB0.out.trans (hb1.mono HB0.out.size))
  clear hb1
  go_wp2_with fail
  refine (HD.out w1 (HT.out.below HB1.out h2)).mono ?_
  rintro e w2 ⟨v, n, rfl, hb2⟩
  have HB2 := Lib.hid (HB1.out.trans (hb2.mono HB1.out.size))
  clear hb2
  go_wp2_with fail
  refine (num_any 300 w2).mono ?_
  rintro e w3 ⟨rfl, rfl⟩
  go_wp2_with fail
  go_ret
  exact ⟨rfl, HB2.out⟩

--BEGIN GEN
set_option maxHeartbeats 2000000 in
set_option maxRecDepth 20000 in
theorem joins_two (s t : ByteArray) (w : World) (hz : s.size + t.size ≤ 8388608) (hT : Tabs w) (ps : List Piece) (hn : (litL (inq s).data.toList).2 = some ps) (hm : (litL (inq t).data.toList).2 = none) :
    Calls Tryd.prog 7 #[.string s, .string t] w fun e w' => e = .returned (.bool true) ∧ Below w.heap.size w w' := by
  have HC : Hid (∀ W, Tabs W → Calls Tryd.prog 14 #[.string ((⟨#[39]⟩ ++ s) ++ ⟨#[39]⟩)] W fun e w' => ∃ v, e = .returned (.tuple #[v, .int .i64 0]) ∧ w'.ownsRow W.heap.size 3 1 v (usL ps).length ((usL ps).map (Value.int .i64)) ∧ Below W.heap.size W w') := Lib.hid (fun W hT => units_some (inq s) W (by rw [inq_size]; omega) hT ps hn)
  have HD : Hid (∀ W, Tabs W → Calls Tryd.prog 14 #[.string ((⟨#[39]⟩ ++ t) ++ ⟨#[39]⟩)] W fun e w' => e = .returned (.tuple #[.slice none 0 0, .int .i64 300]) ∧ Below W.heap.size W w') := Lib.hid (fun W hT => (units_any (inq t) W (by rw [inq_size]; omega) hT).mono (by
    rintro e w' ⟨h | ⟨ps, v, h, _⟩, hb⟩
    · exact ⟨h.2, hb⟩
    · rw [hm] at h; cases h))
  have HT := Lib.hid hT
  have h2 : 2 ≤ w.heap.size := hT.1
  clear hT hn hm
  go_enter Tryd.func7, Tryd.ntmps7
  go_wp2_with fail
  refine (awake_any w HT.out).mono ?_
  rintro e w0 ⟨rfl, hb0⟩
  have HB0 := Lib.hid hb0
  clear hb0
  go_wp2_with fail
  refine (HC.out w0 (HT.out.below HB0.out h2)).mono ?_
  rintro e w1 ⟨va, rfl, hoa, hb1⟩
  have HB1 := Lib.hid (HB0.out.trans (hb1.mono HB0.out.size))
  have HA1 := Lib.hid hoa
  have HW01 : Hid (w0.heap.size ≤ w1.heap.size) := Lib.hid hb1.size
  clear hb1 hoa
  go_wp2_with fail
  refine (HD.out w1 (HT.out.below HB1.out h2)).mono ?_
  rintro e w2 ⟨rfl, hb2⟩
  have HB2 := Lib.hid (HB1.out.trans (hb2.mono HB1.out.size))
  clear hb2
  go_wp2_with fail
  refine (num_any 0 w2).mono ?_
  rintro e w3 ⟨rfl, rfl⟩
  go_wp2_with fail
  refine (num_any 300 w2).mono ?_
  rintro e w3 ⟨rfl, rfl⟩
  go_wp2_with fail
  go_ret
  exact ⟨rfl, HB2.out⟩

set_option maxHeartbeats 2000000 in
set_option maxRecDepth 20000 in
theorem joins_dig (s t : ByteArray) (w : World) (hz : s.size + t.size ≤ 8388608) (hT : Tabs w) (ps qs : List Piece) (hn : (litL (inq s).data.toList).2 = some ps) (hm : (litL (inq t).data.toList).2 = some qs) (ht : 0 < t.size) (x : UInt8) (hx : t[0]'ht = x) (hd : 48 ≤ x.toNat ∧ x.toNat ≤ 57) :
    Calls Tryd.prog 7 #[.string s, .string t] w fun e w' => e = .returned (.bool true) ∧ Below w.heap.size w w' := by
  obtain ⟨i0, hi, hz0, hz1, hz2⟩ := info_parts int_info
  have HC : Hid (∀ W, Tabs W → Calls Tryd.prog 14 #[.string ((⟨#[39]⟩ ++ s) ++ ⟨#[39]⟩)] W fun e w' => ∃ v, e = .returned (.tuple #[v, .int .i64 0]) ∧ w'.ownsRow W.heap.size 3 1 v (usL ps).length ((usL ps).map (Value.int .i64)) ∧ Below W.heap.size W w') := Lib.hid (fun W hT => units_some (inq s) W (by rw [inq_size]; omega) hT ps hn)
  have HD : Hid (∀ W, Tabs W → Calls Tryd.prog 14 #[.string ((⟨#[39]⟩ ++ t) ++ ⟨#[39]⟩)] W fun e w' => ∃ v, e = .returned (.tuple #[v, .int .i64 0]) ∧ w'.ownsRow W.heap.size 3 1 v (usL qs).length ((usL qs).map (Value.int .i64)) ∧ Below W.heap.size W w') := Lib.hid (fun W hT => units_some (inq t) W (by rw [inq_size]; omega) hT qs hm)
  have HT := Lib.hid hT
  have h2 : 2 ≤ w.heap.size := hT.1
  have HZ := Lib.hid hz
  clear hT hn hm
  have ht1 : (0 : Int) < (t.size : Int) := by omega
  obtain ⟨hd1, hd2⟩ : (48 : Int) ≤ (x.toNat : Int) ∧ (x.toNat : Int) ≤ 57 := by omega
  go_enter Tryd.func7, Tryd.ntmps7
  go_wp2_with fail
  refine (awake_any w HT.out).mono ?_
  rintro e w0 ⟨rfl, hb0⟩
  have HB0 := Lib.hid hb0
  clear hb0
  go_wp2_with fail
  refine (HC.out w0 (HT.out.below HB0.out h2)).mono ?_
  rintro e w1 ⟨va, rfl, hoa, hb1⟩
  have HB1 := Lib.hid (HB0.out.trans (hb1.mono HB0.out.size))
  have HA1 := Lib.hid hoa
  have HW01 : Hid (w0.heap.size ≤ w1.heap.size) := Lib.hid hb1.size
  clear hb1 hoa
  go_wp2_with fail
  refine (HD.out w1 (HT.out.below HB1.out h2)).mono ?_
  rintro e w2 ⟨vb, rfl, hob, hb2⟩
  have HW12 : Hid (w0.heap.size ≤ w2.heap.size) := Lib.hid (by have h1 := hb2.size; have h2 := HW01.out; omega)
  have HB2 := Lib.hid (HB1.out.trans (hb2.mono HB1.out.size))
  have HA2 := Lib.hid (own_below HA1.out hb2)
  have HN2 := Lib.hid hob
  have hab : ∀ g, vb.ownBlock = some g → va.ownBlock ≠ some g := fun g hg e => by
    have h1 := (hob.lt g hg).1
    have h2 := (HA1.out.lt g e).2
    omega
  have HAB := Lib.hid hab
  clear hb2 hob hab
  go_wp2_with fail
  refine (num_any 0 w2).mono ?_
  rintro e w3 ⟨rfl, rfl⟩
  go_wp2_with fail
  refine (num_any 0 w2).mono ?_
  rintro e w3 ⟨rfl, rfl⟩
  go_wp2_with fail
  go_ret
  exact ⟨rfl, HB2.out⟩

set_option maxHeartbeats 2000000 in
set_option maxRecDepth 20000 in
theorem joins_t0 (s t : ByteArray) (w : World) (hz : s.size + t.size ≤ 8388608) (hT : Tabs w) (ps qs : List Piece) (hn : (litL (inq s).data.toList).2 = some ps) (hm : (litL (inq t).data.toList).2 = some qs) (ht : t.size = 0) (hD : digHead t.data.toList = false) (hR : s.data.toList.getLast? = some 13 → t.data.toList.head? ≠ some 10) :
    Calls Tryd.prog 7 #[.string s, .string t] w fun e w' => e = .returned (.bool true) ∧ Below w.heap.size w w' := by
  obtain ⟨i0, hi, hz0, hz1, hz2⟩ := info_parts int_info
  have HC : Hid (∀ W, Tabs W → Calls Tryd.prog 14 #[.string ((⟨#[39]⟩ ++ s) ++ ⟨#[39]⟩)] W fun e w' => ∃ v, e = .returned (.tuple #[v, .int .i64 0]) ∧ w'.ownsRow W.heap.size 3 1 v (usL ps).length ((usL ps).map (Value.int .i64)) ∧ Below W.heap.size W w') := Lib.hid (fun W hT => units_some (inq s) W (by rw [inq_size]; omega) hT ps hn)
  have HD : Hid (∀ W, Tabs W → Calls Tryd.prog 14 #[.string ((⟨#[39]⟩ ++ t) ++ ⟨#[39]⟩)] W fun e w' => ∃ v, e = .returned (.tuple #[v, .int .i64 0]) ∧ w'.ownsRow W.heap.size 3 1 v (usL qs).length ((usL qs).map (Value.int .i64)) ∧ Below W.heap.size W w') := Lib.hid (fun W hT => units_some (inq t) W (by rw [inq_size]; omega) hT qs hm)
  have HE : Hid (∀ W, Tabs W → Calls Tryd.prog 14 #[.string (((⟨#[39]⟩ ++ s) ++ t) ++ ⟨#[39]⟩)] W fun e w' => ∃ v, e = .returned (.tuple #[v, .int .i64 0]) ∧ w'.ownsRow W.heap.size 3 1 v (usL ps ++ usL qs).length ((usL ps ++ usL qs).map (Value.int .i64)) ∧ Below W.heap.size W w') := Lib.hid (fun W hT => by
    have h1 : (((⟨#[39]⟩ ++ s) ++ t) ++ ⟨#[39]⟩ : ByteArray).data.toList = 39 :: ((s.data.toList ++ t.data.toList) ++ [39]) := by simp
    have h2 : (((⟨#[39]⟩ ++ s) ++ t) ++ ⟨#[39]⟩ : ByteArray).size ≤ 16777216 := by
      rw [Lib.size_eq, h1]
      have e1 := Lib.size_eq s
      have e2 := Lib.size_eq t
      simp only [List.length_cons, List.length_append, List.length_nil]
      omega
    have := units_some _ W h2 hT (ps ++ qs) (by rw [h1]; exact lit_join _ _ ps qs (by rw [← inq_list]; exact hn) (by rw [← inq_list]; exact hm) hD hR)
    rw [usL_app] at this
    exact this)
  have HLen : Hid ((usL ps).length + (usL qs).length ≤ 67108864) := Lib.hid (by
    have hl : ∀ (u : ByteArray) (rs : List Piece), (litL (inq u).data.toList).2 = some rs → (usL rs).length ≤ 2 * u.size := fun u rs h => by
      obtain ⟨_, q, _, hs, hr, _⟩ := lit_inv _ _ h
      have h1 := usL_len rs (row_ne _ _ hr)
      rw [inq_list] at hs
      have h2 : (39 :: (u.data.toList ++ [39])).length = (q :: (bytesP rs ++ [q])).length := by rw [hs]
      have h3 := Lib.size_eq u
      simp only [List.length_cons, List.length_append, List.length_nil] at h2
      omega
    have h1 := hl s ps hn
    have h2 := hl t qs hm
    omega)
  have HT := Lib.hid hT
  have h2 : 2 ≤ w.heap.size := hT.1
  have HZ := Lib.hid hz
  clear hT hn hm
  clear hD hR
  have ht1 : ¬ (0 : Int) < (t.size : Int) := by omega
  go_enter Tryd.func7, Tryd.ntmps7
  go_wp2_with fail
  refine (awake_any w HT.out).mono ?_
  rintro e w0 ⟨rfl, hb0⟩
  have HB0 := Lib.hid hb0
  clear hb0
  go_wp2_with fail
  refine (HC.out w0 (HT.out.below HB0.out h2)).mono ?_
  rintro e w1 ⟨va, rfl, hoa, hb1⟩
  have HB1 := Lib.hid (HB0.out.trans (hb1.mono HB0.out.size))
  have HA1 := Lib.hid hoa
  have HW01 : Hid (w0.heap.size ≤ w1.heap.size) := Lib.hid hb1.size
  clear hb1 hoa
  go_wp2_with fail
  refine (HD.out w1 (HT.out.below HB1.out h2)).mono ?_
  rintro e w2 ⟨vb, rfl, hob, hb2⟩
  have HW12 : Hid (w0.heap.size ≤ w2.heap.size) := Lib.hid (by have h1 := hb2.size; have h2 := HW01.out; omega)
  have HB2 := Lib.hid (HB1.out.trans (hb2.mono HB1.out.size))
  have HA2 := Lib.hid (own_below HA1.out hb2)
  have HN2 := Lib.hid hob
  have hab : ∀ g, vb.ownBlock = some g → va.ownBlock ≠ some g := fun g hg e => by
    have h1 := (hob.lt g hg).1
    have h2 := (HA1.out.lt g e).2
    omega
  have HAB := Lib.hid hab
  clear hb2 hob hab
  go_wp2_with fail
  refine (num_any 0 w2).mono ?_
  rintro e w3 ⟨rfl, rfl⟩
  go_wp2_with fail
  refine (num_any 0 w2).mono ?_
  rintro e w3 ⟨rfl, rfl⟩
  go_wp2_with fail
  all_goals
    refine (HE.out w2 (HT.out.below HB2.out h2)).mono ?_
    rintro e w3 ⟨vc, rfl, hoc, hb3⟩
    have HB3 := Lib.hid (HB2.out.trans (hb3.mono HB2.out.size))
    have HA3 := Lib.hid (own_below HA2.out hb3)
    have HN3 := Lib.hid (own_below HN2.out hb3)
    have HC3 := Lib.hid hoc
    have HAC : Hid (∀ g, vc.ownBlock = some g → va.ownBlock ≠ some g) := Lib.hid (fun g hg e => by
      have h1 := (hoc.lt g hg).1
      have h2 := (HA2.out.lt g e).2
      omega)
    have HBZ : Hid (w0.heap.size ≤ w3.heap.size) := Lib.hid (by have h1 := hb3.size; have h2 := HW12.out; omega)
    clear hb3 hoc
    rcases ints_of_own HN3.out with ⟨hv, hu⟩ | ⟨g, c, cs, fr, hv, hb, _⟩
    · subst hv
      have HU := Lib.hid hu
      clear hu
      go_wp2_with fail
      refine (num_any 0 w3).mono ?_
      rintro e w4 ⟨rfl, rfl⟩
      go_wp2_with (first
        | (at_builtin; refine wpList_append_want_none (by rfl) _ _ 30 rfl w0.heap.size 3 i0 1 Tryd.underlying30 hi _ _ _ rfl HA3.out rfl ?_))
      refine (same_any _ _ (usL ps) _ (by have h := ints_of_own HC3.out; rw [HU.out, List.append_nil] at h; exact h) (ints_of_own HA3.out) (by have := HLen.out; omega)).mono ?_
      rintro e w5 ⟨rfl, hb5⟩
      have HB5 := Lib.hid (HB3.out.trans (hb5.mono HB3.out.size))
      clear hb5
      go_wp2_with fail
      go_ret
      exact ⟨rfl, HB5.out⟩
    · subst hv
      have HNE := Lib.hid (ints_news (ints_of_own HN3.out) rfl)
      clear hb
      go_wp2_with fail
      refine (num_any 0 w3).mono ?_
      rintro e w4 ⟨rfl, rfl⟩
      go_wp2_with (first
        | (at_builtin; refine wpList_append_want (by rfl) _ _ 30 rfl w0.heap.size 3 i0 (.int .i64 0) 1 8 Tryd.underlying30 hi hz0 hz1 hz2 rfl (by decide) _ _ _ rfl HA3.out ⟨g, 0, none⟩ _ c ((usL qs).map (Value.int .i64)) rfl (by rw [List.length_map, Nat.mul_one]) HNE.out (fun u hu => by obtain ⟨z, _, rfl⟩ := List.mem_map.1 hu; rfl) (by have := HLen.out; unfold maxLen; omega) (by have := HLen.out; omega) (by have h1 := HB3.out.size; have h2 := HBZ.out; omega) ?_; intro v' w4 hown' hgrow' hnil'; have HO := Lib.hid hown'; have HG := Lib.hid hgrow'; clear hown' hgrow' hnil'))
      have HB4 := Lib.hid (HB3.out.grown HG.out HB3.out.size (fun k hk => Nat.le_trans HB0.out.size (HA3.out.lt k hk).1))
      refine (same_any _ _ (usL ps ++ usL qs) _ (ints_other (ints_of_own HC3.out) HA3.out HG.out (fun g h => Or.inr (HAC.out g h))) (ints_of_own (by have h := HO.out; rw [← List.map_append, ← List.length_append] at h; exact h)) (by have := HLen.out; rw [List.length_append]; omega)).mono ?_
      rintro e w5 ⟨rfl, hb5⟩
      have HB5 := Lib.hid (HB4.out.trans (hb5.mono HB4.out.size))
      clear hb5
      go_wp2_with fail
      go_ret
      exact ⟨rfl, HB5.out⟩

set_option maxHeartbeats 2000000 in
set_option maxRecDepth 20000 in
theorem joins_hi (s t : ByteArray) (w : World) (hz : s.size + t.size ≤ 8388608) (hT : Tabs w) (ps qs : List Piece) (hn : (litL (inq s).data.toList).2 = some ps) (hm : (litL (inq t).data.toList).2 = some qs) (ht : 0 < t.size) (x : UInt8) (hx : t[0]'ht = x) (hd : 57 < x.toNat) (hD : digHead t.data.toList = false) (hR : s.data.toList.getLast? = some 13 → t.data.toList.head? ≠ some 10) :
    Calls Tryd.prog 7 #[.string s, .string t] w fun e w' => e = .returned (.bool true) ∧ Below w.heap.size w w' := by
  obtain ⟨i0, hi, hz0, hz1, hz2⟩ := info_parts int_info
  have HC : Hid (∀ W, Tabs W → Calls Tryd.prog 14 #[.string ((⟨#[39]⟩ ++ s) ++ ⟨#[39]⟩)] W fun e w' => ∃ v, e = .returned (.tuple #[v, .int .i64 0]) ∧ w'.ownsRow W.heap.size 3 1 v (usL ps).length ((usL ps).map (Value.int .i64)) ∧ Below W.heap.size W w') := Lib.hid (fun W hT => units_some (inq s) W (by rw [inq_size]; omega) hT ps hn)
  have HD : Hid (∀ W, Tabs W → Calls Tryd.prog 14 #[.string ((⟨#[39]⟩ ++ t) ++ ⟨#[39]⟩)] W fun e w' => ∃ v, e = .returned (.tuple #[v, .int .i64 0]) ∧ w'.ownsRow W.heap.size 3 1 v (usL qs).length ((usL qs).map (Value.int .i64)) ∧ Below W.heap.size W w') := Lib.hid (fun W hT => units_some (inq t) W (by rw [inq_size]; omega) hT qs hm)
  have HE : Hid (∀ W, Tabs W → Calls Tryd.prog 14 #[.string (((⟨#[39]⟩ ++ s) ++ t) ++ ⟨#[39]⟩)] W fun e w' => ∃ v, e = .returned (.tuple #[v, .int .i64 0]) ∧ w'.ownsRow W.heap.size 3 1 v (usL ps ++ usL qs).length ((usL ps ++ usL qs).map (Value.int .i64)) ∧ Below W.heap.size W w') := Lib.hid (fun W hT => by
    have h1 : (((⟨#[39]⟩ ++ s) ++ t) ++ ⟨#[39]⟩ : ByteArray).data.toList = 39 :: ((s.data.toList ++ t.data.toList) ++ [39]) := by simp
    have h2 : (((⟨#[39]⟩ ++ s) ++ t) ++ ⟨#[39]⟩ : ByteArray).size ≤ 16777216 := by
      rw [Lib.size_eq, h1]
      have e1 := Lib.size_eq s
      have e2 := Lib.size_eq t
      simp only [List.length_cons, List.length_append, List.length_nil]
      omega
    have := units_some _ W h2 hT (ps ++ qs) (by rw [h1]; exact lit_join _ _ ps qs (by rw [← inq_list]; exact hn) (by rw [← inq_list]; exact hm) hD hR)
    rw [usL_app] at this
    exact this)
  have HLen : Hid ((usL ps).length + (usL qs).length ≤ 67108864) := Lib.hid (by
    have hl : ∀ (u : ByteArray) (rs : List Piece), (litL (inq u).data.toList).2 = some rs → (usL rs).length ≤ 2 * u.size := fun u rs h => by
      obtain ⟨_, q, _, hs, hr, _⟩ := lit_inv _ _ h
      have h1 := usL_len rs (row_ne _ _ hr)
      rw [inq_list] at hs
      have h2 : (39 :: (u.data.toList ++ [39])).length = (q :: (bytesP rs ++ [q])).length := by rw [hs]
      have h3 := Lib.size_eq u
      simp only [List.length_cons, List.length_append, List.length_nil] at h2
      omega
    have h1 := hl s ps hn
    have h2 := hl t qs hm
    omega)
  have HT := Lib.hid hT
  have h2 : 2 ≤ w.heap.size := hT.1
  have HZ := Lib.hid hz
  clear hT hn hm
  clear hD hR
  have ht1 : (0 : Int) < (t.size : Int) := by omega
  have hd1 : (48 : Int) ≤ (x.toNat : Int) := by omega
  have hd2 : ¬ (x.toNat : Int) ≤ 57 := by omega
  have hd3 : ¬ (x.toNat : Int) = 10 := by omega
  go_enter Tryd.func7, Tryd.ntmps7
  go_wp2_with fail
  refine (awake_any w HT.out).mono ?_
  rintro e w0 ⟨rfl, hb0⟩
  have HB0 := Lib.hid hb0
  clear hb0
  go_wp2_with fail
  refine (HC.out w0 (HT.out.below HB0.out h2)).mono ?_
  rintro e w1 ⟨va, rfl, hoa, hb1⟩
  have HB1 := Lib.hid (HB0.out.trans (hb1.mono HB0.out.size))
  have HA1 := Lib.hid hoa
  have HW01 : Hid (w0.heap.size ≤ w1.heap.size) := Lib.hid hb1.size
  clear hb1 hoa
  go_wp2_with fail
  refine (HD.out w1 (HT.out.below HB1.out h2)).mono ?_
  rintro e w2 ⟨vb, rfl, hob, hb2⟩
  have HW12 : Hid (w0.heap.size ≤ w2.heap.size) := Lib.hid (by have h1 := hb2.size; have h2 := HW01.out; omega)
  have HB2 := Lib.hid (HB1.out.trans (hb2.mono HB1.out.size))
  have HA2 := Lib.hid (own_below HA1.out hb2)
  have HN2 := Lib.hid hob
  have hab : ∀ g, vb.ownBlock = some g → va.ownBlock ≠ some g := fun g hg e => by
    have h1 := (hob.lt g hg).1
    have h2 := (HA1.out.lt g e).2
    omega
  have HAB := Lib.hid hab
  clear hb2 hob hab
  go_wp2_with fail
  refine (num_any 0 w2).mono ?_
  rintro e w3 ⟨rfl, rfl⟩
  go_wp2_with fail
  refine (num_any 0 w2).mono ?_
  rintro e w3 ⟨rfl, rfl⟩
  go_wp2_with fail
  all_goals try (exfalso; rename_i h; simp only [beq_iff_eq] at h; omega)
  all_goals
    refine (HE.out w2 (HT.out.below HB2.out h2)).mono ?_
    rintro e w3 ⟨vc, rfl, hoc, hb3⟩
    have HB3 := Lib.hid (HB2.out.trans (hb3.mono HB2.out.size))
    have HA3 := Lib.hid (own_below HA2.out hb3)
    have HN3 := Lib.hid (own_below HN2.out hb3)
    have HC3 := Lib.hid hoc
    have HAC : Hid (∀ g, vc.ownBlock = some g → va.ownBlock ≠ some g) := Lib.hid (fun g hg e => by
      have h1 := (hoc.lt g hg).1
      have h2 := (HA2.out.lt g e).2
      omega)
    have HBZ : Hid (w0.heap.size ≤ w3.heap.size) := Lib.hid (by have h1 := hb3.size; have h2 := HW12.out; omega)
    clear hb3 hoc
    rcases ints_of_own HN3.out with ⟨hv, hu⟩ | ⟨g, c, cs, fr, hv, hb, _⟩
    · subst hv
      have HU := Lib.hid hu
      clear hu
      go_wp2_with fail
      refine (num_any 0 w3).mono ?_
      rintro e w4 ⟨rfl, rfl⟩
      go_wp2_with (first
        | (at_builtin; refine wpList_append_want_none (by rfl) _ _ 30 rfl w0.heap.size 3 i0 1 Tryd.underlying30 hi _ _ _ rfl HA3.out rfl ?_))
      refine (same_any _ _ (usL ps) _ (by have h := ints_of_own HC3.out; rw [HU.out, List.append_nil] at h; exact h) (ints_of_own HA3.out) (by have := HLen.out; omega)).mono ?_
      rintro e w5 ⟨rfl, hb5⟩
      have HB5 := Lib.hid (HB3.out.trans (hb5.mono HB3.out.size))
      clear hb5
      go_wp2_with fail
      go_ret
      exact ⟨rfl, HB5.out⟩
    · subst hv
      have HNE := Lib.hid (ints_news (ints_of_own HN3.out) rfl)
      clear hb
      go_wp2_with fail
      refine (num_any 0 w3).mono ?_
      rintro e w4 ⟨rfl, rfl⟩
      go_wp2_with (first
        | (at_builtin; refine wpList_append_want (by rfl) _ _ 30 rfl w0.heap.size 3 i0 (.int .i64 0) 1 8 Tryd.underlying30 hi hz0 hz1 hz2 rfl (by decide) _ _ _ rfl HA3.out ⟨g, 0, none⟩ _ c ((usL qs).map (Value.int .i64)) rfl (by rw [List.length_map, Nat.mul_one]) HNE.out (fun u hu => by obtain ⟨z, _, rfl⟩ := List.mem_map.1 hu; rfl) (by have := HLen.out; unfold maxLen; omega) (by have := HLen.out; omega) (by have h1 := HB3.out.size; have h2 := HBZ.out; omega) ?_; intro v' w4 hown' hgrow' hnil'; have HO := Lib.hid hown'; have HG := Lib.hid hgrow'; clear hown' hgrow' hnil'))
      have HB4 := Lib.hid (HB3.out.grown HG.out HB3.out.size (fun k hk => Nat.le_trans HB0.out.size (HA3.out.lt k hk).1))
      refine (same_any _ _ (usL ps ++ usL qs) _ (ints_other (ints_of_own HC3.out) HA3.out HG.out (fun g h => Or.inr (HAC.out g h))) (ints_of_own (by have h := HO.out; rw [← List.map_append, ← List.length_append] at h; exact h)) (by have := HLen.out; rw [List.length_append]; omega)).mono ?_
      rintro e w5 ⟨rfl, hb5⟩
      have HB5 := Lib.hid (HB4.out.trans (hb5.mono HB4.out.size))
      clear hb5
      go_wp2_with fail
      go_ret
      exact ⟨rfl, HB5.out⟩

set_option maxHeartbeats 2000000 in
set_option maxRecDepth 20000 in
theorem joins_lo (s t : ByteArray) (w : World) (hz : s.size + t.size ≤ 8388608) (hT : Tabs w) (ps qs : List Piece) (hn : (litL (inq s).data.toList).2 = some ps) (hm : (litL (inq t).data.toList).2 = some qs) (ht : 0 < t.size) (x : UInt8) (hx : t[0]'ht = x) (hd : x.toNat < 48) (hd0 : x.toNat ≠ 10) (hD : digHead t.data.toList = false) (hR : s.data.toList.getLast? = some 13 → t.data.toList.head? ≠ some 10) :
    Calls Tryd.prog 7 #[.string s, .string t] w fun e w' => e = .returned (.bool true) ∧ Below w.heap.size w w' := by
  obtain ⟨i0, hi, hz0, hz1, hz2⟩ := info_parts int_info
  have HC : Hid (∀ W, Tabs W → Calls Tryd.prog 14 #[.string ((⟨#[39]⟩ ++ s) ++ ⟨#[39]⟩)] W fun e w' => ∃ v, e = .returned (.tuple #[v, .int .i64 0]) ∧ w'.ownsRow W.heap.size 3 1 v (usL ps).length ((usL ps).map (Value.int .i64)) ∧ Below W.heap.size W w') := Lib.hid (fun W hT => units_some (inq s) W (by rw [inq_size]; omega) hT ps hn)
  have HD : Hid (∀ W, Tabs W → Calls Tryd.prog 14 #[.string ((⟨#[39]⟩ ++ t) ++ ⟨#[39]⟩)] W fun e w' => ∃ v, e = .returned (.tuple #[v, .int .i64 0]) ∧ w'.ownsRow W.heap.size 3 1 v (usL qs).length ((usL qs).map (Value.int .i64)) ∧ Below W.heap.size W w') := Lib.hid (fun W hT => units_some (inq t) W (by rw [inq_size]; omega) hT qs hm)
  have HE : Hid (∀ W, Tabs W → Calls Tryd.prog 14 #[.string (((⟨#[39]⟩ ++ s) ++ t) ++ ⟨#[39]⟩)] W fun e w' => ∃ v, e = .returned (.tuple #[v, .int .i64 0]) ∧ w'.ownsRow W.heap.size 3 1 v (usL ps ++ usL qs).length ((usL ps ++ usL qs).map (Value.int .i64)) ∧ Below W.heap.size W w') := Lib.hid (fun W hT => by
    have h1 : (((⟨#[39]⟩ ++ s) ++ t) ++ ⟨#[39]⟩ : ByteArray).data.toList = 39 :: ((s.data.toList ++ t.data.toList) ++ [39]) := by simp
    have h2 : (((⟨#[39]⟩ ++ s) ++ t) ++ ⟨#[39]⟩ : ByteArray).size ≤ 16777216 := by
      rw [Lib.size_eq, h1]
      have e1 := Lib.size_eq s
      have e2 := Lib.size_eq t
      simp only [List.length_cons, List.length_append, List.length_nil]
      omega
    have := units_some _ W h2 hT (ps ++ qs) (by rw [h1]; exact lit_join _ _ ps qs (by rw [← inq_list]; exact hn) (by rw [← inq_list]; exact hm) hD hR)
    rw [usL_app] at this
    exact this)
  have HLen : Hid ((usL ps).length + (usL qs).length ≤ 67108864) := Lib.hid (by
    have hl : ∀ (u : ByteArray) (rs : List Piece), (litL (inq u).data.toList).2 = some rs → (usL rs).length ≤ 2 * u.size := fun u rs h => by
      obtain ⟨_, q, _, hs, hr, _⟩ := lit_inv _ _ h
      have h1 := usL_len rs (row_ne _ _ hr)
      rw [inq_list] at hs
      have h2 : (39 :: (u.data.toList ++ [39])).length = (q :: (bytesP rs ++ [q])).length := by rw [hs]
      have h3 := Lib.size_eq u
      simp only [List.length_cons, List.length_append, List.length_nil] at h2
      omega
    have h1 := hl s ps hn
    have h2 := hl t qs hm
    omega)
  have HT := Lib.hid hT
  have h2 : 2 ≤ w.heap.size := hT.1
  have HZ := Lib.hid hz
  clear hT hn hm
  clear hD hR
  have ht1 : (0 : Int) < (t.size : Int) := by omega
  have hd1 : ¬ (48 : Int) ≤ (x.toNat : Int) := by omega
  have hd3 : ¬ (x.toNat : Int) = 10 := by omega
  go_enter Tryd.func7, Tryd.ntmps7
  go_wp2_with fail
  refine (awake_any w HT.out).mono ?_
  rintro e w0 ⟨rfl, hb0⟩
  have HB0 := Lib.hid hb0
  clear hb0
  go_wp2_with fail
  refine (HC.out w0 (HT.out.below HB0.out h2)).mono ?_
  rintro e w1 ⟨va, rfl, hoa, hb1⟩
  have HB1 := Lib.hid (HB0.out.trans (hb1.mono HB0.out.size))
  have HA1 := Lib.hid hoa
  have HW01 : Hid (w0.heap.size ≤ w1.heap.size) := Lib.hid hb1.size
  clear hb1 hoa
  go_wp2_with fail
  refine (HD.out w1 (HT.out.below HB1.out h2)).mono ?_
  rintro e w2 ⟨vb, rfl, hob, hb2⟩
  have HW12 : Hid (w0.heap.size ≤ w2.heap.size) := Lib.hid (by have h1 := hb2.size; have h2 := HW01.out; omega)
  have HB2 := Lib.hid (HB1.out.trans (hb2.mono HB1.out.size))
  have HA2 := Lib.hid (own_below HA1.out hb2)
  have HN2 := Lib.hid hob
  have hab : ∀ g, vb.ownBlock = some g → va.ownBlock ≠ some g := fun g hg e => by
    have h1 := (hob.lt g hg).1
    have h2 := (HA1.out.lt g e).2
    omega
  have HAB := Lib.hid hab
  clear hb2 hob hab
  go_wp2_with fail
  refine (num_any 0 w2).mono ?_
  rintro e w3 ⟨rfl, rfl⟩
  go_wp2_with fail
  refine (num_any 0 w2).mono ?_
  rintro e w3 ⟨rfl, rfl⟩
  go_wp2_with fail
  all_goals
    refine (HE.out w2 (HT.out.below HB2.out h2)).mono ?_
    rintro e w3 ⟨vc, rfl, hoc, hb3⟩
    have HB3 := Lib.hid (HB2.out.trans (hb3.mono HB2.out.size))
    have HA3 := Lib.hid (own_below HA2.out hb3)
    have HN3 := Lib.hid (own_below HN2.out hb3)
    have HC3 := Lib.hid hoc
    have HAC : Hid (∀ g, vc.ownBlock = some g → va.ownBlock ≠ some g) := Lib.hid (fun g hg e => by
      have h1 := (hoc.lt g hg).1
      have h2 := (HA2.out.lt g e).2
      omega)
    have HBZ : Hid (w0.heap.size ≤ w3.heap.size) := Lib.hid (by have h1 := hb3.size; have h2 := HW12.out; omega)
    clear hb3 hoc
    rcases ints_of_own HN3.out with ⟨hv, hu⟩ | ⟨g, c, cs, fr, hv, hb, _⟩
    · subst hv
      have HU := Lib.hid hu
      clear hu
      go_wp2_with fail
      refine (num_any 0 w3).mono ?_
      rintro e w4 ⟨rfl, rfl⟩
      go_wp2_with (first
        | (at_builtin; refine wpList_append_want_none (by rfl) _ _ 30 rfl w0.heap.size 3 i0 1 Tryd.underlying30 hi _ _ _ rfl HA3.out rfl ?_))
      refine (same_any _ _ (usL ps) _ (by have h := ints_of_own HC3.out; rw [HU.out, List.append_nil] at h; exact h) (ints_of_own HA3.out) (by have := HLen.out; omega)).mono ?_
      rintro e w5 ⟨rfl, hb5⟩
      have HB5 := Lib.hid (HB3.out.trans (hb5.mono HB3.out.size))
      clear hb5
      go_wp2_with fail
      go_ret
      exact ⟨rfl, HB5.out⟩
    · subst hv
      have HNE := Lib.hid (ints_news (ints_of_own HN3.out) rfl)
      clear hb
      go_wp2_with fail
      refine (num_any 0 w3).mono ?_
      rintro e w4 ⟨rfl, rfl⟩
      go_wp2_with (first
        | (at_builtin; refine wpList_append_want (by rfl) _ _ 30 rfl w0.heap.size 3 i0 (.int .i64 0) 1 8 Tryd.underlying30 hi hz0 hz1 hz2 rfl (by decide) _ _ _ rfl HA3.out ⟨g, 0, none⟩ _ c ((usL qs).map (Value.int .i64)) rfl (by rw [List.length_map, Nat.mul_one]) HNE.out (fun u hu => by obtain ⟨z, _, rfl⟩ := List.mem_map.1 hu; rfl) (by have := HLen.out; unfold maxLen; omega) (by have := HLen.out; omega) (by have h1 := HB3.out.size; have h2 := HBZ.out; omega) ?_; intro v' w4 hown' hgrow' hnil'; have HO := Lib.hid hown'; have HG := Lib.hid hgrow'; clear hown' hgrow' hnil'))
      have HB4 := Lib.hid (HB3.out.grown HG.out HB3.out.size (fun k hk => Nat.le_trans HB0.out.size (HA3.out.lt k hk).1))
      refine (same_any _ _ (usL ps ++ usL qs) _ (ints_other (ints_of_own HC3.out) HA3.out HG.out (fun g h => Or.inr (HAC.out g h))) (ints_of_own (by have h := HO.out; rw [← List.map_append, ← List.length_append] at h; exact h)) (by have := HLen.out; rw [List.length_append]; omega)).mono ?_
      rintro e w5 ⟨rfl, hb5⟩
      have HB5 := Lib.hid (HB4.out.trans (hb5.mono HB4.out.size))
      clear hb5
      go_wp2_with fail
      go_ret
      exact ⟨rfl, HB5.out⟩

set_option maxHeartbeats 2000000 in
set_option maxRecDepth 20000 in
theorem joins_ten0 (s t : ByteArray) (w : World) (hz : s.size + t.size ≤ 8388608) (hT : Tabs w) (ps qs : List Piece) (hn : (litL (inq s).data.toList).2 = some ps) (hm : (litL (inq t).data.toList).2 = some qs) (ht : 0 < t.size) (x : UInt8) (hx : t[0]'ht = x) (hd : x.toNat = 10) (hs : s.size = 0) (hD : digHead t.data.toList = false) (hR : s.data.toList.getLast? = some 13 → t.data.toList.head? ≠ some 10) :
    Calls Tryd.prog 7 #[.string s, .string t] w fun e w' => e = .returned (.bool true) ∧ Below w.heap.size w w' := by
  obtain ⟨i0, hi, hz0, hz1, hz2⟩ := info_parts int_info
  have HC : Hid (∀ W, Tabs W → Calls Tryd.prog 14 #[.string ((⟨#[39]⟩ ++ s) ++ ⟨#[39]⟩)] W fun e w' => ∃ v, e = .returned (.tuple #[v, .int .i64 0]) ∧ w'.ownsRow W.heap.size 3 1 v (usL ps).length ((usL ps).map (Value.int .i64)) ∧ Below W.heap.size W w') := Lib.hid (fun W hT => units_some (inq s) W (by rw [inq_size]; omega) hT ps hn)
  have HD : Hid (∀ W, Tabs W → Calls Tryd.prog 14 #[.string ((⟨#[39]⟩ ++ t) ++ ⟨#[39]⟩)] W fun e w' => ∃ v, e = .returned (.tuple #[v, .int .i64 0]) ∧ w'.ownsRow W.heap.size 3 1 v (usL qs).length ((usL qs).map (Value.int .i64)) ∧ Below W.heap.size W w') := Lib.hid (fun W hT => units_some (inq t) W (by rw [inq_size]; omega) hT qs hm)
  have HE : Hid (∀ W, Tabs W → Calls Tryd.prog 14 #[.string (((⟨#[39]⟩ ++ s) ++ t) ++ ⟨#[39]⟩)] W fun e w' => ∃ v, e = .returned (.tuple #[v, .int .i64 0]) ∧ w'.ownsRow W.heap.size 3 1 v (usL ps ++ usL qs).length ((usL ps ++ usL qs).map (Value.int .i64)) ∧ Below W.heap.size W w') := Lib.hid (fun W hT => by
    have h1 : (((⟨#[39]⟩ ++ s) ++ t) ++ ⟨#[39]⟩ : ByteArray).data.toList = 39 :: ((s.data.toList ++ t.data.toList) ++ [39]) := by simp
    have h2 : (((⟨#[39]⟩ ++ s) ++ t) ++ ⟨#[39]⟩ : ByteArray).size ≤ 16777216 := by
      rw [Lib.size_eq, h1]
      have e1 := Lib.size_eq s
      have e2 := Lib.size_eq t
      simp only [List.length_cons, List.length_append, List.length_nil]
      omega
    have := units_some _ W h2 hT (ps ++ qs) (by rw [h1]; exact lit_join _ _ ps qs (by rw [← inq_list]; exact hn) (by rw [← inq_list]; exact hm) hD hR)
    rw [usL_app] at this
    exact this)
  have HLen : Hid ((usL ps).length + (usL qs).length ≤ 67108864) := Lib.hid (by
    have hl : ∀ (u : ByteArray) (rs : List Piece), (litL (inq u).data.toList).2 = some rs → (usL rs).length ≤ 2 * u.size := fun u rs h => by
      obtain ⟨_, q, _, hs, hr, _⟩ := lit_inv _ _ h
      have h1 := usL_len rs (row_ne _ _ hr)
      rw [inq_list] at hs
      have h2 : (39 :: (u.data.toList ++ [39])).length = (q :: (bytesP rs ++ [q])).length := by rw [hs]
      have h3 := Lib.size_eq u
      simp only [List.length_cons, List.length_append, List.length_nil] at h2
      omega
    have h1 := hl s ps hn
    have h2 := hl t qs hm
    omega)
  have HT := Lib.hid hT
  have h2 : 2 ≤ w.heap.size := hT.1
  have HZ := Lib.hid hz
  clear hT hn hm
  clear hD hR
  have ht1 : (0 : Int) < (t.size : Int) := by omega
  have hd1 : ¬ (48 : Int) ≤ (x.toNat : Int) := by omega
  have hd3 : (x.toNat : Int) = 10 := by omega
  have hs1 : ¬ (0 : Int) < (s.size : Int) := by omega
  go_enter Tryd.func7, Tryd.ntmps7
  go_wp2_with fail
  refine (awake_any w HT.out).mono ?_
  rintro e w0 ⟨rfl, hb0⟩
  have HB0 := Lib.hid hb0
  clear hb0
  go_wp2_with fail
  refine (HC.out w0 (HT.out.below HB0.out h2)).mono ?_
  rintro e w1 ⟨va, rfl, hoa, hb1⟩
  have HB1 := Lib.hid (HB0.out.trans (hb1.mono HB0.out.size))
  have HA1 := Lib.hid hoa
  have HW01 : Hid (w0.heap.size ≤ w1.heap.size) := Lib.hid hb1.size
  clear hb1 hoa
  go_wp2_with fail
  refine (HD.out w1 (HT.out.below HB1.out h2)).mono ?_
  rintro e w2 ⟨vb, rfl, hob, hb2⟩
  have HW12 : Hid (w0.heap.size ≤ w2.heap.size) := Lib.hid (by have h1 := hb2.size; have h2 := HW01.out; omega)
  have HB2 := Lib.hid (HB1.out.trans (hb2.mono HB1.out.size))
  have HA2 := Lib.hid (own_below HA1.out hb2)
  have HN2 := Lib.hid hob
  have hab : ∀ g, vb.ownBlock = some g → va.ownBlock ≠ some g := fun g hg e => by
    have h1 := (hob.lt g hg).1
    have h2 := (HA1.out.lt g e).2
    omega
  have HAB := Lib.hid hab
  clear hb2 hob hab
  go_wp2_with fail
  refine (num_any 0 w2).mono ?_
  rintro e w3 ⟨rfl, rfl⟩
  go_wp2_with fail
  refine (num_any 0 w2).mono ?_
  rintro e w3 ⟨rfl, rfl⟩
  go_wp2_with fail
  all_goals
    refine (HE.out w2 (HT.out.below HB2.out h2)).mono ?_
    rintro e w3 ⟨vc, rfl, hoc, hb3⟩
    have HB3 := Lib.hid (HB2.out.trans (hb3.mono HB2.out.size))
    have HA3 := Lib.hid (own_below HA2.out hb3)
    have HN3 := Lib.hid (own_below HN2.out hb3)
    have HC3 := Lib.hid hoc
    have HAC : Hid (∀ g, vc.ownBlock = some g → va.ownBlock ≠ some g) := Lib.hid (fun g hg e => by
      have h1 := (hoc.lt g hg).1
      have h2 := (HA2.out.lt g e).2
      omega)
    have HBZ : Hid (w0.heap.size ≤ w3.heap.size) := Lib.hid (by have h1 := hb3.size; have h2 := HW12.out; omega)
    clear hb3 hoc
    rcases ints_of_own HN3.out with ⟨hv, hu⟩ | ⟨g, c, cs, fr, hv, hb, _⟩
    · subst hv
      have HU := Lib.hid hu
      clear hu
      go_wp2_with fail
      refine (num_any 0 w3).mono ?_
      rintro e w4 ⟨rfl, rfl⟩
      go_wp2_with (first
        | (at_builtin; refine wpList_append_want_none (by rfl) _ _ 30 rfl w0.heap.size 3 i0 1 Tryd.underlying30 hi _ _ _ rfl HA3.out rfl ?_))
      refine (same_any _ _ (usL ps) _ (by have h := ints_of_own HC3.out; rw [HU.out, List.append_nil] at h; exact h) (ints_of_own HA3.out) (by have := HLen.out; omega)).mono ?_
      rintro e w5 ⟨rfl, hb5⟩
      have HB5 := Lib.hid (HB3.out.trans (hb5.mono HB3.out.size))
      clear hb5
      go_wp2_with fail
      go_ret
      exact ⟨rfl, HB5.out⟩
    · subst hv
      have HNE := Lib.hid (ints_news (ints_of_own HN3.out) rfl)
      clear hb
      go_wp2_with fail
      refine (num_any 0 w3).mono ?_
      rintro e w4 ⟨rfl, rfl⟩
      go_wp2_with (first
        | (at_builtin; refine wpList_append_want (by rfl) _ _ 30 rfl w0.heap.size 3 i0 (.int .i64 0) 1 8 Tryd.underlying30 hi hz0 hz1 hz2 rfl (by decide) _ _ _ rfl HA3.out ⟨g, 0, none⟩ _ c ((usL qs).map (Value.int .i64)) rfl (by rw [List.length_map, Nat.mul_one]) HNE.out (fun u hu => by obtain ⟨z, _, rfl⟩ := List.mem_map.1 hu; rfl) (by have := HLen.out; unfold maxLen; omega) (by have := HLen.out; omega) (by have h1 := HB3.out.size; have h2 := HBZ.out; omega) ?_; intro v' w4 hown' hgrow' hnil'; have HO := Lib.hid hown'; have HG := Lib.hid hgrow'; clear hown' hgrow' hnil'))
      have HB4 := Lib.hid (HB3.out.grown HG.out HB3.out.size (fun k hk => Nat.le_trans HB0.out.size (HA3.out.lt k hk).1))
      refine (same_any _ _ (usL ps ++ usL qs) _ (ints_other (ints_of_own HC3.out) HA3.out HG.out (fun g h => Or.inr (HAC.out g h))) (ints_of_own (by have h := HO.out; rw [← List.map_append, ← List.length_append] at h; exact h)) (by have := HLen.out; rw [List.length_append]; omega)).mono ?_
      rintro e w5 ⟨rfl, hb5⟩
      have HB5 := Lib.hid (HB4.out.trans (hb5.mono HB4.out.size))
      clear hb5
      go_wp2_with fail
      go_ret
      exact ⟨rfl, HB5.out⟩

set_option maxHeartbeats 2000000 in
set_option maxRecDepth 20000 in
theorem joins_ten1 (s t : ByteArray) (w : World) (hz : s.size + t.size ≤ 8388608) (hT : Tabs w) (ps qs : List Piece) (hn : (litL (inq s).data.toList).2 = some ps) (hm : (litL (inq t).data.toList).2 = some qs) (ht : 0 < t.size) (x : UInt8) (hx : t[0]'ht = x) (hd : x.toNat = 10) (hs : 0 < s.size) (y : UInt8) (hy : s[s.size - 1]'(Nat.sub_lt hs Nat.one_pos) = y) (hy13 : y.toNat ≠ 13) (hD : digHead t.data.toList = false) (hR : s.data.toList.getLast? = some 13 → t.data.toList.head? ≠ some 10) :
    Calls Tryd.prog 7 #[.string s, .string t] w fun e w' => e = .returned (.bool true) ∧ Below w.heap.size w w' := by
  obtain ⟨i0, hi, hz0, hz1, hz2⟩ := info_parts int_info
  have HC : Hid (∀ W, Tabs W → Calls Tryd.prog 14 #[.string ((⟨#[39]⟩ ++ s) ++ ⟨#[39]⟩)] W fun e w' => ∃ v, e = .returned (.tuple #[v, .int .i64 0]) ∧ w'.ownsRow W.heap.size 3 1 v (usL ps).length ((usL ps).map (Value.int .i64)) ∧ Below W.heap.size W w') := Lib.hid (fun W hT => units_some (inq s) W (by rw [inq_size]; omega) hT ps hn)
  have HD : Hid (∀ W, Tabs W → Calls Tryd.prog 14 #[.string ((⟨#[39]⟩ ++ t) ++ ⟨#[39]⟩)] W fun e w' => ∃ v, e = .returned (.tuple #[v, .int .i64 0]) ∧ w'.ownsRow W.heap.size 3 1 v (usL qs).length ((usL qs).map (Value.int .i64)) ∧ Below W.heap.size W w') := Lib.hid (fun W hT => units_some (inq t) W (by rw [inq_size]; omega) hT qs hm)
  have HE : Hid (∀ W, Tabs W → Calls Tryd.prog 14 #[.string (((⟨#[39]⟩ ++ s) ++ t) ++ ⟨#[39]⟩)] W fun e w' => ∃ v, e = .returned (.tuple #[v, .int .i64 0]) ∧ w'.ownsRow W.heap.size 3 1 v (usL ps ++ usL qs).length ((usL ps ++ usL qs).map (Value.int .i64)) ∧ Below W.heap.size W w') := Lib.hid (fun W hT => by
    have h1 : (((⟨#[39]⟩ ++ s) ++ t) ++ ⟨#[39]⟩ : ByteArray).data.toList = 39 :: ((s.data.toList ++ t.data.toList) ++ [39]) := by simp
    have h2 : (((⟨#[39]⟩ ++ s) ++ t) ++ ⟨#[39]⟩ : ByteArray).size ≤ 16777216 := by
      rw [Lib.size_eq, h1]
      have e1 := Lib.size_eq s
      have e2 := Lib.size_eq t
      simp only [List.length_cons, List.length_append, List.length_nil]
      omega
    have := units_some _ W h2 hT (ps ++ qs) (by rw [h1]; exact lit_join _ _ ps qs (by rw [← inq_list]; exact hn) (by rw [← inq_list]; exact hm) hD hR)
    rw [usL_app] at this
    exact this)
  have HLen : Hid ((usL ps).length + (usL qs).length ≤ 67108864) := Lib.hid (by
    have hl : ∀ (u : ByteArray) (rs : List Piece), (litL (inq u).data.toList).2 = some rs → (usL rs).length ≤ 2 * u.size := fun u rs h => by
      obtain ⟨_, q, _, hs, hr, _⟩ := lit_inv _ _ h
      have h1 := usL_len rs (row_ne _ _ hr)
      rw [inq_list] at hs
      have h2 : (39 :: (u.data.toList ++ [39])).length = (q :: (bytesP rs ++ [q])).length := by rw [hs]
      have h3 := Lib.size_eq u
      simp only [List.length_cons, List.length_append, List.length_nil] at h2
      omega
    have h1 := hl s ps hn
    have h2 := hl t qs hm
    omega)
  have HT := Lib.hid hT
  have h2 : 2 ≤ w.heap.size := hT.1
  have HZ := Lib.hid hz
  clear hT hn hm
  clear hD hR
  have ht1 : (0 : Int) < (t.size : Int) := by omega
  have hd1 : ¬ (48 : Int) ≤ (x.toNat : Int) := by omega
  have hd3 : (x.toNat : Int) = 10 := by omega
  have hs1 : (0 : Int) < (s.size : Int) := by omega
  have hsd : (0 : Int) ≤ (s.size : Int) - 1 := by omega
  have hse : (s.size : Int) - 1 < (s.size : Int) := by omega
  have hsc : IntKind.i64.wrap ((s.size : Int) - 1) = (s.size : Int) - 1 := IntWalk.i64_in _ (by have := HZ.out; omega)
  have hy3 : ¬ (y.toNat : Int) = 13 := by omega
  go_enter Tryd.func7, Tryd.ntmps7
  go_wp2_with fail
  refine (awake_any w HT.out).mono ?_
  rintro e w0 ⟨rfl, hb0⟩
  have HB0 := Lib.hid hb0
  clear hb0
  go_wp2_with fail
  refine (HC.out w0 (HT.out.below HB0.out h2)).mono ?_
  rintro e w1 ⟨va, rfl, hoa, hb1⟩
  have HB1 := Lib.hid (HB0.out.trans (hb1.mono HB0.out.size))
  have HA1 := Lib.hid hoa
  have HW01 : Hid (w0.heap.size ≤ w1.heap.size) := Lib.hid hb1.size
  clear hb1 hoa
  go_wp2_with fail
  refine (HD.out w1 (HT.out.below HB1.out h2)).mono ?_
  rintro e w2 ⟨vb, rfl, hob, hb2⟩
  have HW12 : Hid (w0.heap.size ≤ w2.heap.size) := Lib.hid (by have h1 := hb2.size; have h2 := HW01.out; omega)
  have HB2 := Lib.hid (HB1.out.trans (hb2.mono HB1.out.size))
  have HA2 := Lib.hid (own_below HA1.out hb2)
  have HN2 := Lib.hid hob
  have hab : ∀ g, vb.ownBlock = some g → va.ownBlock ≠ some g := fun g hg e => by
    have h1 := (hob.lt g hg).1
    have h2 := (HA1.out.lt g e).2
    omega
  have HAB := Lib.hid hab
  clear hb2 hob hab
  go_wp2_with fail
  refine (num_any 0 w2).mono ?_
  rintro e w3 ⟨rfl, rfl⟩
  go_wp2_with fail
  refine (num_any 0 w2).mono ?_
  rintro e w3 ⟨rfl, rfl⟩
  go_wp2_with fail
  all_goals
    refine (HE.out w2 (HT.out.below HB2.out h2)).mono ?_
    rintro e w3 ⟨vc, rfl, hoc, hb3⟩
    have HB3 := Lib.hid (HB2.out.trans (hb3.mono HB2.out.size))
    have HA3 := Lib.hid (own_below HA2.out hb3)
    have HN3 := Lib.hid (own_below HN2.out hb3)
    have HC3 := Lib.hid hoc
    have HAC : Hid (∀ g, vc.ownBlock = some g → va.ownBlock ≠ some g) := Lib.hid (fun g hg e => by
      have h1 := (hoc.lt g hg).1
      have h2 := (HA2.out.lt g e).2
      omega)
    have HBZ : Hid (w0.heap.size ≤ w3.heap.size) := Lib.hid (by have h1 := hb3.size; have h2 := HW12.out; omega)
    clear hb3 hoc
    rcases ints_of_own HN3.out with ⟨hv, hu⟩ | ⟨g, c, cs, fr, hv, hb, _⟩
    · subst hv
      have HU := Lib.hid hu
      clear hu
      go_wp2_with fail
      refine (num_any 0 w3).mono ?_
      rintro e w4 ⟨rfl, rfl⟩
      go_wp2_with (first
        | (at_builtin; refine wpList_append_want_none (by rfl) _ _ 30 rfl w0.heap.size 3 i0 1 Tryd.underlying30 hi _ _ _ rfl HA3.out rfl ?_))
      refine (same_any _ _ (usL ps) _ (by have h := ints_of_own HC3.out; rw [HU.out, List.append_nil] at h; exact h) (ints_of_own HA3.out) (by have := HLen.out; omega)).mono ?_
      rintro e w5 ⟨rfl, hb5⟩
      have HB5 := Lib.hid (HB3.out.trans (hb5.mono HB3.out.size))
      clear hb5
      go_wp2_with fail
      go_ret
      exact ⟨rfl, HB5.out⟩
    · subst hv
      have HNE := Lib.hid (ints_news (ints_of_own HN3.out) rfl)
      clear hb
      go_wp2_with fail
      refine (num_any 0 w3).mono ?_
      rintro e w4 ⟨rfl, rfl⟩
      go_wp2_with (first
        | (at_builtin; refine wpList_append_want (by rfl) _ _ 30 rfl w0.heap.size 3 i0 (.int .i64 0) 1 8 Tryd.underlying30 hi hz0 hz1 hz2 rfl (by decide) _ _ _ rfl HA3.out ⟨g, 0, none⟩ _ c ((usL qs).map (Value.int .i64)) rfl (by rw [List.length_map, Nat.mul_one]) HNE.out (fun u hu => by obtain ⟨z, _, rfl⟩ := List.mem_map.1 hu; rfl) (by have := HLen.out; unfold maxLen; omega) (by have := HLen.out; omega) (by have h1 := HB3.out.size; have h2 := HBZ.out; omega) ?_; intro v' w4 hown' hgrow' hnil'; have HO := Lib.hid hown'; have HG := Lib.hid hgrow'; clear hown' hgrow' hnil'))
      have HB4 := Lib.hid (HB3.out.grown HG.out HB3.out.size (fun k hk => Nat.le_trans HB0.out.size (HA3.out.lt k hk).1))
      refine (same_any _ _ (usL ps ++ usL qs) _ (ints_other (ints_of_own HC3.out) HA3.out HG.out (fun g h => Or.inr (HAC.out g h))) (ints_of_own (by have h := HO.out; rw [← List.map_append, ← List.length_append] at h; exact h)) (by have := HLen.out; rw [List.length_append]; omega)).mono ?_
      rintro e w5 ⟨rfl, hb5⟩
      have HB5 := Lib.hid (HB4.out.trans (hb5.mono HB4.out.size))
      clear hb5
      go_wp2_with fail
      go_ret
      exact ⟨rfl, HB5.out⟩

set_option maxHeartbeats 2000000 in
set_option maxRecDepth 20000 in
theorem joins_ten2 (s t : ByteArray) (w : World) (hz : s.size + t.size ≤ 8388608) (hT : Tabs w) (ps qs : List Piece) (hn : (litL (inq s).data.toList).2 = some ps) (hm : (litL (inq t).data.toList).2 = some qs) (ht : 0 < t.size) (x : UInt8) (hx : t[0]'ht = x) (hd : x.toNat = 10) (hs : 0 < s.size) (y : UInt8) (hy : s[s.size - 1]'(Nat.sub_lt hs Nat.one_pos) = y) (hy13 : y.toNat = 13) :
    Calls Tryd.prog 7 #[.string s, .string t] w fun e w' => e = .returned (.bool true) ∧ Below w.heap.size w w' := by
  obtain ⟨i0, hi, hz0, hz1, hz2⟩ := info_parts int_info
  have HC : Hid (∀ W, Tabs W → Calls Tryd.prog 14 #[.string ((⟨#[39]⟩ ++ s) ++ ⟨#[39]⟩)] W fun e w' => ∃ v, e = .returned (.tuple #[v, .int .i64 0]) ∧ w'.ownsRow W.heap.size 3 1 v (usL ps).length ((usL ps).map (Value.int .i64)) ∧ Below W.heap.size W w') := Lib.hid (fun W hT => units_some (inq s) W (by rw [inq_size]; omega) hT ps hn)
  have HD : Hid (∀ W, Tabs W → Calls Tryd.prog 14 #[.string ((⟨#[39]⟩ ++ t) ++ ⟨#[39]⟩)] W fun e w' => ∃ v, e = .returned (.tuple #[v, .int .i64 0]) ∧ w'.ownsRow W.heap.size 3 1 v (usL qs).length ((usL qs).map (Value.int .i64)) ∧ Below W.heap.size W w') := Lib.hid (fun W hT => units_some (inq t) W (by rw [inq_size]; omega) hT qs hm)
  have HT := Lib.hid hT
  have h2 : 2 ≤ w.heap.size := hT.1
  have HZ := Lib.hid hz
  clear hT hn hm
  have ht1 : (0 : Int) < (t.size : Int) := by omega
  have hd1 : ¬ (48 : Int) ≤ (x.toNat : Int) := by omega
  have hd3 : (x.toNat : Int) = 10 := by omega
  have hs1 : (0 : Int) < (s.size : Int) := by omega
  have hsd : (0 : Int) ≤ (s.size : Int) - 1 := by omega
  have hse : (s.size : Int) - 1 < (s.size : Int) := by omega
  have hsc : IntKind.i64.wrap ((s.size : Int) - 1) = (s.size : Int) - 1 := IntWalk.i64_in _ (by have := HZ.out; omega)
  have hy3 : (y.toNat : Int) = 13 := by omega
  go_enter Tryd.func7, Tryd.ntmps7
  go_wp2_with fail
  refine (awake_any w HT.out).mono ?_
  rintro e w0 ⟨rfl, hb0⟩
  have HB0 := Lib.hid hb0
  clear hb0
  go_wp2_with fail
  refine (HC.out w0 (HT.out.below HB0.out h2)).mono ?_
  rintro e w1 ⟨va, rfl, hoa, hb1⟩
  have HB1 := Lib.hid (HB0.out.trans (hb1.mono HB0.out.size))
  have HA1 := Lib.hid hoa
  have HW01 : Hid (w0.heap.size ≤ w1.heap.size) := Lib.hid hb1.size
  clear hb1 hoa
  go_wp2_with fail
  refine (HD.out w1 (HT.out.below HB1.out h2)).mono ?_
  rintro e w2 ⟨vb, rfl, hob, hb2⟩
  have HW12 : Hid (w0.heap.size ≤ w2.heap.size) := Lib.hid (by have h1 := hb2.size; have h2 := HW01.out; omega)
  have HB2 := Lib.hid (HB1.out.trans (hb2.mono HB1.out.size))
  have HA2 := Lib.hid (own_below HA1.out hb2)
  have HN2 := Lib.hid hob
  have hab : ∀ g, vb.ownBlock = some g → va.ownBlock ≠ some g := fun g hg e => by
    have h1 := (hob.lt g hg).1
    have h2 := (HA1.out.lt g e).2
    omega
  have HAB := Lib.hid hab
  clear hb2 hob hab
  go_wp2_with fail
  refine (num_any 0 w2).mono ?_
  rintro e w3 ⟨rfl, rfl⟩
  go_wp2_with fail
  refine (num_any 0 w2).mono ?_
  rintro e w3 ⟨rfl, rfl⟩
  go_wp2_with fail
  go_ret
  exact ⟨rfl, HB2.out⟩

theorem joins_law (s t : ByteArray) (w : World) (hz : s.size + t.size ≤ 8388608) (hT : Tabs w) :
    Calls Tryd.prog 7 #[.string s, .string t] w fun e w' => e = .returned (.bool true) ∧ Below w.heap.size w w' := by
  cases hn : (litL (inq s).data.toList).2 with
  | none => exact joins_one s t w hz hT hn
  | some ps =>
  cases hm : (litL (inq t).data.toList).2 with
  | none => exact joins_two s t w hz hT ps hn hm
  | some qs =>
  rcases Nat.eq_zero_or_pos t.size with ht | ht
  · have e : t.data.toList = [] := List.eq_nil_of_length_eq_zero (by rw [← Lib.size_eq]; exact ht)
    exact joins_t0 s t w hz hT ps qs hn hm ht (by rw [e]; rfl) (fun _ => by rw [e]; simp)
  obtain ⟨x, hx⟩ : ∃ x, t[0]'ht = x := ⟨_, rfl⟩
  have hh : t.data.toList.head? = some x := by
    have h1 : t.data.toList[0]? = some (t[0]'ht) := by
      rw [Array.getElem?_toList]
      exact Array.getElem?_eq_getElem _
    rw [List.head?_eq_getElem?, h1, hx]
  have hD : digHead t.data.toList = decide (48 ≤ x.toNat ∧ x.toNat ≤ 57) := by
    cases hl : t.data.toList with
    | nil => rw [hl] at hh; cases hh
    | cons z l => rw [hl] at hh; injection hh with hh; subst hh; rfl
  by_cases hd : 48 ≤ x.toNat ∧ x.toNat ≤ 57
  · exact joins_dig s t w hz hT ps qs hn hm ht x hx hd
  rw [decide_eq_false hd] at hD
  by_cases h10 : x.toNat = 10
  · rcases Nat.eq_zero_or_pos s.size with hs | hs
    · have e : s.data.toList = [] := List.eq_nil_of_length_eq_zero (by rw [← Lib.size_eq]; exact hs)
      exact joins_ten0 s t w hz hT ps qs hn hm ht x hx h10 hs hD (by rw [e]; simp)
    obtain ⟨y, hy⟩ : ∃ y, s[s.size - 1]'(Nat.sub_lt hs Nat.one_pos) = y := ⟨_, rfl⟩
    have hl : s.data.toList.getLast? = some y := by
      have h1 : s.data.toList[s.size - 1]? = some (s[s.size - 1]'(Nat.sub_lt hs Nat.one_pos)) := by
        rw [Array.getElem?_toList]
        exact Array.getElem?_eq_getElem _
      rw [List.getLast?_eq_getElem?, ← Lib.size_eq, h1, hy]
    by_cases h13 : y.toNat = 13
    · exact joins_ten2 s t w hz hT ps qs hn hm ht x hx h10 hs y hy h13
    · exact joins_ten1 s t w hz hT ps qs hn hm ht x hx h10 hs y hy h13 hD (fun e => by rw [hl] at e; injection e with e; subst e; exact absurd rfl h13)
  · have hR : s.data.toList.getLast? = some 13 → t.data.toList.head? ≠ some 10 := fun _ e => by
      rw [hh] at e; injection e with e; subst e; exact h10 rfl
    rcases Nat.lt_or_ge x.toNat 48 with h | h
    · exact joins_lo s t w hz hT ps qs hn hm ht x hx h h10 hD hR
    · exact joins_hi s t w hz hT ps qs hn hm ht x hx (by omega) hD hR

end Str
end Go.Proofs.YtddldddehgnobaaDoor
