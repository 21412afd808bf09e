/-
  The document's own functions on characters: a character at a place, its units, what an escaped letter stands for.
-/
import Derived.Test.YtddldddehgnobaaDoorStrRd
import Derived.Test.YtddldddehgnobaaDoorUniLength
namespace Go.Proofs.YtddldddehgnobaaDoor
namespace Str
open Go.RowKit

/-- The bits of a character's bytes, behind the first. -/
def accN (s : ByteArray) (i r0 : Nat) : Nat → Nat
  | 0 => r0
  | j + 1 => accN s i r0 j * 64 + Uni.byteN s (i + (j + 1)) % 64

/-- A character and its length; -1 and 1: none stands there. -/
def runeV (s : ByteArray) (i : Nat) : Value := if Uni.lenN s i = 0 then .tuple #[.int .i64 (-1), .int .i64 1] else .tuple #[.int .i64 (Uni.runeN s i), .int .i64 (Uni.lenN s i)]

theorem acc_bound (s : ByteArray) (i r0 : Nat) (h : r0 < 256) : ∀ j, j ≤ 3 → accN s i r0 j < 256 * 64 ^ j := by
  intro j
  induction j with
  | zero => intro _; simpa [accN] using h
  | succ j ih =>
    intro hj
    have := ih (by omega)
    rw [accN, Nat.pow_succ]
    omega

set_option maxHeartbeats 1000000 in
set_option maxRecDepth 20000 in
theorem rune_k (s : ByteArray) (i k m : Nat) (w : World) (hz : s.size ≤ 16777216) (h : i < s.size) (hk : Uni.lenN s i = k) (hk1 : 1 ≤ k) (hk4 : k ≤ 4) (hm : k = 1 ∧ m = 256 ∨ k = 2 ∧ m = 32 ∨ k = 3 ∧ m = 16 ∨ k = 4 ∧ m = 8) :
    Calls Tryd.prog 33 #[.string s, .int .i64 i] w fun e w' => e = .returned (.tuple #[.int .i64 (accN s i (Uni.byteN s i % m) (k - 1)), .int .i64 k]) ∧ w = w' := by
  have hmax : s.size ≤ maxLen := by unfold maxLen; omega
  have hle := Uni.lenN_le s i h
  have HC := Lib.hid (Uni.length_any s i w hmax h)
  rw [hk] at HC hle
  have Hb := Lib.hid (Uni.byteN_at s i h)
  have hb := Uni.byteN_lt s i
  have gb : ((s[i]'h).toNat : Int) < 256 := by have := (s[i]'h).toNat_lt; omega
  have HA := Lib.hid (acc_bound s i (Uni.byteN s i % m) (by have := Nat.mod_le (Uni.byteN s i) m; omega))
  have HB := Lib.hid (fun j h => Uni.byteN_at s j h)
  obtain ⟨c, hc⟩ : ∃ c, Uni.byteN s i = c := ⟨_, rfl⟩
  rw [hc] at Hb hb HA ⊢
  clear hc
  obtain ⟨rfl, rfl⟩ | ⟨rfl, rfl⟩ | ⟨rfl, rfl⟩ | ⟨rfl, rfl⟩ := hm
  · have hr : accN s i (c % 256) (1 - 1) = c := by rw [accN, Nat.mod_eq_of_lt hb]
    have HR := Lib.hid hr
    clear hr hk
    go_enter Tryd.func33, Tryd.ntmps33
    go_wp2_with fail
    refine HC.out.mono ?_
    rintro e w1 ⟨rfl, rfl⟩
    go_wp2_with fail
    go_loop [7, 8] (fun r j => r = .int .i64 c ∧ j = .int .i64 1) (fun _ _ => 0)
    case atStart => exact ⟨by rw [Hb.out], rfl⟩
    case round =>
      obtain ⟨rfl, rfl⟩ := hrel
      go_wp2_with fail
      go_ret2
      exact ⟨by rw [HR.out]; rfl, rfl⟩
  · have HK := Lib.hid hk
    clear hk
    have h32 : c % 32 < 32 := Nat.mod_lt _ (by decide)
    go_enter Tryd.func33, Tryd.ntmps33
    go_wp2_with fail
    refine HC.out.mono ?_
    rintro e w1 ⟨rfl, rfl⟩
    go_wp2_with fail
    go_loop [7, 8] (fun r j => ∃ n : Nat, n ≤ 1 ∧ j = .int .i64 ((n + 1 : Nat) : Int) ∧ r = .int .i64 (accN s i (c % 32) n)) (fun _ j => 2 - (intOf j).toNat)
    case atStart => exact ⟨0, by omega, rfl, by rw [Hb.out]; rfl⟩
    case round =>
      obtain ⟨n, hn, rfl, rfl⟩ := hrel
      have hbd := HA.out n (by omega)
      have hbd2 : accN s i (c % 32) n < 67108864 + 1 := Nat.lt_of_lt_of_le hbd (Nat.le_trans (Nat.mul_le_mul_left _ (Nat.pow_le_pow_right (by decide) hn)) (by decide))
      clear hbd
      by_cases hlt : n + 1 < 2
      · have hin : i + (n + 1) < s.size := by omega
        have HB1 := Lib.hid (HB.out (i + (n + 1)) hin)
        have gb1 : ((s[i + (n + 1)]'hin).toNat : Int) < 256 := by have := (s[i + (n + 1)]'hin).toNat_lt; omega
        have hstep : accN s i (c % 32) (n + 1) = accN s i (c % 32) n * 64 + Uni.byteN s (i + (n + 1)) % 64 := rfl
        have HS := Lib.hid hstep
        clear hstep
        obtain ⟨X, hX⟩ : ∃ X, accN s i (c % 32) n = X := ⟨_, rfl⟩
        rw [hX] at HS hbd2 ⊢
        clear hX
        go_wp2_with fail
        go_round
        case rel =>
          refine ⟨n + 1, by omega, by go_num, ?_⟩
          rw [HS.out, ← HB1.out]
          congr 1
        case measure => simp [intOf]; omega
      · obtain rfl : n = 1 := by omega
        obtain ⟨X, hX⟩ : ∃ X, accN s i (c % 32) 1 = X := ⟨_, rfl⟩
        have HX := Lib.hid hX
        rw [hX] at hbd2 ⊢
        clear hX
        go_wp2_with fail
        go_ret2
        exact ⟨by rw [HX.out]; rfl, rfl⟩
  · have HK := Lib.hid hk
    clear hk
    have h32 : c % 16 < 16 := Nat.mod_lt _ (by decide)
    go_enter Tryd.func33, Tryd.ntmps33
    go_wp2_with fail
    refine HC.out.mono ?_
    rintro e w1 ⟨rfl, rfl⟩
    go_wp2_with fail
    go_loop [7, 8] (fun r j => ∃ n : Nat, n ≤ 2 ∧ j = .int .i64 ((n + 1 : Nat) : Int) ∧ r = .int .i64 (accN s i (c % 16) n)) (fun _ j => 3 - (intOf j).toNat)
    case atStart => exact ⟨0, by omega, rfl, by rw [Hb.out]; rfl⟩
    case round =>
      obtain ⟨n, hn, rfl, rfl⟩ := hrel
      have hbd := HA.out n (by omega)
      have hbd2 : accN s i (c % 16) n < 67108864 + 1 := Nat.lt_of_lt_of_le hbd (Nat.le_trans (Nat.mul_le_mul_left _ (Nat.pow_le_pow_right (by decide) hn)) (by decide))
      clear hbd
      by_cases hlt : n + 1 < 3
      · have hin : i + (n + 1) < s.size := by omega
        have HB1 := Lib.hid (HB.out (i + (n + 1)) hin)
        have gb1 : ((s[i + (n + 1)]'hin).toNat : Int) < 256 := by have := (s[i + (n + 1)]'hin).toNat_lt; omega
        have hstep : accN s i (c % 16) (n + 1) = accN s i (c % 16) n * 64 + Uni.byteN s (i + (n + 1)) % 64 := rfl
        have HS := Lib.hid hstep
        clear hstep
        obtain ⟨X, hX⟩ : ∃ X, accN s i (c % 16) n = X := ⟨_, rfl⟩
        rw [hX] at HS hbd2 ⊢
        clear hX
        go_wp2_with fail
        go_round
        case rel =>
          refine ⟨n + 1, by omega, by go_num, ?_⟩
          rw [HS.out, ← HB1.out]
          congr 1
        case measure => simp [intOf]; omega
      · obtain rfl : n = 2 := by omega
        obtain ⟨X, hX⟩ : ∃ X, accN s i (c % 16) 2 = X := ⟨_, rfl⟩
        have HX := Lib.hid hX
        rw [hX] at hbd2 ⊢
        clear hX
        go_wp2_with fail
        go_ret2
        exact ⟨by rw [HX.out]; rfl, rfl⟩
  · have HK := Lib.hid hk
    clear hk
    have h32 : c % 8 < 8 := Nat.mod_lt _ (by decide)
    go_enter Tryd.func33, Tryd.ntmps33
    go_wp2_with fail
    refine HC.out.mono ?_
    rintro e w1 ⟨rfl, rfl⟩
    go_wp2_with fail
    go_loop [7, 8] (fun r j => ∃ n : Nat, n ≤ 3 ∧ j = .int .i64 ((n + 1 : Nat) : Int) ∧ r = .int .i64 (accN s i (c % 8) n)) (fun _ j => 4 - (intOf j).toNat)
    case atStart => exact ⟨0, by omega, rfl, by rw [Hb.out]; rfl⟩
    case round =>
      obtain ⟨n, hn, rfl, rfl⟩ := hrel
      have hbd := HA.out n (by omega)
      have hbd2 : accN s i (c % 8) n < 67108864 + 1 := Nat.lt_of_lt_of_le hbd (Nat.le_trans (Nat.mul_le_mul_left _ (Nat.pow_le_pow_right (by decide) hn)) (by decide))
      clear hbd
      by_cases hlt : n + 1 < 4
      · have hin : i + (n + 1) < s.size := by omega
        have HB1 := Lib.hid (HB.out (i + (n + 1)) hin)
        have gb1 : ((s[i + (n + 1)]'hin).toNat : Int) < 256 := by have := (s[i + (n + 1)]'hin).toNat_lt; omega
        have hstep : accN s i (c % 8) (n + 1) = accN s i (c % 8) n * 64 + Uni.byteN s (i + (n + 1)) % 64 := rfl
        have HS := Lib.hid hstep
        clear hstep
        obtain ⟨X, hX⟩ : ∃ X, accN s i (c % 8) n = X := ⟨_, rfl⟩
        rw [hX] at HS hbd2 ⊢
        clear hX
        go_wp2_with fail
        go_round
        case rel =>
          refine ⟨n + 1, by omega, by go_num, ?_⟩
          rw [HS.out, ← HB1.out]
          congr 1
        case measure => simp [intOf]; omega
      · obtain rfl : n = 3 := by omega
        obtain ⟨X, hX⟩ : ∃ X, accN s i (c % 8) 3 = X := ⟨_, rfl⟩
        have HX := Lib.hid hX
        rw [hX] at hbd2 ⊢
        clear hX
        go_wp2_with fail
        go_ret2
        exact ⟨by rw [HX.out]; rfl, rfl⟩

theorem rune_none (s : ByteArray) (i : Nat) (w : World) (hz : s.size ≤ 16777216) (h : i < s.size) (hk : Uni.lenN s i = 0) :
    Calls Tryd.prog 33 #[.string s, .int .i64 i] w fun e w' => e = .returned (.tuple #[.int .i64 (-1), .int .i64 1]) ∧ w = w' := by
  have hmax : s.size ≤ maxLen := by unfold maxLen; omega
  have HC := Lib.hid (Uni.length_any s i w hmax h)
  rw [hk] at HC
  clear hk
  go_enter Tryd.func33, Tryd.ntmps33
  go_wp2_with fail
  refine HC.out.mono ?_
  rintro e w1 ⟨rfl, rfl⟩
  go_wp2_with fail
  go_ret2
  exact ⟨rfl, rfl⟩

/-- A character and its length, by the list behind the place. -/
theorem rune_any (s : ByteArray) (i : Nat) (w : World) (hz : s.size ≤ 16777216) (h : i < s.size) :
    Calls Tryd.prog 33 #[.string s, .int .i64 i] w fun e w' =>
      e = .returned (.tuple #[.int .i64 (if lenL (sufL s i) = 0 then -1 else (runeL (sufL s i) : Int)), .int .i64 (if lenL (sufL s i) = 0 then 1 else (lenL (sufL s i) : Int))]) ∧ w = w' := by
  obtain ⟨h1, h2⟩ := len_suf s i h
  rw [h1, h2]
  have hk4 := Uni.lenN_four s i
  have hr := Uni.runeN.eq_1 s i
  have hb := Uni.byteN_lt s i
  by_cases k0 : Uni.lenN s i = 0
  · rw [if_pos k0, if_pos k0]; exact rune_none s i w hz h k0
  rw [if_neg k0, if_neg k0]
  obtain k1 | k1 | k1 | k1 : Uni.lenN s i = 1 ∨ Uni.lenN s i = 2 ∨ Uni.lenN s i = 3 ∨ Uni.lenN s i = 4 := by omega
  · refine (rune_k s i 1 256 w hz h k1 (by omega) (by omega) (by omega)).mono ?_
    rintro e w1 ⟨rfl, rfl⟩
    rw [hr, k1]
    exact ⟨by simp [accN]; omega, rfl⟩
  · refine (rune_k s i 2 32 w hz h k1 (by omega) (by omega) (by omega)).mono ?_
    rintro e w1 ⟨rfl, rfl⟩
    rw [hr, k1]
    exact ⟨by simp [accN], rfl⟩
  · refine (rune_k s i 3 16 w hz h k1 (by omega) (by omega) (by omega)).mono ?_
    rintro e w1 ⟨rfl, rfl⟩
    rw [hr, k1]
    exact ⟨by simp [accN], rfl⟩
  · refine (rune_k s i 4 8 w hz h k1 (by omega) (by omega) (by omega)).mono ?_
    rintro e w1 ⟨rfl, rfl⟩
    rw [hr, k1]
    exact ⟨by simp [accN], rfl⟩

/-- The code units of a character or of a code unit. -/
def unitsL (v : Int) : List Int := if 65535 < v then [55296 + (v - 65536) / 1024, 56320 + (v - 65536) % 1024] else [v]
/-- The code units of what a part stands for; -1: none. -/
def uOf (v : Int) : List Int := if v = -1 then [] else unitsL v

/-- A slice of ints that reads us. -/
def IntsAt (w : World) (v : Value) (us : List Int) : Prop :=
  (v = .slice none 0 0 ∧ us = []) ∨ ∃ (g c : Nat) (cs : Array Value) (fr : Nat × Nat), v = .slice (some ⟨g, 0, none⟩) us.length c ∧ w.heap[g]? = some (.cells cs 3 fr) ∧ ∀ (j : Nat) (u : Int), us[j]? = some u → cs[j]? = some (Value.int .i64 u)
theorem heap_lt {w : World} {g : Nat} {o : Obj} (h : w.heap[g]? = some o) : g < w.heap.size := by
  rcases Nat.lt_or_ge g w.heap.size with h' | h'
  · exact h'
  · rw [Array.getElem?_eq_none h'] at h; cases h
theorem IntsAt.but {w w' : World} {v : Value} {us : List Int} (h : IntsAt w v us) (b : Nat) (hb : ∀ k, k < w.heap.size → k ≠ b → w'.heap[k]? = w.heap[k]?)
    (hne : ∀ cs fr, w.heap[b]? ≠ some (.cells cs 3 fr)) : IntsAt w' v us := by
  rcases h with h | ⟨g, c, cs, fr, h1, h2, h3⟩
  · exact Or.inl h
  · refine Or.inr ⟨g, c, cs, fr, h1, ?_, h3⟩
    rw [hb g (heap_lt h2) (by intro e; subst e; exact hne _ _ h2)]; exact h2
theorem IntsAt.keep {w w' : World} {v : Value} {us : List Int} (h : IntsAt w v us) (hb : Below w.heap.size w w') : IntsAt w' v us := by
  rcases h with h | ⟨g, c, cs, fr, h1, h2, h3⟩
  · exact Or.inl h
  · exact Or.inr ⟨g, c, cs, fr, h1, by rw [hb.block g (heap_lt h2)]; exact h2, h3⟩
theorem IntsAt.set {w : World} {v : Value} {us : List Int} (h : IntsAt w v us) {b : Nat} {e : TypeId} {cs : Array Value} {fr : Nat × Nat} (hb : w.heap[b]? = some (.cells cs e fr)) (he : e ≠ 3) (o : Nat) (f : Option Nat) (u : Value) :
    IntsAt (w.setCell ⟨b, o, f⟩ u) v us :=
  h.but b (fun _ _ hk => Below.heap_setCell _ _ _ _ (by simpa using hk)) (fun cs' fr' e' => by rw [hb] at e'; injection e' with e'; injection e' with _ e' _; exact he e')
/-- Block b is no row of ints. -/
def NotInt (w : World) (b : Nat) : Prop := ∀ (cs : Array Value) (fr : Nat × Nat), w.heap[b]? ≠ some (.cells cs 3 fr)
theorem NotInt.of {w : World} {b : Nat} {e : TypeId} {cs : Array Value} {fr : Nat × Nat} (hb : w.heap[b]? = some (.cells cs e fr)) (he : e ≠ 3) : NotInt w b :=
  fun cs' fr' e' => by rw [hb] at e'; injection e' with e'; injection e' with _ e' _; exact he e'
theorem NotInt.set {w : World} {b : Nat} (h : NotInt w b) (a : Addr) (u : Value) : NotInt (w.setCell a u) b := by
  intro cs fr e
  by_cases hk : a.block = b
  · simp only [World.setCell, Array.getElem?_modify, if_pos hk] at e
    cases hw : w.heap[b]? with
    | none => rw [hw] at e; cases e
    | some o =>
      rw [hw] at e
      cases o with
      | cells c el f =>
        simp only [Option.map_some, Option.some.injEq] at e
        injection e with _ e1 _
        subst e1
        exact h _ _ hw
      | _ => simp at e
  · rw [Below.heap_setCell _ _ _ _ (fun x => hk x.symm)] at e
    exact h _ _ e
theorem IntsAt.setP {w : World} {v : Value} {us : List Int} (h : IntsAt w v us) {a : Addr} (hb : NotInt w a.block) (u : Value) : IntsAt (w.setCell a u) v us :=
  h.but a.block (fun _ _ hk => Below.heap_setCell _ _ _ _ hk) hb
/-- Some stores, one behind the other. -/
def sets (w : World) (l : List (Addr × Value)) : World := l.foldl (fun w p => w.setCell p.1 p.2) w
theorem ints_sets {A B : Nat} {v : Value} {us : List Int} : ∀ {w : World}, NotInt w A → NotInt w B → IntsAt w v us → ∀ l : List (Addr × Value), (∀ p ∈ l, p.1.block = A ∨ p.1.block = B) → IntsAt (sets w l) v us
  | _, _, _, hi, [], _ => hi
  | w, ha, hb, hi, p :: l, h => by
    have h1 := h p (List.mem_cons_self ..)
    have hn : NotInt w p.1.block := by rcases h1 with e | e <;> rw [e] <;> assumption
    exact ints_sets (w := w.setCell p.1 p.2) (ha.set _ _) (hb.set _ _) (hi.setP hn _) l (fun p' hp' => h p' (List.mem_cons_of_mem _ hp'))

theorem ints_lit (w : World) (us : List Int) : IntsAt (w.alloc (.cells (us.map (Value.int .i64)).toArray 3)) (.slice (some ⟨w.heap.size, 0, none⟩) us.length us.length) us := by
  refine Or.inr ⟨w.heap.size, us.length, (us.map (Value.int .i64)).toArray, (0, 0), rfl, by show (w.heap.push _)[w.heap.size]? = _; simp, fun j u hj => by simp [hj]⟩
theorem ints_new (w : World) (us : List Int) (g : Nat) (hg : g = w.heap.size) : IntsAt (w.alloc (.cells (us.map (Value.int .i64)).toArray 3)) (.slice (some ⟨g, 0, none⟩) us.length us.length) us := by
  subst hg; exact ints_lit w us
theorem blk_keep {w w' : World} {g : Nat} {o : Obj} (h : w.heap[g]? = some o) (hb : Below w.heap.size w w') : w'.heap[g]? = some o := by rw [hb.block g (heap_lt h)]; exact h
theorem blk_a (w : World) (A B : Obj) : ((w.alloc A).alloc B).heap[w.heap.size]? = some A := by
  rw [Below.heap_alloc _ _ _ (by simp)]
  show (w.heap.push _)[w.heap.size]? = _; simp
theorem blk_b (w : World) (A B : Obj) : ((w.alloc A).alloc B).heap[w.heap.size + 1]? = some B := by
  show ((w.heap.push A).push B)[w.heap.size + 1]? = _
  rw [show w.heap.size + 1 = (w.heap.push A).size by simp]
  exact Array.getElem?_push_size
theorem blk_cell {w : World} {g : Nat} {cs : Array Value} {e : TypeId} {fr : Nat × Nat} (h : w.heap[g]? = some (.cells cs e fr)) (o : Nat) : w.cell? ⟨g, o, none⟩ = cs[o]? := by
  simp [World.cell?, h]
theorem blk_frozen {w : World} {g : Nat} {cs : Array Value} {e : TypeId} (h : w.heap[g]? = some (.cells cs e)) (o : Nat) : w.frozen? ⟨g, o, none⟩ = false := by
  simp [World.frozen?, h]
theorem bcell {w w' : World} (hb : Below w.heap.size w w') : (∀ g o, g < w.heap.size → w'.cell? ⟨g, o, none⟩ = w.cell? ⟨g, o, none⟩) ∧ (∀ g o, g < w.heap.size → w'.frozen? ⟨g, o, none⟩ = w.frozen? ⟨g, o, none⟩) :=
  ⟨fun _ _ h => hb.cell h, fun _ _ h => hb.frozen h⟩

set_option maxHeartbeats 1000000 in
theorem runits_any (r : Nat) (w : World) (hr : r ≤ 1114111) :
    Calls Tryd.prog 34 #[.int .i64 r] w fun e w' => ∃ g n, e = .returned (.slice (some ⟨g, 0, none⟩) n n) ∧ IntsAt w' (.slice (some ⟨g, 0, none⟩) n n) (unitsL r) ∧ Below w.heap.size w w' := by
  have HU := Lib.hid (unitsL.eq_1 r)
  by_cases h : 65535 < r
  · go_enter Tryd.func34, Tryd.ntmps34
    go_wp2_with fail
    go_ret
    rw [HU.out, if_pos (by omega)]
    exact ⟨_, _, rfl, ints_lit w [_, _], (Below.refl _ _).alloc (Nat.le_refl _) _⟩
  · go_enter Tryd.func34, Tryd.ntmps34
    go_wp2_with fail
    go_ret
    rw [HU.out, if_neg (by omega)]
    exact ⟨_, _, rfl, ints_lit w [_], (Below.refl _ _).alloc (Nat.le_refl _) _⟩

/-- What an escaped letter stands for; -1: it is none of them. -/
def simV (c : Nat) : Int := if c = 98 then 8 else if c = 102 then 12 else if c = 110 then 10 else if c = 114 then 13 else if c = 116 then 9 else if c = 118 then 11 else -1

set_option maxHeartbeats 1000000 in
theorem simple_any (c : Nat) (w : World) (hc : c < 256) :
    Calls Tryd.prog 40 #[.int .u8 c] w fun e w' => e = .returned (.int .i64 (simV c)) ∧ Below w.heap.size w w' := by
  go_enter Tryd.func40, Tryd.ntmps40
  go_wp2_with fail
  have HS := Lib.hid (simV.eq_1 c)
  go_loop [5] (fun i => ∃ k : Nat, k ≤ 6 ∧ i = .int .i64 k ∧ (0 < k → c ≠ 98) ∧ (1 < k → c ≠ 102) ∧ (2 < k → c ≠ 110) ∧ (3 < k → c ≠ 114) ∧ (4 < k → c ≠ 116) ∧ (5 < k → c ≠ 118)) (fun i => 6 - (intOf i).toNat)
  case atStart => exact ⟨0, by omega, rfl, by omega, by omega, by omega, by omega, by omega, by omega⟩
  case round =>
    obtain ⟨k, hk, rfl, h1, h2, h3, h4, h5, h6⟩ := hrel
    have hw : Below w.heap.size w (w.alloc (.cells #[.int .i64 8, .int .i64 12, .int .i64 10, .int .i64 13, .int .i64 9, .int .i64 11] 3)) := (Below.refl _ _).alloc (Nat.le_refl _) _
    have HW := Lib.hid hw
    have H1 := Lib.hid h1; have H2 := Lib.hid h2; have H3 := Lib.hid h3; have H4 := Lib.hid h4; have H5 := Lib.hid h5; have H6 := Lib.hid h6
    clear hw h1 h2 h3 h4 h5 h6
    have b0 : (((⟨#[98, 102, 110, 114, 116, 118]⟩ : ByteArray)[0]'(by decide)).toNat) = 98 := rfl
    have b1 : (((⟨#[98, 102, 110, 114, 116, 118]⟩ : ByteArray)[1]'(by decide)).toNat) = 102 := rfl
    have b2 : (((⟨#[98, 102, 110, 114, 116, 118]⟩ : ByteArray)[2]'(by decide)).toNat) = 110 := rfl
    have b3 : (((⟨#[98, 102, 110, 114, 116, 118]⟩ : ByteArray)[3]'(by decide)).toNat) = 114 := rfl
    have b4 : (((⟨#[98, 102, 110, 114, 116, 118]⟩ : ByteArray)[4]'(by decide)).toNat) = 116 := rfl
    have b5 : (((⟨#[98, 102, 110, 114, 116, 118]⟩ : ByteArray)[5]'(by decide)).toNat) = 118 := rfl
    obtain rfl | rfl | rfl | rfl | rfl | rfl | rfl : k = 0 ∨ k = 1 ∨ k = 2 ∨ k = 3 ∨ k = 4 ∨ k = 5 ∨ k = 6 := by omega
    · by_cases hc1 : c = 98
      · have hs : Hid (simV c = 8) := Lib.hid (by rw [HS.out, if_pos hc1])
        subst hc1
        clear HS H1 H2 H3 H4 H5 H6
        go_wp2_with fail
        go_ret
        exact ⟨by rw [hs.out]; rfl, HW.out⟩
      · have e1 : ((98 : Int) == (c : Int)) = false := beq_eq_false_iff_ne.2 (by omega)
        have HC := Lib.hid hc1
        clear hc1
        go_wp2_with fail
        go_round
        case rel => exact ⟨1, by omega, rfl, fun _ => HC.out, fun h => absurd h (by decide), fun h => absurd h (by decide), fun h => absurd h (by decide), fun h => absurd h (by decide), fun h => absurd h (by decide)⟩
        case measure => simp [intOf]
    · by_cases hc1 : c = 102
      · have hs : Hid (simV c = 12) := Lib.hid (by rw [HS.out, if_neg (H1.out (by decide)), if_pos hc1])
        subst hc1
        clear HS H1 H2 H3 H4 H5 H6
        go_wp2_with fail
        go_ret
        exact ⟨by rw [hs.out]; rfl, HW.out⟩
      · have e1 : ((102 : Int) == (c : Int)) = false := beq_eq_false_iff_ne.2 (by omega)
        have HC := Lib.hid hc1
        clear hc1
        go_wp2_with fail
        go_round
        case rel => exact ⟨2, by omega, rfl, fun _ => H1.out (by decide), fun _ => HC.out, fun h => absurd h (by decide), fun h => absurd h (by decide), fun h => absurd h (by decide), fun h => absurd h (by decide)⟩
        case measure => simp [intOf]
    · by_cases hc1 : c = 110
      · have hs : Hid (simV c = 10) := Lib.hid (by rw [HS.out, if_neg (H1.out (by decide)), if_neg (H2.out (by decide)), if_pos hc1])
        subst hc1
        clear HS H1 H2 H3 H4 H5 H6
        go_wp2_with fail
        go_ret
        exact ⟨by rw [hs.out]; rfl, HW.out⟩
      · have e1 : ((110 : Int) == (c : Int)) = false := beq_eq_false_iff_ne.2 (by omega)
        have HC := Lib.hid hc1
        clear hc1
        go_wp2_with fail
        go_round
        case rel => exact ⟨3, by omega, rfl, fun _ => H1.out (by decide), fun _ => H2.out (by decide), fun _ => HC.out, fun h => absurd h (by decide), fun h => absurd h (by decide), fun h => absurd h (by decide)⟩
        case measure => simp [intOf]
    · by_cases hc1 : c = 114
      · have hs : Hid (simV c = 13) := Lib.hid (by rw [HS.out, if_neg (H1.out (by decide)), if_neg (H2.out (by decide)), if_neg (H3.out (by decide)), if_pos hc1])
        subst hc1
        clear HS H1 H2 H3 H4 H5 H6
        go_wp2_with fail
        go_ret
        exact ⟨by rw [hs.out]; rfl, HW.out⟩
      · have e1 : ((114 : Int) == (c : Int)) = false := beq_eq_false_iff_ne.2 (by omega)
        have HC := Lib.hid hc1
        clear hc1
        go_wp2_with fail
        go_round
        case rel => exact ⟨4, by omega, rfl, fun _ => H1.out (by decide), fun _ => H2.out (by decide), fun _ => H3.out (by decide), fun _ => HC.out, fun h => absurd h (by decide), fun h => absurd h (by decide)⟩
        case measure => simp [intOf]
    · by_cases hc1 : c = 116
      · have hs : Hid (simV c = 9) := Lib.hid (by rw [HS.out, if_neg (H1.out (by decide)), if_neg (H2.out (by decide)), if_neg (H3.out (by decide)), if_neg (H4.out (by decide)), if_pos hc1])
        subst hc1
        clear HS H1 H2 H3 H4 H5 H6
        go_wp2_with fail
        go_ret
        exact ⟨by rw [hs.out]; rfl, HW.out⟩
      · have e1 : ((116 : Int) == (c : Int)) = false := beq_eq_false_iff_ne.2 (by omega)
        have HC := Lib.hid hc1
        clear hc1
        go_wp2_with fail
        go_round
        case rel => exact ⟨5, by omega, rfl, fun _ => H1.out (by decide), fun _ => H2.out (by decide), fun _ => H3.out (by decide), fun _ => H4.out (by decide), fun _ => HC.out, fun h => absurd h (by decide)⟩
        case measure => simp [intOf]
    · by_cases hc1 : c = 118
      · have hs : Hid (simV c = 11) := Lib.hid (by rw [HS.out, if_neg (H1.out (by decide)), if_neg (H2.out (by decide)), if_neg (H3.out (by decide)), if_neg (H4.out (by decide)), if_neg (H5.out (by decide)), if_pos hc1])
        subst hc1
        clear HS H1 H2 H3 H4 H5 H6
        go_wp2_with fail
        go_ret
        exact ⟨by rw [hs.out]; rfl, HW.out⟩
      · have e1 : ((118 : Int) == (c : Int)) = false := beq_eq_false_iff_ne.2 (by omega)
        have HC := Lib.hid hc1
        clear hc1
        go_wp2_with fail
        go_round
        case rel => exact ⟨6, by omega, rfl, fun _ => H1.out (by decide), fun _ => H2.out (by decide), fun _ => H3.out (by decide), fun _ => H4.out (by decide), fun _ => H5.out (by decide), fun _ => HC.out⟩
        case measure => simp [intOf]
    · have hs : Hid (simV c = -1) := Lib.hid (by rw [HS.out, if_neg (H1.out (by decide)), if_neg (H2.out (by decide)), if_neg (H3.out (by decide)), if_neg (H4.out (by decide)), if_neg (H5.out (by decide)), if_neg (H6.out (by decide))])
      clear HS H1 H2 H3 H4 H5 H6
      go_wp2_with fail
      go_ret
      exact ⟨by rw [hs.out]; rfl, HW.out⟩

end Str
end Go.Proofs.YtddldddehgnobaaDoor
