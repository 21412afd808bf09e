/-
  A row of bytes made of a text, written in place; the document's own numerals.
-/
import Derived.Test.YtinjaopgnlpncaaGreatDoorNumRef
import Derived.Test.YtinjaopgnlpncaaGreatDoorNumItoa
import Derived.Lib.ItoaNum
namespace Go.Proofs.YtinjaopgnlpncaaGreatDoor
namespace Num
open Go.RowKit

/-- Block g's first cells are the bytes l, free to be written. -/
def Bytes (w : World) (g : Nat) (l : List UInt8) : Prop := ∀ j (h : j < l.length), w.cell? ⟨g, j, none⟩ = some (.int .u8 ((l[j]).toNat : Int)) ∧ w.frozen? ⟨g, j, none⟩ = false

theorem Bytes.set {w : World} {g : Nat} {l : List UInt8} (h : Bytes w g l) (k : Nat) (hk : k < l.length) (c : UInt8) : Bytes (w.setCell ⟨g, k, none⟩ (.int .u8 (c.toNat : Int))) g (l.set k c) := by
  intro j hj
  have hj' : j < l.length := by simpa using hj
  rw [World.frozen?_setCell]
  refine ⟨?_, (h j hj').2⟩
  by_cases e : k = j
  · subst e
    rw [World.cell?_setCell_same _ _ _ (h k hk).1]
    simp
  · rw [World.cell?_setCell_other _ _ _ _ (by intro h; injection h with _ h2 _; exact e h2), (h j hj').1]
    simp [e]

theorem Bytes.keep {w w' : World} {g : Nat} {l : List UInt8} (h : Bytes w g l) (hb : Below w.heap.size w w') (hg : g < w.heap.size) : Bytes w' g l := by
  intro j hj
  rw [(bcell hb).1 _ _ hg, (bcell hb).2 _ _ hg]
  exact h j hj

/-- The world behind '[]byte(s)'. -/
def rowW (w : World) (s : ByteArray) (cap : Nat) : World := w.drew.alloc (.cells (bytesRow s cap) 5 ((bytesRow s cap).size, (bytesRow s cap).size + 1))
theorem bytes_new (w : World) (s : ByteArray) (cap : Nat) : Bytes (rowW w s cap) w.heap.size s.data.toList ∧ Below w.heap.size w (rowW w s cap) ∧ w.heap.size < (rowW w s cap).heap.size := by
  refine ⟨?_, ((Below.refl _ _).drew).alloc (Nat.le_refl _) _, by simp [rowW]⟩
  unfold rowW
  intro j hj
  generalize hC : bytesRow s cap = C
  have hsz : s.data.size ≤ C.size := by rw [← hC, bytesRow]; simp
  have hjs : j < s.data.size := by simpa using hj
  have hget : C[j]? = some (.int .u8 ((s.data.toList[j]).toNat : Int)) := by
    have := bytesRow_at s cap j hjs
    rw [← hC, this]
    simp
  constructor
  · have := World.cell?_alloc_mark w.drew C 5 (C.size, C.size + 1) j
    rw [show w.drew.heap.size = w.heap.size from rfl] at this
    rw [this, hget]
  · have := World.frozen?_alloc_mark w.drew C 5 C.size (C.size + 1) j
    rw [show w.drew.heap.size = w.heap.size from rfl] at this
    rw [this]
    simp
    omega

theorem bytes_ex (w : World) (s : ByteArray) : ∃ cap w1, (convert 9 42 (.string s)).run Tryz.prog w = .ok (.slice (some ⟨w.heap.size, 0, none⟩) s.size cap) w1 ∧ s.size ≤ cap ∧ Bytes w1 w.heap.size s.data.toList ∧ Below w.heap.size w w1 ∧ w.heap.size < w1.heap.size :=
  ⟨_, _, run_bytes_of_string w 9 42 5 s Tryz.underlying9 Tryz.underlying42 Tryz.underlying5, grownCap_ge _ _ _ _, (bytes_new w s _).1, (bytes_new w s _).2.1, (bytes_new w s _).2.2⟩

theorem bytes_back {w : World} {g : Nat} {l : List UInt8} (h : Bytes w g l) (n : Nat) (hn : n = l.length) (cap : Nat) :
    (convert 42 9 (.slice (some ⟨g, 0, none⟩) n cap)).run Tryz.prog w = .ok (.string ⟨l.toArray⟩) w := by
  subst hn
  refine run_convert_bytes_back (P := Tryz.prog) w 42 9 5 ⟨g, 0, none⟩ cap l Tryz.underlying42 Tryz.underlying5 Tryz.underlying9 (fun j hj => ?_)
  have e : (⟨g, 0, none⟩ : Addr).add j = ⟨g, j, none⟩ := by simp [Addr.add]; exact fun h => h.symm
  rw [e]
  exact (h j hj).1

/-- The first k bytes turned by f. -/
def upto (f : UInt8 → UInt8) (k : Nat) (l : List UInt8) : List UInt8 := (l.take k).map f ++ l.drop k
theorem upto_len (f : UInt8 → UInt8) (k : Nat) (l : List UInt8) : (upto f k l).length = l.length := by
  simp [upto, List.length_take]; omega
theorem upto_zero (f : UInt8 → UInt8) (l : List UInt8) : upto f 0 l = l := by simp [upto]
theorem upto_all (f : UInt8 → UInt8) (k : Nat) (l : List UInt8) (h : l.length ≤ k) : upto f k l = l.map f := by simp [upto, List.take_of_length_le h, List.drop_of_length_le h]
theorem upto_get (f : UInt8 → UInt8) (k : Nat) (l : List UInt8) (h : k < l.length) : (upto f k l)[k]'(by rw [upto_len]; exact h) = l[k] := by
  simp only [upto]
  rw [List.getElem_append_right (by simp; omega)]
  simp [List.length_take, Nat.min_eq_left (Nat.le_of_lt h)]
theorem upto_set (f : UInt8 → UInt8) (k : Nat) (l : List UInt8) (h : k < l.length) : (upto f k l).set k (f l[k]) = upto f (k + 1) l := by
  have hk : ((l.take k).map f).length = k := by simp; omega
  unfold upto
  rw [List.set_append_right _ _ (by omega), hk, Nat.sub_self, List.drop_eq_getElem_cons h, List.set_cons_zero, List.take_succ_eq_append_getElem h, List.map_append, List.append_assoc]
  rfl
theorem upto_same (f : UInt8 → UInt8) (k : Nat) (l : List UInt8) (h : k < l.length) (hf : f l[k] = l[k]) : upto f (k + 1) l = upto f k l := by
  rw [← upto_set f k l h, hf]
  refine List.ext_getElem (by simp) (fun i h1 h2 => ?_)
  by_cases e : k = i
  · subst e; rw [List.getElem_set_self, upto_get f k l h]
  · rw [List.getElem_set_ne e]

theorem low_32 (c : UInt8) (h : 65 ≤ c.toNat ∧ c.toNat ≤ 90) : (lowN c).toNat = c.toNat + 32 := by
  rw [lowN, if_pos h, UInt8.toNat_add]; simp; omega
theorem low_no (c : UInt8) (h : ¬ (65 ≤ c.toNat ∧ c.toNat ≤ 90)) : lowN c = c := by rw [lowN, if_neg h]

set_option maxHeartbeats 2000000 in
set_option maxRecDepth 100000 in
theorem small_any (s : ByteArray) (w : World) (hlim : s.size ≤ maxLen) :
    Calls Tryz.prog 26 #[.string s] w fun e w' => e = .returned (.string ⟨(s.data.toList.map lowN).toArray⟩) ∧ Below w.heap.size w w' := by
  obtain ⟨cap, w1, hcv, hcap, hby, hb1, hz⟩ := bytes_ex w s
  have Hby := Lib.hid hby
  clear hby
  unfold maxLen at hlim
  have Hsl := Lib.hid (Lib.size_eq s)
  go_enter Tryz.func26, Tryz.ntmps26
  go_wp2
  clear hcv
  go_loopw [4] (fun i wr => ∃ k : Nat, k ≤ s.size ∧ i = .int .i64 k ∧ Bytes wr w.heap.size (upto lowN k s.data.toList) ∧ Below w.heap.size w wr) (fun i _ => s.size - (intOf i).toNat)
  case atStart => exact ⟨0, by omega, rfl, by rw [upto_zero]; exact Hby.out, hb1⟩
  case round =>
    obtain ⟨k, hk, rfl, hby, hw⟩ := hrel
    have Hs := Lib.hid hby; clear hby
    by_cases hlt : k < s.size
    · have hkl : k < s.data.toList.length := by rw [← Hsl.out]; exact hlt
      obtain ⟨hc, hfz⟩ := Hs.out k (by rw [upto_len]; exact hkl)
      rw [upto_get lowN k _ hkl] at hc
      have hc8 := (s.data.toList[k]).toNat_lt
      obtain ⟨c, hcc⟩ : ∃ c : UInt8, s.data.toList[k] = c := ⟨_, rfl⟩
      rw [hcc] at hc hc8
      by_cases hr : 65 ≤ c.toNat ∧ c.toNat ≤ 90
      · have g1 : (65 : Int) ≤ (c.toNat : Int) := by omega
        have g2 : (c.toNat : Int) ≤ 90 := by omega
        have Hn : Hid (Bytes (wr.setCell ⟨w.heap.size, k, none⟩ (.int .u8 ((c.toNat : Int) + 32))) w.heap.size (upto lowN (k + 1) s.data.toList)) := Lib.hid (by
          have := Hs.out.set k (by rw [upto_len]; exact hkl) (lowN c)
          rw [low_32 c hr, ← hcc, upto_set lowN k _ hkl, hcc] at this
          exact this)
        clear hcc hr hkl
        go_wp2_with fail
        go_roundw
        case rel => exact ⟨k + 1, by omega, by go_num, Hn.out, hw.setCell (Nat.le_refl _) _⟩
        case measure => simp [intOf]; omega
      · have Hn : Hid (Bytes wr w.heap.size (upto lowN (k + 1) s.data.toList)) := Lib.hid (by
          rw [upto_same lowN k _ hkl (by rw [hcc]; exact low_no c hr)]; exact Hs.out)
        by_cases h65 : 65 ≤ c.toNat
        · have g1 : (65 : Int) ≤ (c.toNat : Int) := by omega
          have g2 : ¬ (c.toNat : Int) ≤ 90 := by omega
          clear hcc hr hkl
          go_wp2_with fail
          go_roundw
          case rel => exact ⟨k + 1, by omega, by go_num, Hn.out, hw⟩
          case measure => simp [intOf]; omega
        · have g1 : ¬ (65 : Int) ≤ (c.toNat : Int) := by omega
          clear hcc hr hkl
          go_wp2_with fail
          go_roundw
          case rel => exact ⟨k + 1, by omega, by go_num, Hn.out, hw⟩
          case measure => simp [intOf]; omega
    · have hcb := bytes_back Hs.out s.size (by rw [upto_len]; exact Hsl.out) cap
      have Hf := Lib.hid (upto_all lowN k s.data.toList (by rw [← Hsl.out]; omega))
      go_wp2_with fail
      go_ret
      exact ⟨ret_s (by rw [Hf.out]), hw⟩

end Num
end Go.Proofs.YtinjaopgnlpncaaGreatDoor
