/-
  A text of whole characters, cut anywhere: no program is named here.
-/
import Derived.Test.YtcalgpkcefccmaaDoorUniJoinPlain
import Derived.Laws.Cover4
namespace Go.Proofs.YtcalgpkcefccmaaDoor
namespace Uni
open Go.RowKit

theorem byteN_two (a b : UInt8) (l : List UInt8) : byteN ⟨(a :: b :: l).toArray⟩ 0 = a.toNat ∧ byteN ⟨(a :: b :: l).toArray⟩ 1 = b.toNat := ⟨rfl, rfl⟩

/-- The bytes of a character are a whole one. -/
theorem encode_len (n : Int) (h : Utf8.valid n = true) : lenN (Utf8.encode n) 0 = (Utf8.encode n).size := by
  have hv := h
  simp only [Utf8.valid, Bool.or_eq_true, Bool.and_eq_true, decide_eq_true_eq] at hv
  unfold Utf8.encode
  simp only [h, if_true]
  generalize hc : n.toNat = c
  by_cases c1 : c < 128
  · simp only [if_pos c1]
    have b0 : byteN ⟨#[UInt8.ofNat c]⟩ 0 = c % 256 := by show (UInt8.ofNat c).toNat = _; simp
    rw [lenN, b0, if_pos (by omega)]; rfl
  simp only [if_neg c1]
  by_cases c2 : c < 2048
  · simp only [if_pos c2]
    have b0 : byteN ⟨#[UInt8.ofNat (192 + c / 64), UInt8.ofNat (128 + c % 64)]⟩ 0 = (192 + c / 64) % 256 := by show (UInt8.ofNat (192 + c / 64)).toNat = _; simp
    have b1 : byteN ⟨#[UInt8.ofNat (192 + c / 64), UInt8.ofNat (128 + c % 64)]⟩ 1 = (128 + c % 64) % 256 := by show (UInt8.ofNat (128 + c % 64)).toNat = _; simp
    have t1 : tailB ⟨#[UInt8.ofNat (192 + c / 64), UInt8.ofNat (128 + c % 64)]⟩ (0 + 1) = true := by
      rw [tailB, Nat.zero_add, b1]; simp only [decide_eq_true_eq]; exact ⟨by show 1 < 2; omega, by omega, by omega⟩
    rw [lenN, b0, if_neg (by omega), if_pos ⟨by omega, by omega, t1⟩]; rfl
  simp only [if_neg c2]
  by_cases c3 : c < 65536
  · simp only [if_pos c3]
    generalize ht : (⟨#[UInt8.ofNat (224 + c / 4096), UInt8.ofNat (128 + c / 64 % 64), UInt8.ofNat (128 + c % 64)]⟩ : ByteArray) = t
    have sz : t.size = 3 := by rw [← ht]; rfl
    have b0 : byteN t 0 = (224 + c / 4096) % 256 := by rw [← ht]; show (UInt8.ofNat (224 + c / 4096)).toNat = _; simp
    have b1 : byteN t 1 = (128 + c / 64 % 64) % 256 := by rw [← ht]; show (UInt8.ofNat (128 + c / 64 % 64)).toNat = _; simp
    have b2 : byteN t 2 = (128 + c % 64) % 256 := by rw [← ht]; show (UInt8.ofNat (128 + c % 64)).toNat = _; simp
    have t1 : tailB t (0 + 1) = true := by rw [tailB, Nat.zero_add, b1]; simp only [decide_eq_true_eq]; omega
    have t2 : tailB t (0 + 2) = true := by rw [tailB, Nat.zero_add, b2]; simp only [decide_eq_true_eq]; omega
    rw [lenN, b0, if_neg (by omega), if_neg (by omega), if_pos ⟨by omega, by omega, t1, t2⟩, Nat.zero_add, b1, if_neg (by omega), sz]
  · simp only [if_neg c3]
    generalize ht : (⟨#[UInt8.ofNat (240 + c / 262144), UInt8.ofNat (128 + c / 4096 % 64), UInt8.ofNat (128 + c / 64 % 64), UInt8.ofNat (128 + c % 64)]⟩ : ByteArray) = t
    have sz : t.size = 4 := by rw [← ht]; rfl
    have b0 : byteN t 0 = (240 + c / 262144) % 256 := by rw [← ht]; show (UInt8.ofNat (240 + c / 262144)).toNat = _; simp
    have b1 : byteN t 1 = (128 + c / 4096 % 64) % 256 := by rw [← ht]; show (UInt8.ofNat (128 + c / 4096 % 64)).toNat = _; simp
    have b2 : byteN t 2 = (128 + c / 64 % 64) % 256 := by rw [← ht]; show (UInt8.ofNat (128 + c / 64 % 64)).toNat = _; simp
    have b3 : byteN t 3 = (128 + c % 64) % 256 := by rw [← ht]; show (UInt8.ofNat (128 + c % 64)).toNat = _; simp
    have t1 : tailB t (0 + 1) = true := by rw [tailB, Nat.zero_add, b1]; simp only [decide_eq_true_eq]; omega
    have t2 : tailB t (0 + 2) = true := by rw [tailB, Nat.zero_add, b2]; simp only [decide_eq_true_eq]; omega
    have t3 : tailB t (0 + 3) = true := by rw [tailB, Nat.zero_add, b3]; simp only [decide_eq_true_eq]; omega
    rw [lenN, b0, if_neg (by omega), if_neg (by omega), if_neg (by omega), if_pos ⟨by omega, by omega, t1, t2, t3⟩, Nat.zero_add, b1, if_neg (by omega), sz]

theorem encode_pos (n : Int) : 0 < (Utf8.encode n).size := by
  unfold Utf8.encode
  simp only
  repeat' split
  all_goals simp [ByteArray.size]

theorem encode_good (n : Int) (h : Utf8.valid n = true) : badFrom (Utf8.encode n) 0 = none := by
  have hp := encode_pos n
  have hl := encode_len n h
  rw [bad_step _ 0 hp (by omega), hl]
  exact bad_end _ _ (by omega)

theorem runes_good (zs : List Int) (h : ∀ z ∈ zs, Utf8.valid z = true) : badFrom (runesBytes zs) 0 = none := by
  suffices key : ∀ (zs : List Int) (s : ByteArray), (∀ z ∈ zs, Utf8.valid z = true) → badFrom s 0 = none → badFrom (zs.foldl (fun r n => r ++ Utf8.encode n) s) 0 = none from
    key zs ByteArray.empty h (bad_end _ _ (by decide))
  intro zs
  induction zs with
  | nil => intro s _ hs; exact hs
  | cons z zs ih =>
    intro s hz hs
    refine ih _ (fun x hx => hz x (by simp [hx])) ?_
    rw [bad_left s (Utf8.encode z) s.size 0 (by omega) (by omega) hs, encode_good z (hz z (by simp))]; rfl

/-! A cut. -/
theorem cut_two (s : ByteArray) (k : Nat) (h : k ≤ s.size) : s.extract 0 k ++ s.extract k s.size = s := by
  apply ByteArray.ext
  simp only [ByteArray.data_append, ByteArray.data_extract]
  rw [Array.extract_append_extract]
  simp
  omega

theorem size_front (s : ByteArray) (k : Nat) (h : k ≤ s.size) : (s.extract 0 k).size = k := by simp; omega

theorem byteN_front (s : ByteArray) (k j : Nat) (h : k ≤ s.size) (hj : j < k) : byteN (s.extract 0 k) j = byteN s j := by
  have := byteN_left (s.extract 0 k) (s.extract k s.size) j (by rw [size_front s k h]; exact hj)
  rw [cut_two s k h] at this
  exact this.symm

theorem tailB_front (s : ByteArray) (k j : Nat) (h : k ≤ s.size) (hj : j < k) : tailB (s.extract 0 k) j = tailB s j := by
  rw [tailB, tailB, byteN_front s k j h hj, size_front s k h]
  congr 1
  simp only [eq_iff_iff]
  omega

/-- A character that lies within the cut is whole there. -/
theorem len_in (s : ByteArray) (k i : Nat) (h : k ≤ s.size) (hi : i < k) (hl : i + lenN s i ≤ k) (hn : lenN s i ≠ 0) : lenN (s.extract 0 k) i = lenN s i := by
  have h0 := byteN_front s k i h hi
  have key := lenN.eq_1 s i
  generalize lenN s i = n at *
  rw [lenN, h0]
  by_cases a1 : byteN s i < 128
  · rw [if_pos a1] at key ⊢; exact key.symm
  rw [if_neg a1] at key ⊢
  by_cases a2 : 194 ≤ byteN s i ∧ byteN s i < 224 ∧ tailB s (i + 1) = true
  · rw [if_pos a2] at key
    rw [if_pos ⟨a2.1, a2.2.1, by rw [tailB_front s k (i + 1) h (by omega)]; exact a2.2.2⟩]; exact key.symm
  rw [if_neg a2] at key
  by_cases a3 : 224 ≤ byteN s i ∧ byteN s i < 240 ∧ tailB s (i + 1) = true ∧ tailB s (i + 2) = true
  · rw [if_pos a3] at key
    have hk : i + 2 < k := by split at key <;> omega
    rw [if_neg (by omega : ¬ (194 ≤ byteN s i ∧ _)), if_pos ⟨a3.1, a3.2.1, by rw [tailB_front s k (i + 1) h (by omega)]; exact a3.2.2.1, by rw [tailB_front s k (i + 2) h (by omega)]; exact a3.2.2.2⟩, byteN_front s k (i + 1) h (by omega)]
    exact key.symm
  rw [if_neg a3] at key
  by_cases a4 : 240 ≤ byteN s i ∧ byteN s i < 245 ∧ tailB s (i + 1) = true ∧ tailB s (i + 2) = true ∧ tailB s (i + 3) = true
  · rw [if_pos a4] at key
    have hk : i + 3 < k := by split at key <;> omega
    rw [if_neg (by omega : ¬ (194 ≤ byteN s i ∧ _)), if_neg (by omega : ¬ (224 ≤ byteN s i ∧ _)), if_pos ⟨a4.1, a4.2.1, by rw [tailB_front s k (i + 1) h (by omega)]; exact a4.2.2.1, by rw [tailB_front s k (i + 2) h (by omega)]; exact a4.2.2.2.1, by rw [tailB_front s k (i + 3) h (by omega)]; exact a4.2.2.2.2⟩, byteN_front s k (i + 1) h (by omega)]
    exact key.symm
  · rw [if_neg a4] at key
    exact absurd key hn

/-- One that the cut goes through is not. -/
theorem len_out (s : ByteArray) (k i : Nat) (h : k ≤ s.size) (hi : i < k) (hl : k < i + lenN s i) : lenN (s.extract 0 k) i = 0 := by
  by_cases e : lenN (s.extract 0 k) i = 0
  · exact e
  · exfalso
    have h1 := lenN_left (s.extract 0 k) (s.extract k s.size) i (by rw [size_front s k h]; exact hi) e
    rw [cut_two s k h] at h1
    have h2 := lenN_le (s.extract 0 k) i (by rw [size_front s k h]; exact hi)
    rw [size_front s k h] at h2
    omega

/-- What a range over the text has found, up to 'pos', of the last beginning that is at most k. -/
def Begin (s : ByteArray) (k b pos : Nat) : Prop :=
  b ≤ k ∧ badFrom (s.extract 0 k) 0 = badFrom (s.extract 0 k) b ∧ badFrom s pos = none ∧ pos ≤ s.size ∧
    ((pos = 0 ∧ b = 0) ∨ (lenN s b ≠ 0 ∧ b < s.size ∧ (b + lenN s b = pos ∨ (k < b + lenN s b ∧ b + lenN s b ≤ pos))))

theorem begin_start (s : ByteArray) (k : Nat) (h : badFrom s 0 = none) : Begin s k 0 0 := ⟨by omega, rfl, h, by omega, .inl ⟨rfl, rfl⟩⟩

theorem begin_near (s : ByteArray) (k b pos : Nat) (hk : k ≤ s.size) (h : Begin s k b pos) (hp : pos < s.size) (hpk : pos ≤ k) : Begin s k pos (pos + (Utf8.decode s pos).2) := by
  obtain ⟨h1, h2, h3, h4, h5⟩ := h
  have hn := bad_none_len s pos hp h3
  have hl := lenN_le s pos hp
  rw [step_len s pos hn]
  refine ⟨hpk, ?_, by rw [← bad_step s pos hp hn]; exact h3, hl, .inr ⟨hn, hp, .inl rfl⟩⟩
  rcases h5 with ⟨rfl, rfl⟩ | ⟨e1, e2, e3⟩
  · rfl
  · have e4 : b + lenN s b = pos := by omega
    have hb : b < k := by omega
    have e5 := len_in s k b hk hb (by omega) e1
    rw [h2, bad_step (s.extract 0 k) b (by rw [size_front s k hk]; exact hb) (by rw [e5]; exact e1), e5, e4]

theorem begin_far (s : ByteArray) (k b pos : Nat) (h : Begin s k b pos) (hp : pos < s.size) (hpk : ¬ pos ≤ k) : Begin s k b (pos + (Utf8.decode s pos).2) := by
  obtain ⟨h1, h2, h3, h4, h5⟩ := h
  have hn := bad_none_len s pos hp h3
  have hl := lenN_le s pos hp
  rw [step_len s pos hn]
  refine ⟨h1, h2, by rw [← bad_step s pos hp hn]; exact h3, hl, ?_⟩
  rcases h5 with ⟨rfl, rfl⟩ | ⟨e1, e2, e3⟩
  · omega
  · exact .inr ⟨e1, e2, .inr (by omega)⟩

theorem begin_end_at (s : ByteArray) (k pos : Nat) (hk : k ≤ s.size) (h : Begin s k k pos) : badFrom (s.extract 0 k) 0 = none := by
  rw [h.2.1]
  exact bad_end _ _ (by rw [size_front s k hk]; omega)

theorem begin_end_in (s : ByteArray) (k b : Nat) (hk : k < s.size) (h : Begin s k b s.size) (hb : b ≠ k) : badFrom (s.extract 0 k) 0 = some b := by
  obtain ⟨h1, h2, h3, h4, h5⟩ := h
  rw [h2]
  refine bad_here _ _ (by rw [size_front s k (by omega)]; omega) ?_
  rcases h5 with ⟨e, rfl⟩ | ⟨e1, e2, e3⟩
  · omega
  · exact len_out s k b (by omega) (by omega) (by omega)

theorem cut_whole (s : ByteArray) : s.extract 0 s.size = s := by
  apply ByteArray.ext
  simp only [ByteArray.data_extract]
  exact Array.extract_size

end Uni
end Go.Proofs.YtcalgpkcefccmaaDoor
