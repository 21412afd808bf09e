/-
  The contract of the function that takes a literal apart.
-/
import Derived.Test.YtinjaopgnlpncaaGreatDoorNumCuts
import Derived.Deep.RegionWith
namespace Go.Proofs.YtinjaopgnlpncaaGreatDoor
namespace Num
open Go.RowKit

/-- A literal's pieces, as the program holds them. -/
def litV (p : Parts) : Value := .agg #[.int .u8 ((letN p.base).toNat : Int), .string ⟨p.whole.toArray⟩, .string ⟨p.frac.toArray⟩, .string ⟨(p.sgn ++ p.pow).toArray⟩, .bool p.big]

theorem list_of (l : List UInt8) : (⟨l.toArray⟩ : ByteArray).data.toList = l := rfl
theorem size_of (l : List UInt8) : (⟨l.toArray⟩ : ByteArray).size = l.length := by simp [ByteArray.size]

set_option maxHeartbeats 2000000 in
set_option maxRecDepth 100000 in
theorem split_bas (s : ByteArray) (p : Parts) (b : UInt8) (w : World) (hs : s.size ≤ maxLen) (d : Bas p) (hb : radN (lowN b) = p.base) (hl : s.data.toList = basText b p) :
    Calls Tryz.prog 19 #[.string s] w fun e w' => e = .returned (litV p) ∧ Below w.heap.size w w' := by
  have hc := cut_n (48 :: b :: p.whole) p.big (bas_n b p d hb)
  have hl2 : s.data.toList = (48 :: b :: p.whole) ++ nT p.big := by rw [hl]; rfl
  rw [← hl2] at hc
  obtain ⟨t, ht⟩ : ∃ t : ByteArray, (⟨(48 :: b :: p.whole).toArray⟩ : ByteArray) = t := ⟨_, rfl⟩
  have htl : t.data.toList = 48 :: b :: p.whole := by rw [← ht]
  have hts : t.size = p.whole.length + 2 := by rw [← ht, size_of]; rfl
  have hlen : p.whole.length + 2 ≤ 9223372036854775807 := by
    have h1 := Lib.size_eq s
    rw [hl2] at h1
    unfold maxLen at hs
    simp at h1
    omega
  have h2 : 2 ≤ t.size := by omega
  have h2b : t.size ≤ 9223372036854775807 := by omega
  have hlet : lowN b = letN p.base := let_of _ _ hb d.base
  have h1t : 1 < t.size := by omega
  have Hb1 : Hid (t[1]'h1t = b) := Lib.hid (by
    have h := Lib.data_getElem? t 1 h1t
    rw [htl] at h
    simpa using h.symm)
  have Hd1 : Hid (t.extract 2 t.size = ⟨p.whole.toArray⟩) := Lib.hid (by rw [drop_str, htl]; rfl)
  have Hfin : Hid (litV p = .agg #[.int .u8 ((lowN b).toNat : Int), .string ⟨p.whole.toArray⟩, .string ⟨#[]⟩, .string ⟨#[]⟩, .bool p.big]) := Lib.hid (by rw [litV, d.frac, d.sgn, d.pow, hlet]; rfl)
  have hr0 : ((radN (lowN b) : Int) != 0) = true := by rw [r0, hb]; have := d.base; simp; omega
  have hrb := rad_le (lowN b)
  have Hc := Lib.hid hc
  have Ht := Lib.hid ht
  clear hc hl hl2 ht htl hts hlet hb
  go_enter Tryz.func19, Tryz.ntmps19
  go_wp2_with fail
  refine (Tryz.strings_CutSuffix s ⟨#[110]⟩ _ hs).mono ?_
  rintro e w' ⟨rfl, hw⟩
  rw [hw]
  clear hw
  rw [show (⟨#[110]⟩ : ByteArray).data.toList = [110] from rfl, Hc.out.1, Hc.out.2, Ht.out]
  clear Hc Ht
  go_wp2_with fail
  refine (lower_any _ _).mono ?_
  rintro e w1 ⟨rfl, rfl⟩
  rw [Hb1.out]
  go_wp2_with fail
  refine (radix_any _ _).mono ?_
  rintro e w1 ⟨rfl, rfl⟩
  go_wp2_with fail
  go_region_with (first | (go_at_call 33; refine (lower_any _ _).mono ?_; rintro e w1 ⟨rfl, rfl⟩))
  all_goals go_wp2
  all_goals
    refine bodyPost_ret (v := litV p) ?_ rfl ⟨rfl, (((Below.refl _ _).alloc (Nat.le_refl _) _).alloc (by simp) _).drew⟩
    rw [Hfin.out]
    simp [results, Tryz.results19, go_sem, Hb1.out, Hd1.out]

theorem rad_dig (c : UInt8) (h : valN c < 10 ∨ c = 95) : radN (lowN c) = 0 ∧ c.toNat < 128 := by
  have key : ∀ n : Fin 256, (valN (UInt8.ofNat n.val) < 10 ∨ UInt8.ofNat n.val = 95) → radN (lowN (UInt8.ofNat n.val)) = 0 ∧ (UInt8.ofNat n.val).toNat < 128 := by decide +kernel
  have := key ⟨c.toNat, c.toNat_lt⟩
  simp only [UInt8.ofNat_toNat] at this
  exact this h

theorem body_low (e : UInt8) (he : e = 101 ∨ e = 69) (p : Parts) (d : Dec p) : ∀ c ∈ bodyL e p, radN (lowN c) = 0 ∧ c.toNat < 128 := by
  have run : ∀ ds : List UInt8, Run 10 ds → ∀ c ∈ ds, radN (lowN c) = 0 ∧ c.toNat < 128 := fun ds h c hc => rad_dig c (run_mem 10 ds false h c hc)
  intro c hc
  unfold bodyL mantL at hc
  rcases List.mem_append.1 hc with hc | hc
  · rcases List.mem_append.1 hc with hc | hc
    · exact run _ d.whole c hc
    · unfold dotT at hc
      cases hd : p.dot with
      | false => rw [hd] at hc; cases hc
      | true =>
        rw [hd] at hc
        rcases List.mem_cons.1 hc with rfl | hc
        · decide
        · exact run _ d.frac c hc
  · unfold expT' at hc
    cases hd : p.exp with
    | false => rw [hd] at hc; cases hc
    | true =>
      rw [hd] at hc
      obtain ⟨a1, _, _, a4⟩ := d.pow hd
      rcases List.mem_cons.1 hc with rfl | hc
      · rcases he with rfl | rfl <;> decide
      · rcases List.mem_append.1 hc with hc | hc
        · rcases a4 with a4 | a4 | a4 <;> rw [a4] at hc <;> simp at hc <;> subst hc <;> decide
        · exact run _ a1 c hc

theorem cut_mant (p : Parts) (d : Dec p) : cutL (mantL p) 46 = (p.whole, p.frac, p.dot) := by
  rw [cutL, mant_dot p d]
  cases hd : p.dot with
  | false =>
    rw [if_neg (by simp)]
    have hf := d.dot hd
    simp [mantL, dotT, hd, hf]
  | true =>
    rw [if_pos (by simp)]
    have e1 : (if true = true then (p.whole.length : Int) else -1).toNat = p.whole.length := by simp
    rw [e1, mantL, dotT, hd, if_pos rfl, List.take_left]
    have : (p.whole ++ 46 :: p.frac).drop (p.whole.length + 1) = p.frac := by
      rw [← List.drop_drop, List.drop_left]; rfl
    rw [this]

/-- Old cells and old marks read as before. -/
theorem bcell {W w1 : World} (hb : Below W.heap.size W w1) : (∀ b o, b < W.heap.size → w1.cell? ⟨b, o, none⟩ = W.cell? ⟨b, o, none⟩) ∧ (∀ b o, b < W.heap.size → w1.frozen? ⟨b, o, none⟩ = W.frozen? ⟨b, o, none⟩) :=
  ⟨fun b o h => hb.cell (p := ⟨b, o, none⟩) h, fun b o h => hb.frozen (p := ⟨b, o, none⟩) h⟩

theorem radz (c : UInt8) (h : radN (lowN c) = 0) : ((radN (lowN c) : Int) != 0) = false := by rw [r0, h]; rfl

set_option maxHeartbeats 2000000 in
set_option maxRecDepth 100000 in
theorem split_dec (s : ByteArray) (p : Parts) (e : UInt8) (w : World) (hs : s.size ≤ maxLen) (d : Dec p) (he : e = 101 ∨ e = 69) (hl : s.data.toList = decText e p) :
    Calls Tryz.prog 19 #[.string s] w fun e w' => e = .returned (litV p) ∧ Below w.heap.size w w' := by
  have hl2 : s.data.toList = bodyL e p ++ nT p.big := by rw [hl, decText_body]
  have hc := cut_n (bodyL e p) p.big (body_n e he p d)
  rw [← hl2] at hc
  have hlow := body_low e he p d
  have hie := body_e e he p d
  have hcm := cut_mant p d
  obtain ⟨t, ht⟩ : ∃ t : ByteArray, (⟨(bodyL e p).toArray⟩ : ByteArray) = t := ⟨_, rfl⟩
  obtain ⟨m, hm⟩ : ∃ m : ByteArray, (⟨(mantL p).toArray⟩ : ByteArray) = m := ⟨_, rfl⟩
  have htl : t.data.toList = bodyL e p := by rw [← ht]
  have hml : m.data.toList = mantL p := by rw [← hm]
  have hts : t.size = (bodyL e p).length := by rw [← ht, size_of]
  have hms : m.size = (mantL p).length := by rw [← hm, size_of]
  have hbl : (bodyL e p).length ≤ s.size := by rw [Lib.size_eq s, hl2, List.length_append]; omega
  have hmb : (mantL p).length ≤ (bodyL e p).length := by unfold bodyL; rw [List.length_append]; omega
  have htM : t.size ≤ maxLen := by omega
  have hmM : m.size ≤ maxLen := by omega
  unfold maxLen at htM hmM
  have hbase : letN p.base = 0 := by rw [d.base]; rfl
  have Hascii : Hid (∀ (j : Nat) b, t.data.toList[j]? = some b → b.toNat < 128) := Lib.hid (fun j b hj => (hlow b (by rw [← htl]; exact List.mem_of_getElem? hj)).2)
  have Hlow : Hid (∀ h : 1 < t.size, radN (lowN t[1]) = 0) := Lib.hid (fun h => (hlow _ (by rw [← htl]; exact List.mem_of_getElem? (Lib.data_getElem? t 1 h))).1)
  have Hie : Hid (Lib.indexAny t.data.toList [101, 69] = if p.exp then ((mantL p).length : Int) else -1) := Lib.hid (by rw [htl]; exact hie)
  have Hcm : Hid (cutL m.data.toList 46 = (p.whole, p.frac, p.dot)) := Lib.hid (by rw [hml]; exact hcm)
  have Hc := Lib.hid hc
  have Ht := Lib.hid ht
  cases hx : p.exp with
  | false =>
    have htm : t = m := by rw [← ht, ← hm, bodyL, expT', hx]; simp
    have hsp := d.exp hx
    have Hfin : Hid (litV p = .agg #[.int .u8 0, .string ⟨p.whole.toArray⟩, .string ⟨p.frac.toArray⟩, .string ⟨#[]⟩, .bool p.big]) := Lib.hid (by rw [litV, hbase, hsp.1, hsp.2]; rfl)
    rw [hx] at Hie
    clear hsp hx hm ht hlow hie hcm hl hl2 hc htl hml hts hms hbl hmb hbase
    subst htm
    by_cases h1 : 1 < t.size
    · have Hr := Lib.hid (radz _ (Hlow.out h1))
      have hrb := rad_le (lowN t[1])
      go_enter Tryz.func19, Tryz.ntmps19
      go_wp2_with fail
      refine (Tryz.strings_CutSuffix s ⟨#[110]⟩ _ hs).mono ?_
      rintro e w' ⟨rfl, hw⟩
      rw [hw]
      clear hw
      rw [show (⟨#[110]⟩ : ByteArray).data.toList = [110] from rfl, Hc.out.1, Hc.out.2, Ht.out]
      clear Hc Ht
      go_wp2_with fail
      refine (lower_any _ _).mono ?_
      rintro e w1 ⟨rfl, rfl⟩
      go_wp2_with fail
      refine (radix_any _ _).mono ?_
      rintro e w1 ⟨rfl, rfl⟩
      have hr := Hr.out
      go_wp2_with fail
      refine (index_any t _ htM Hascii.out).mono ?_
      rintro e w1 ⟨rfl, hb1⟩
      rw [Hie.out]
      obtain ⟨hc1, hf1⟩ := bcell hb1
      have hz : w.heap.size + 1 < w1.heap.size := by have := hb1.size; simp at this; omega
      have hy : w.heap.size < w1.heap.size := by omega
      go_wp2_with fail
      refine (cut_any t 46 _ hmM).mono ?_
      rintro e w2 ⟨rfl, hb2⟩
      rw [Hcm.out]
      obtain ⟨hc2, hf2⟩ := bcell hb2
      have hz2 : w.heap.size + 1 < w2.heap.size := by have := hb2.size; omega
      have hy2 : w.heap.size < w2.heap.size := by omega
      go_wp2_with fail
      refine bodyPost_ret (v := litV p) ?_ rfl ⟨rfl, ?_⟩
      · rw [Hfin.out]
        have g : ∀ o, w2.cell? ⟨w.heap.size, o, none⟩ = (w.alloc (.cells #[.int .u8 0, .string ⟨#[]⟩, .string ⟨#[]⟩, .string ⟨#[]⟩, .bool false] 40)).cell? ⟨w.heap.size, o, none⟩ := fun o => by
          rw [hc2 _ _ hy, hc1 _ _ (by simp; omega), World.cell?_alloc_past _ _ _ (by simp)]
        have g0 := g 0
        have g1 := g 1
        have g2 := g 2
        have g3 := g 3
        have g4 := g 4
        rw [World.cell?_alloc_at _ _ _ _ rfl] at g0 g1 g2 g3 g4
        clear g hc1 hc2 hf1 hf2
        simp [results, Tryz.results19, go_sem, g0, g1, g2, g3, g4]
      · have q : Below w.heap.size w w2 := (((Below.refl _ _).alloc (Nat.le_refl _) _).alloc (by simp) _).trans ((hb1.mono (by simp; omega)).trans (hb2.mono (by omega)))
        exact ((((((q.setCell (by simp) _).setCell (by simp) _).setCell (by simp) _).setCell (by simp) _).setCell (by simp) _).setCell (by simp) _).setCell (by simp) _
    · clear Hlow
      go_enter Tryz.func19, Tryz.ntmps19
      go_wp2_with fail
      refine (Tryz.strings_CutSuffix s ⟨#[110]⟩ _ hs).mono ?_
      rintro e w' ⟨rfl, hw⟩
      rw [hw]
      clear hw
      rw [show (⟨#[110]⟩ : ByteArray).data.toList = [110] from rfl, Hc.out.1, Hc.out.2, Ht.out]
      clear Hc Ht
      go_wp2_with fail
      refine (index_any t _ htM Hascii.out).mono ?_
      rintro e w1 ⟨rfl, hb1⟩
      rw [Hie.out]
      obtain ⟨hc1, hf1⟩ := bcell hb1
      have hz : w.heap.size + 1 < w1.heap.size := by have := hb1.size; simp at this; omega
      have hy : w.heap.size < w1.heap.size := by omega
      go_wp2_with fail
      refine (cut_any t 46 _ hmM).mono ?_
      rintro e w2 ⟨rfl, hb2⟩
      rw [Hcm.out]
      obtain ⟨hc2, hf2⟩ := bcell hb2
      have hz2 : w.heap.size + 1 < w2.heap.size := by have := hb2.size; omega
      have hy2 : w.heap.size < w2.heap.size := by omega
      go_wp2_with fail
      refine bodyPost_ret (v := litV p) ?_ rfl ⟨rfl, ?_⟩
      · rw [Hfin.out]
        have g : ∀ o, w2.cell? ⟨w.heap.size, o, none⟩ = (w.alloc (.cells #[.int .u8 0, .string ⟨#[]⟩, .string ⟨#[]⟩, .string ⟨#[]⟩, .bool false] 40)).cell? ⟨w.heap.size, o, none⟩ := fun o => by
          rw [hc2 _ _ hy, hc1 _ _ (by simp; omega), World.cell?_alloc_past _ _ _ (by simp)]
        have g0 := g 0
        have g1 := g 1
        have g2 := g 2
        have g3 := g 3
        have g4 := g 4
        rw [World.cell?_alloc_at _ _ _ _ rfl] at g0 g1 g2 g3 g4
        clear g hc1 hc2 hf1 hf2
        simp [results, Tryz.results19, go_sem, g0, g1, g2, g3, g4]
      · have q : Below w.heap.size w w2 := (((Below.refl _ _).alloc (Nat.le_refl _) _).alloc (by simp) _).trans ((hb1.mono (by simp; omega)).trans (hb2.mono (by omega)))
        exact ((((((q.setCell (by simp) _).setCell (by simp) _).setCell (by simp) _).setCell (by simp) _).setCell (by simp) _).setCell (by simp) _).setCell (by simp) _
  | true =>
    have hpw := d.pow hx
    have Hfin : Hid (litV p = .agg #[.int .u8 0, .string ⟨p.whole.toArray⟩, .string ⟨p.frac.toArray⟩, .string ⟨(p.sgn ++ p.pow).toArray⟩, .bool p.big]) := Lib.hid (by rw [litV, hbase]; rfl)
    have hbd : bodyL e p = mantL p ++ e :: (p.sgn ++ p.pow) := by rw [bodyL, expT', hx, if_pos rfl]
    have hk : (mantL p).length + 1 ≤ t.size := by rw [hts, hbd, List.length_append, List.length_cons]; omega
    have h1 : 1 < t.size := by
      rw [hts, hbd]
      have : 0 < p.pow.length := List.length_pos_iff.2 hpw.2.1
      simp
      omega
    have He1 : Hid (t.extract 0 (mantL p).length = m) := Lib.hid (by rw [take_str, htl, hbd, List.take_left, hm])
    have He2 : Hid (t.extract ((mantL p).length + 1) t.size = ⟨(p.sgn ++ p.pow).toArray⟩) := Lib.hid (by rw [drop_str, htl, hbd, ← List.drop_drop, List.drop_left, List.drop_one, List.tail_cons])
    rw [hx, if_pos rfl] at Hie
    clear hpw hx hm ht hlow hie hcm hl hl2 hc htl hml hts hms hbl hmb hbase hbd
    generalize (mantL p).length = k at *
    have Hr := Lib.hid (radz _ (Hlow.out h1))
    have hrb := rad_le (lowN t[1])
    · skip
      go_enter Tryz.func19, Tryz.ntmps19
      go_wp2_with fail
      refine (Tryz.strings_CutSuffix s ⟨#[110]⟩ _ hs).mono ?_
      rintro e w' ⟨rfl, hw⟩
      rw [hw]
      clear hw
      rw [show (⟨#[110]⟩ : ByteArray).data.toList = [110] from rfl, Hc.out.1, Hc.out.2, Ht.out]
      clear Hc Ht
      go_wp2_with fail
      refine (lower_any _ _).mono ?_
      rintro e w1 ⟨rfl, rfl⟩
      go_wp2_with fail
      refine (radix_any _ _).mono ?_
      rintro e w1 ⟨rfl, rfl⟩
      have hr := Hr.out
      go_wp2_with fail
      refine (index_any t _ htM Hascii.out).mono ?_
      rintro e w1 ⟨rfl, hb1⟩
      rw [Hie.out]
      obtain ⟨hc1, hf1⟩ := bcell hb1
      have hz : w.heap.size + 1 < w1.heap.size := by have := hb1.size; simp at this; omega
      have hy : w.heap.size < w1.heap.size := by omega
      go_wp2_with fail
      go_region
      go_wp2_with fail
      rw [He1.out, He2.out]
      refine (cut_any m 46 _ hmM).mono ?_
      rintro e w2 ⟨rfl, hb2⟩
      rw [Hcm.out]
      obtain ⟨hc2, hf2⟩ := bcell hb2
      have hz2 : w.heap.size + 1 < w2.heap.size := by have := hb2.size; simp at this; omega
      have hy2 : w.heap.size < w2.heap.size := by omega
      clear He1 He2 Hcm
      go_wp2_with fail
      refine bodyPost_ret (v := litV p) ?_ rfl ⟨rfl, ?_⟩
      · rw [Hfin.out]
        have g : ∀ o, w2.cell? ⟨w.heap.size, o, none⟩ = (w.alloc (.cells #[.int .u8 0, .string ⟨#[]⟩, .string ⟨#[]⟩, .string ⟨#[]⟩, .bool false] 40)).cell? ⟨w.heap.size, o, none⟩ := fun o => by
          rw [hc2 _ _ (by simpa using hy), World.cell?_drew, World.cell?_setCell_other _ _ _ _ (by simp), hc1 _ _ (by simp; omega), World.cell?_alloc_past _ _ _ (by simp)]
        have g0 := g 0
        have g1 := g 1
        have g2 := g 2
        have g3 := g 3
        have g4 := g 4
        rw [World.cell?_alloc_at _ _ _ _ rfl] at g0 g1 g2 g3 g4
        clear g hc1 hc2 hf1 hf2
        simp [results, Tryz.results19, go_sem, g0, g1, g2, g3, g4]
      · have q1 : Below w.heap.size w w1 := (((Below.refl _ _).alloc (Nat.le_refl _) _).alloc (by simp) _).trans (hb1.mono (by simp; omega))
        have q : Below w.heap.size w w2 := ((q1.setCell (by simp) _).drew).trans (hb2.mono (by simp; omega))
        exact ((((((q.setCell (by simp) _).setCell (by simp) _).setCell (by simp) _).setCell (by simp) _).setCell (by simp) _).setCell (by simp) _).setCell (by simp) _

theorem split_any (s : ByteArray) (p : Parts) (w : World) (hs : s.size ≤ maxLen) (hp : ofL s.data.toList = some p) :
    Calls Tryz.prog 19 #[.string s] w fun e w' => e = .returned (litV p) ∧ Below w.heap.size w w' := by
  rcases ofL_of _ _ hp with ⟨d, b, hb, hl⟩ | ⟨d, e, he, hl⟩
  · exact split_bas s p b w hs d hb hl
  · exact split_dec s p e w hs d he hl

end Num
end Go.Proofs.YtinjaopgnlpncaaGreatDoor
