/-
  What is left is an end of what was there.
-/
import Derived.Test.YtggibhlmnfodaaaDoorLexLoc
namespace Go.Proofs.YtggibhlmnfodaaaDoor
namespace Lex
open Go.RowKit
open Str (lenL runeL)

theorem drop_suf (l : List UInt8) (k : Nat) : l.drop k <:+ l := List.drop_suffix _ _
theorem parts_suf (d : Bool) (l : List UInt8) : (parts d l).2 <:+ l := by
  refine loop_all (falls_parts d) (999, []) (fun _ l b => b.2 <:+ l) ?_ ?_ () l
  · intro _ l b h
    unfold partsS at h
    revert h
    repeat' split
    all_goals (intro h; cases h; try exact List.suffix_refl _)
  · intro _ l _ l' b h ih
    unfold partsS at h
    revert h
    repeat' split
    all_goals (intro h; cases h; try exact ih.trans (tl_suf l))
theorem toq_suf (q : Int) (l : List UInt8) : (toq q l).2 <:+ l := by
  refine loop_all (falls_toq q) (999, []) (fun _ l b => b.2 <:+ l) ?_ ?_ () l
  · intro _ l b h
    unfold toqS at h
    revert h
    repeat' split
    all_goals (intro h; cases h; first | exact List.suffix_refl _ | exact tl_suf l | skip)
  · intro _ l _ l' b h ih
    unfold toqS at h
    revert h
    repeat' split
    all_goals (intro h; cases h; first | exact ih.trans (tl_suf l) | exact ih.trans ((drop_suf _ _).trans (tl_suf l)) | skip)
theorem reg_suf (s : Bool × Bool) (l : List UInt8) : (loop regS (999, []) s l).2 <:+ l := by
  refine loop_all falls_reg (999, []) (fun _ l b => b.2 <:+ l) ?_ ?_ s l
  · intro _ l b h
    unfold regS at h
    revert h
    repeat' split
    all_goals (intro h; cases h; first | exact List.suffix_refl _ | exact tl_suf l | skip)
  · intro _ l _ l' b h ih
    unfold regS at h
    revert h
    repeat' split
    all_goals (intro h; cases h; first | exact ih.trans (tl_suf l) | skip)
theorem tem_suf (x y : Int) (l : List UInt8) : (tem x y l).2.2 <:+ l := by
  refine loop_all (falls_tem x y) (0, 999, []) (fun _ l b => b.2.2 <:+ l) ?_ ?_ () l
  · intro _ l b h
    unfold temS at h
    revert h
    repeat' split
    all_goals (intro h; cases h; first | exact List.suffix_refl _ | exact tl_suf l | exact drop_suf _ _ | skip)
  · intro _ l _ l' b h ih
    unfold temS at h
    revert h
    repeat' split
    all_goals (intro h; cases h; first | exact ih.trans (tl_suf l) | exact ih.trans ((tl_suf _).trans (tl_suf l)) | skip)
theorem att_suf (q : Int) (l : List UInt8) : (att q l).2.2 <:+ l := by
  refine loop_all (falls_att q) (0, 999, []) (fun _ l b => b.2.2 <:+ l) ?_ ?_ () l
  · intro _ l b h
    unfold attS at h
    revert h
    repeat' split
    all_goals (intro h; cases h; first | exact List.suffix_refl _ | exact tl_suf l | skip)
  · intro _ l _ l' b h ih
    unfold attS at h
    revert h
    repeat' split
    all_goals (intro h; cases h; first | exact ih.trans (tl_suf l) | skip)
theorem chi_suf (l : List UInt8) : (chi l).2.2 <:+ l := by
  refine loop_all falls_chi (0, 999, []) (fun _ l b => b.2.2 <:+ l) ?_ ?_ () l
  · intro _ l b h
    unfold chiS at h
    revert h
    repeat' split
    all_goals (intro h; cases h; first | exact List.suffix_refl _ | exact tl_suf l | skip)
  · intro _ l _ l' b h ih
    unfold chiS at h
    revert h
    repeat' split
    all_goals (intro h; cases h; first | exact ih.trans (tl_suf l) | skip)
theorem lin_suf (l : List UInt8) : (lin l).2 <:+ l := by
  refine loop_all falls_lin (999, []) (fun _ l b => b.2 <:+ l) ?_ ?_ () l
  · intro _ l b h
    unfold linS at h
    revert h
    repeat' split
    all_goals (intro h; cases h; first | exact List.suffix_refl _ | exact tl_suf l | skip)
  · intro _ l _ l' b h ih
    unfold linS at h
    revert h
    repeat' split
    all_goals (intro h; cases h; first | exact ih.trans (tl_suf l) | skip)
theorem blk_suf (x : Bool) (l : List UInt8) : (blk x l).2.2 <:+ l := by
  refine loop_all falls_blk (999, false, []) (fun _ l b => b.2.2 <:+ l) ?_ ?_ x l
  · intro _ l b h
    unfold blkS at h
    revert h
    repeat' split
    all_goals (intro h; cases h; first | exact List.suffix_refl _ | exact tl_suf l | exact drop_suf _ _ | skip)
  · intro _ l _ l' b h ih
    unfold blkS at h
    revert h
    repeat' split
    all_goals (intro h; cases h; first | exact ih.trans (tl_suf l) | skip)
theorem digs_suf (l : List UInt8) : (digsP l).2 <:+ l := by
  induction l with
  | nil => exact List.suffix_refl _
  | cons x t ih =>
    rw [digsP]
    split
    · exact ih.trans (List.suffix_cons _ _)
    split
    · exact List.suffix_refl _
    · exact ih.trans (List.suffix_cons _ _)
theorem tail_sufx (l : List UInt8) : l.tail <:+ l := List.tail_suffix l
theorem reachW_suf (l : List UInt8) : reachW l <:+ l := by
  unfold reachW
  split
  · exact (digs_suf _).trans ((tail_sufx _).trans (digs_suf l))
  · exact digs_suf l
theorem reachQ_suf (t m : List UInt8) : reachQ t m <:+ m := by
  unfold reachQ
  split
  · exact List.suffix_refl _
  split
  · exact (digs_suf _).trans (tail_sufx _)
  · exact List.suffix_refl _
theorem reach_suf (l : List UInt8) : reachP l <:+ l := (reachQ_suf _ _).trans (reachW_suf l)
theorem litR_suf (l : List UInt8) : (litR l).2 <:+ l := (toq_suf _ _).trans (tl_suf l)
theorem lit_le (t : List UInt8) : (Str.litL t).1 ≤ t.length := by
  cases t with
  | nil => exact Nat.zero_le _
  | cons q l =>
    rw [Str.litL]
    have h := Str.scan_le q l.length l (Nat.le_refl _)
    split
    · split
      · simp only [List.length_cons]; omega
      · split
        · simp only [List.length_cons]; omega
        · exact Nat.zero_le _
    · exact Nat.zero_le _

/-- What is left is an end of what was there. -/
abbrev Sf (l : List UInt8) (r : Out) : Prop := r.2.2 <:+ l
theorem sf_here (l : List UInt8) (a b : Int) : Sf l (a, b, l) := List.suffix_refl l
theorem name_sf (d : Bool) (l : List UInt8) : Sf l (nameP d l) := by
  unfold nameP
  split
  · exact parts_suf d l
  split <;> exact sf_here _ _ _
theorem priv_sf (l : List UInt8) : Sf l (privP l) := by
  unfold privP
  split
  · exact tail_sufx l
  split
  · exact sf_here _ _ _
  · exact (parts_suf false _).trans (tail_sufx l)
theorem num_sf (l : List UInt8) : Sf l (numP l) := by
  unfold numP
  split
  · exact sf_here _ _ _
  split
  · exact reach_suf l
  split
  · exact sf_here _ _ _
  · exact reach_suf l
theorem litP_sf (l : List UInt8) : Sf l (litP l) := by
  unfold litP
  split
  · exact litR_suf l
  split
  · exact litR_suf l
  · exact drop_suf _ _
theorem regex_sf (l : List UInt8) : Sf l (regexP l) := by
  have h : (reg l.tail).2 <:+ l := (reg_suf _ _).trans (tail_sufx l)
  unfold regexP regexQ
  split
  · exact sf_here _ _ _
  split
  · exact (parts_suf false _).trans h
  · exact h
theorem back_sf (c : Int) {l : List UInt8} {r : Out} (h : Sf l r) : Sf l (backTo c l r) := by
  unfold backTo
  split
  · exact sf_here _ _ _
  · exact h
theorem template_sf (a b : Int) (l : List UInt8) : Sf l (templateP a b l) := back_sf _ ((tem_suf a b _).trans (tail_sufx l))
theorem attr_sf (l : List UInt8) : Sf l (attrP l) := back_sf _ ((att_suf _ _).trans (tl_suf l))
theorem tag_sf (l : List UInt8) : Sf l (tagP l) := by
  unfold tagP
  split
  · exact sf_here _ _ _
  split
  · exact tl_suf l
  split
  · exact attr_sf l
  · exact name_sf _ l
theorem child_sf (l : List UInt8) : Sf l (childP l) := by
  unfold childP
  split
  · exact sf_here _ _ _
  split
  · exact tl_suf l
  split
  · exact sf_here _ _ _
  · exact chi_suf l
theorem pun_sf (l : List UInt8) : Sf l (punP l) := drop_suf _ _
theorem common_sf (x : Bool) (l : List UInt8) : Sf l (commonP x l) := by
  unfold commonP
  split
  · exact sf_here _ _ _
  split
  · exact litP_sf l
  split
  · exact template_sf _ _ l
  split
  · exact priv_sf l
  split
  · split
    · exact num_sf l
    · exact pun_sf l
  split
  · exact num_sf l
  split
  · split
    · exact regex_sf l
    · exact pun_sf l
  split
  · exact pun_sf l
  · exact name_sf _ l
theorem token_sf (g : Int) (l : List UInt8) : Sf l (tokenP g l) := by
  unfold tokenP
  split
  · exact template_sf _ _ l
  split
  · exact child_sf l
  split
  · exact tag_sf l
  · exact common_sf _ l
theorem comP_suf (k : Nat) (b : Bool) (l : List UInt8) : (comP k b l).2.2 <:+ l := by
  unfold comP
  split
  · unfold blockQ
    split
    · exact List.suffix_refl _
    · exact (blk_suf b _).trans (drop_suf _ _)
  · exact lin_suf l

end Lex
end Go.Proofs.YtggibhlmnfodaaaDoor
