/-
  No cell of these rows narrows 'for every input' (looked for: loops, veiled, ifaces, maps, wideKeys, modest, calm, conditions, laid).
  DERIVED. THE GIVEN ROWS OF THIS SEAT. 7 by the template 'for every input the law returns true; each argument reads behind the call as it read before'; 0 by the template 'total and deterministic' (their statements: YtpolgmjikelmiaaTotals.lean).
  GIVEN WITH THE SEED: the statements are not yours to turn. If you find one false, say at which input.
  Laid BY PROGRAM, IN A SANDBOX (cutbox-rows.mjs): the forced cells as the released guide's own fill.sh prints them over the translation f6f33845021b4ac6… (all of the seat's roots in one cut). By AI agents, Wed Nov 11 2026. No macro, syntax, notation, axiom, sorry.
-/
import Derived.Test.YtpolgmjikelmiaaChecked
import GoSem.Claim
import GoSem.ClaimJoined
import GoSem.ClaimMapViews
import Derived.JoinedTies
import Derived.KernelRfl
namespace Go.Proofs.Ytpolgmjikelmiaa
/- THE CELL 'sum', in the pinned program and in every row, IS THE sha256 OF THE DUMP (.gsa) THAT YtpolgmjikelmiaaProg.lean LOADS. Nothing in Lean hashes anything: it is a label: what it is worth is what the hold of that sum in a sandbox is worth. -/
noncomputable def Try.pinned : Pinned := { name := "ytpolgmjikelmiaa", sum := "f6f33845021b4ac6ef35e1de074ae5ed0f97fdd2ab94bcd639b94b39771e4ac0", checked := Try.checked }
namespace Rows
def none {H : Type} : Left H := { results := [], args := [] }

/-- 'platenlaw1.UniValids': WHATEVER THE INPUT: true; the input reads as it did. -/
def uniValidsSpec : ChangeSpec := { name := "uniValids", fn := fun _ => fun
  | [d] => { results := [.lit (.bool true)], args := [d] }
  | _ => none }
def uniValidsRow : OpenClaim := { program := "ytpolgmjikelmiaa", sum := "f6f33845021b4ac6ef35e1de074ae5ed0f97fdd2ab94bcd639b94b39771e4ac0", func := "platen/platenlaw1.UniValids", spec := "uniValids", apart := false }
def UniValidsSaid : Prop := uniValidsRow.holds Try.pinned (OpenSpec.ofChange uniValidsSpec)

/-- ITS FALSE NEIGHBOUR: 'it returns false'. Refute it at one input. -/
def uniValidsWrong : ChangeSpec := { name := "uniValids", fn := fun _ => fun
  | [d] => { results := [.lit (.bool false)], args := [d] }
  | _ => none }
def UniValidsWrongFalsely : Prop := uniValidsRow.holds Try.pinned (OpenSpec.ofChange uniValidsWrong)

/-- 'platenlaw1.UniRunes': WHATEVER THE INPUT: true; the input reads as it did. -/
def uniRunesSpec : ChangeSpec := { name := "uniRunes", fn := fun _ => fun
  | [d] => { results := [.lit (.bool true)], args := [d] }
  | _ => none }
def uniRunesRow : OpenClaim := { program := "ytpolgmjikelmiaa", sum := "f6f33845021b4ac6ef35e1de074ae5ed0f97fdd2ab94bcd639b94b39771e4ac0", func := "platen/platenlaw1.UniRunes", spec := "uniRunes", apart := false }
def UniRunesSaid : Prop := uniRunesRow.holds Try.pinned (OpenSpec.ofChange uniRunesSpec)

/-- ITS FALSE NEIGHBOUR: 'it returns false'. Refute it at one input. -/
def uniRunesWrong : ChangeSpec := { name := "uniRunes", fn := fun _ => fun
  | [d] => { results := [.lit (.bool false)], args := [d] }
  | _ => none }
def UniRunesWrongFalsely : Prop := uniRunesRow.holds Try.pinned (OpenSpec.ofChange uniRunesWrong)

/-- 'platenlaw1.UniWidths': WHATEVER THE INPUT: true; the input reads as it did. -/
def uniWidthsSpec : ChangeSpec := { name := "uniWidths", fn := fun _ => fun
  | [d] => { results := [.lit (.bool true)], args := [d] }
  | _ => none }
def uniWidthsRow : OpenClaim := { program := "ytpolgmjikelmiaa", sum := "f6f33845021b4ac6ef35e1de074ae5ed0f97fdd2ab94bcd639b94b39771e4ac0", func := "platen/platenlaw1.UniWidths", spec := "uniWidths", apart := false }
def UniWidthsSaid : Prop := uniWidthsRow.holds Try.pinned (OpenSpec.ofChange uniWidthsSpec)

/-- ITS FALSE NEIGHBOUR: 'it returns false'. Refute it at one input. -/
def uniWidthsWrong : ChangeSpec := { name := "uniWidths", fn := fun _ => fun
  | [d] => { results := [.lit (.bool false)], args := [d] }
  | _ => none }
def UniWidthsWrongFalsely : Prop := uniWidthsRow.holds Try.pinned (OpenSpec.ofChange uniWidthsWrong)

/-- 'platenlaw1.UniKinds': WHATEVER THE INPUT: true; the input reads as it did. -/
def uniKindsSpec : ChangeSpec := { name := "uniKinds", fn := fun _ => fun
  | [d] => { results := [.lit (.bool true)], args := [d] }
  | _ => none }
def uniKindsRow : OpenClaim := { program := "ytpolgmjikelmiaa", sum := "f6f33845021b4ac6ef35e1de074ae5ed0f97fdd2ab94bcd639b94b39771e4ac0", func := "platen/platenlaw1.UniKinds", spec := "uniKinds", apart := false }
def UniKindsSaid : Prop := uniKindsRow.holds Try.pinned (OpenSpec.ofChange uniKindsSpec)

/-- ITS FALSE NEIGHBOUR: 'it returns false'. Refute it at one input. -/
def uniKindsWrong : ChangeSpec := { name := "uniKinds", fn := fun _ => fun
  | [d] => { results := [.lit (.bool false)], args := [d] }
  | _ => none }
def UniKindsWrongFalsely : Prop := uniKindsRow.holds Try.pinned (OpenSpec.ofChange uniKindsWrong)

/-- 'platenlaw1.UniJoins': WHATEVER THE INPUT: true; the input reads as it did. -/
def uniJoinsSpec : ChangeSpec := { name := "uniJoins", fn := fun _ => fun
  | [d1, d2] => { results := [.lit (.bool true)], args := [d1, d2] }
  | _ => none }
def uniJoinsRow : OpenClaim := { program := "ytpolgmjikelmiaa", sum := "f6f33845021b4ac6ef35e1de074ae5ed0f97fdd2ab94bcd639b94b39771e4ac0", func := "platen/platenlaw1.UniJoins", spec := "uniJoins", apart := false }
def UniJoinsSaid : Prop := uniJoinsRow.holds Try.pinned (OpenSpec.ofChange uniJoinsSpec)

/-- ITS FALSE NEIGHBOUR: 'it returns false'. Refute it at one input. -/
def uniJoinsWrong : ChangeSpec := { name := "uniJoins", fn := fun _ => fun
  | [d1, d2] => { results := [.lit (.bool false)], args := [d1, d2] }
  | _ => none }
def UniJoinsWrongFalsely : Prop := uniJoinsRow.holds Try.pinned (OpenSpec.ofChange uniJoinsWrong)

/-- 'platenlaw1.UniRanges': WHATEVER THE INPUT: true; the input reads as it did. -/
def uniRangesSpec : ChangeSpec := { name := "uniRanges", fn := fun _ => fun
  | [d1, d2] => { results := [.lit (.bool true)], args := [d1, d2] }
  | _ => none }
def uniRangesRow : OpenClaim := { program := "ytpolgmjikelmiaa", sum := "f6f33845021b4ac6ef35e1de074ae5ed0f97fdd2ab94bcd639b94b39771e4ac0", func := "platen/platenlaw1.UniRanges", spec := "uniRanges", apart := false }
def UniRangesSaid : Prop := uniRangesRow.holds Try.pinned (OpenSpec.ofChange uniRangesSpec)

/-- ITS FALSE NEIGHBOUR: 'it returns false'. Refute it at one input. -/
def uniRangesWrong : ChangeSpec := { name := "uniRanges", fn := fun _ => fun
  | [d1, d2] => { results := [.lit (.bool false)], args := [d1, d2] }
  | _ => none }
def UniRangesWrongFalsely : Prop := uniRangesRow.holds Try.pinned (OpenSpec.ofChange uniRangesWrong)

/-- 'platenlaw1.UniCuts': WHATEVER THE INPUT: true; the input reads as it did. -/
def uniCutsSpec : ChangeSpec := { name := "uniCuts", fn := fun _ => fun
  | [d1, d2] => { results := [.lit (.bool true)], args := [d1, d2] }
  | _ => none }
def uniCutsRow : OpenClaim := { program := "ytpolgmjikelmiaa", sum := "f6f33845021b4ac6ef35e1de074ae5ed0f97fdd2ab94bcd639b94b39771e4ac0", func := "platen/platenlaw1.UniCuts", spec := "uniCuts", apart := false }
def UniCutsSaid : Prop := uniCutsRow.holds Try.pinned (OpenSpec.ofChange uniCutsSpec)

/-- ITS FALSE NEIGHBOUR: 'it returns false'. Refute it at one input. -/
def uniCutsWrong : ChangeSpec := { name := "uniCuts", fn := fun _ => fun
  | [d1, d2] => { results := [.lit (.bool false)], args := [d1, d2] }
  | _ => none }
def UniCutsWrongFalsely : Prop := uniCutsRow.holds Try.pinned (OpenSpec.ofChange uniCutsWrong)

/- THE SECOND FORM. 'bulk': how many values and letters a reading holds, each counted each time it is reached (what is shared counts as often as it is met; a slice's spare places count too). A statement '..UptoSaid' is the law's where the arguments, and the package variables that the reading takes, are together of bulk at most 1048576: NARROWER than '..Said'. Prove '..Said' where nothing that the law and all that it calls make is longer than what came in: it says more and counts as full. Else prove '..UptoSaid'. A law counts once. -/
mutual
def uptoBulk {H : Type} : DataW H → Nat
  | .lit (.string bytes) => bytes.length + 1
  | .lit _ => 1
  | .nil => 1
  | .ptr d => uptoBulk d + 1
  | .slice elems spare => uptoBulkAll elems + uptoBulkAll spare + 1
  | .agg parts => uptoBulkAll parts + 1
  | .iface _ d => uptoBulk d + 1
  | .map entries => uptoBulkEntries entries + 1
  | .held _ => 1
def uptoBulkAll {H : Type} : List (DataW H) → Nat
  | [] => 0
  | d :: r => uptoBulk d + uptoBulkAll r
def uptoBulkEntries {H : Type} : List (Lit × DataW H) → Nat
  | [] => 0
  | x :: r => uptoBulkEntry x + uptoBulkEntries r
def uptoBulkEntry {H : Type} : Lit × DataW H → Nat
  | (.string bytes, d) => bytes.length + uptoBulk d + 1
  | (_, d) => uptoBulk d + 1
 end
def uptoSmall : (H : Type) → List (DataW H) → Bool := fun _ ds => decide (uptoBulkAll ds ≤ 1048576)
def OpenSpec.upto (s : _root_.Go.ChangeSpec) : _root_.Go.OpenSpec := { _root_.Go.OpenSpec.ofChange s with cond := some uptoSmall }

/-- 'platenlaw1.UniValids', WHERE WHAT IT READS IS OF BULK AT MOST 1048576: true; the input reads as it did. -/
def uniValidsUptoRow : OpenClaim := { program := "ytpolgmjikelmiaa", sum := "f6f33845021b4ac6ef35e1de074ae5ed0f97fdd2ab94bcd639b94b39771e4ac0", func := "platen/platenlaw1.UniValids", spec := "uniValids", apart := false, narrowed := true }
def UniValidsUptoSaid : Prop := uniValidsUptoRow.holds Try.pinned (OpenSpec.upto uniValidsSpec)

/-- 'platenlaw1.UniRunes', WHERE WHAT IT READS IS OF BULK AT MOST 1048576: true; the input reads as it did. -/
def uniRunesUptoRow : OpenClaim := { program := "ytpolgmjikelmiaa", sum := "f6f33845021b4ac6ef35e1de074ae5ed0f97fdd2ab94bcd639b94b39771e4ac0", func := "platen/platenlaw1.UniRunes", spec := "uniRunes", apart := false, narrowed := true }
def UniRunesUptoSaid : Prop := uniRunesUptoRow.holds Try.pinned (OpenSpec.upto uniRunesSpec)

/-- 'platenlaw1.UniWidths', WHERE WHAT IT READS IS OF BULK AT MOST 1048576: true; the input reads as it did. -/
def uniWidthsUptoRow : OpenClaim := { program := "ytpolgmjikelmiaa", sum := "f6f33845021b4ac6ef35e1de074ae5ed0f97fdd2ab94bcd639b94b39771e4ac0", func := "platen/platenlaw1.UniWidths", spec := "uniWidths", apart := false, narrowed := true }
def UniWidthsUptoSaid : Prop := uniWidthsUptoRow.holds Try.pinned (OpenSpec.upto uniWidthsSpec)

/-- 'platenlaw1.UniKinds', WHERE WHAT IT READS IS OF BULK AT MOST 1048576: true; the input reads as it did. -/
def uniKindsUptoRow : OpenClaim := { program := "ytpolgmjikelmiaa", sum := "f6f33845021b4ac6ef35e1de074ae5ed0f97fdd2ab94bcd639b94b39771e4ac0", func := "platen/platenlaw1.UniKinds", spec := "uniKinds", apart := false, narrowed := true }
def UniKindsUptoSaid : Prop := uniKindsUptoRow.holds Try.pinned (OpenSpec.upto uniKindsSpec)

/-- 'platenlaw1.UniJoins', WHERE WHAT IT READS IS OF BULK AT MOST 1048576: true; the input reads as it did. -/
def uniJoinsUptoRow : OpenClaim := { program := "ytpolgmjikelmiaa", sum := "f6f33845021b4ac6ef35e1de074ae5ed0f97fdd2ab94bcd639b94b39771e4ac0", func := "platen/platenlaw1.UniJoins", spec := "uniJoins", apart := false, narrowed := true }
def UniJoinsUptoSaid : Prop := uniJoinsUptoRow.holds Try.pinned (OpenSpec.upto uniJoinsSpec)

/-- 'platenlaw1.UniRanges', WHERE WHAT IT READS IS OF BULK AT MOST 1048576: true; the input reads as it did. -/
def uniRangesUptoRow : OpenClaim := { program := "ytpolgmjikelmiaa", sum := "f6f33845021b4ac6ef35e1de074ae5ed0f97fdd2ab94bcd639b94b39771e4ac0", func := "platen/platenlaw1.UniRanges", spec := "uniRanges", apart := false, narrowed := true }
def UniRangesUptoSaid : Prop := uniRangesUptoRow.holds Try.pinned (OpenSpec.upto uniRangesSpec)

/-- 'platenlaw1.UniCuts', WHERE WHAT IT READS IS OF BULK AT MOST 1048576: true; the input reads as it did. -/
def uniCutsUptoRow : OpenClaim := { program := "ytpolgmjikelmiaa", sum := "f6f33845021b4ac6ef35e1de074ae5ed0f97fdd2ab94bcd639b94b39771e4ac0", func := "platen/platenlaw1.UniCuts", spec := "uniCuts", apart := false, narrowed := true }
def UniCutsUptoSaid : Prop := uniCutsUptoRow.holds Try.pinned (OpenSpec.upto uniCutsSpec)

end Rows
end Go.Proofs.Ytpolgmjikelmiaa
