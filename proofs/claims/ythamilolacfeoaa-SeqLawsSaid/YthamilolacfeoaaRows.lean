/-
  No cell of these rows narrows 'for every input' (looked for: loops, veiled, ifaces, maps, wideKeys, modest, calm, conditions, laid).
  DERIVED. THE GIVEN ROWS OF THIS SEAT. 9 by the template 'for every input the law returns true; each argument reads behind the call as it read before'; 0 by the template 'total and deterministic' (their statements: YthamilolacfeoaaTotals.lean).
  GIVEN WITH THE SEED: the statements are not yours to turn. If you find one false, say at which input.
  Laid BY PROGRAM, IN A SANDBOX (cutbox-rows.mjs): the forced cells as the released guide's own fill.sh prints them over the translation cc0ed0c76a80212a… (all of the seat's roots in one cut). By AI agents, Wed Nov 11 2026. No macro, syntax, notation, axiom, sorry.
-/
import Derived.Test.YthamilolacfeoaaChecked
import GoSem.Claim
import GoSem.ClaimJoined
import GoSem.ClaimMapViews
import Derived.JoinedTies
import Derived.KernelRfl
namespace Go.Proofs.Ythamilolacfeoaa
/- THE CELL 'sum', in the pinned program and in every row, IS THE sha256 OF THE DUMP (.gsa) THAT YthamilolacfeoaaProg.lean LOADS. Nothing in Lean hashes anything: it is a label: what it is worth is what the hold of that sum in a sandbox is worth. -/
noncomputable def Try.pinned : Pinned := { name := "ythamilolacfeoaa", sum := "cc0ed0c76a80212a556f269ac24b29ddee1cf72c30d4a5d41553f325af1dba03", checked := Try.checked }
namespace Rows
def none {H : Type} : Left H := { results := [], args := [] }

/-- 'quantumlaw09.SeqTells': WHATEVER THE INPUT: true; the input reads as it did. -/
def seqTellsSpec : ChangeSpec := { name := "seqTells", fn := fun _ => fun
  | [d1, d2, d3] => { results := [.lit (.bool true)], args := [d1, d2, d3] }
  | _ => none }
def seqTellsRow : OpenClaim := { program := "ythamilolacfeoaa", sum := "cc0ed0c76a80212a556f269ac24b29ddee1cf72c30d4a5d41553f325af1dba03", func := "quantum/quantumlaw09.SeqTells", spec := "seqTells", unfollowed := true, recurses := true, apart := false }
def SeqTellsSaid : Prop := seqTellsRow.holds Try.pinned (OpenSpec.ofChange seqTellsSpec)

/-- ITS FALSE NEIGHBOUR: 'it returns false'. Refute it at one input. -/
def seqTellsWrong : ChangeSpec := { name := "seqTells", fn := fun _ => fun
  | [d1, d2, d3] => { results := [.lit (.bool false)], args := [d1, d2, d3] }
  | _ => none }
def SeqTellsWrongFalsely : Prop := seqTellsRow.holds Try.pinned (OpenSpec.ofChange seqTellsWrong)

/-- 'quantumlaw09.SeqPairs': WHATEVER THE INPUT: true; the input reads as it did. -/
def seqPairsSpec : ChangeSpec := { name := "seqPairs", fn := fun _ => fun
  | [d1, d2] => { results := [.lit (.bool true)], args := [d1, d2] }
  | _ => none }
def seqPairsRow : OpenClaim := { program := "ythamilolacfeoaa", sum := "cc0ed0c76a80212a556f269ac24b29ddee1cf72c30d4a5d41553f325af1dba03", func := "quantum/quantumlaw09.SeqPairs", spec := "seqPairs", unfollowed := true, recurses := true, apart := false }
def SeqPairsSaid : Prop := seqPairsRow.holds Try.pinned (OpenSpec.ofChange seqPairsSpec)

/-- ITS FALSE NEIGHBOUR: 'it returns false'. Refute it at one input. -/
def seqPairsWrong : ChangeSpec := { name := "seqPairs", fn := fun _ => fun
  | [d1, d2] => { results := [.lit (.bool false)], args := [d1, d2] }
  | _ => none }
def SeqPairsWrongFalsely : Prop := seqPairsRow.holds Try.pinned (OpenSpec.ofChange seqPairsWrong)

/-- 'quantumlaw09.SeqNumbers': WHATEVER THE INPUT: true; the input reads as it did. -/
def seqNumbersSpec : ChangeSpec := { name := "seqNumbers", fn := fun _ => fun
  | [d] => { results := [.lit (.bool true)], args := [d] }
  | _ => none }
def seqNumbersRow : OpenClaim := { program := "ythamilolacfeoaa", sum := "cc0ed0c76a80212a556f269ac24b29ddee1cf72c30d4a5d41553f325af1dba03", func := "quantum/quantumlaw09.SeqNumbers", spec := "seqNumbers", unfollowed := true, recurses := true, apart := false }
def SeqNumbersSaid : Prop := seqNumbersRow.holds Try.pinned (OpenSpec.ofChange seqNumbersSpec)

/-- ITS FALSE NEIGHBOUR: 'it returns false'. Refute it at one input. -/
def seqNumbersWrong : ChangeSpec := { name := "seqNumbers", fn := fun _ => fun
  | [d] => { results := [.lit (.bool false)], args := [d] }
  | _ => none }
def SeqNumbersWrongFalsely : Prop := seqNumbersRow.holds Try.pinned (OpenSpec.ofChange seqNumbersWrong)

/-- 'quantumlaw09.SeqSmall': WHATEVER THE INPUT: true; the input reads as it did. -/
def seqSmallSpec : ChangeSpec := { name := "seqSmall", fn := fun _ => fun
  | [] => { results := [.lit (.bool true)], args := [] }
  | _ => none }
def seqSmallRow : OpenClaim := { program := "ythamilolacfeoaa", sum := "cc0ed0c76a80212a556f269ac24b29ddee1cf72c30d4a5d41553f325af1dba03", func := "quantum/quantumlaw09.SeqSmall", spec := "seqSmall", unfollowed := true, recurses := true, apart := false }
def SeqSmallSaid : Prop := seqSmallRow.holds Try.pinned (OpenSpec.ofChange seqSmallSpec)

/-- ITS FALSE NEIGHBOUR: 'it returns false'. Refute it at one input. -/
def seqSmallWrong : ChangeSpec := { name := "seqSmall", fn := fun _ => fun
  | [] => { results := [.lit (.bool false)], args := [] }
  | _ => none }
def SeqSmallWrongFalsely : Prop := seqSmallRow.holds Try.pinned (OpenSpec.ofChange seqSmallWrong)

/-- 'quantumlaw09.SeqSets': WHATEVER THE INPUT: true; the input reads as it did. -/
def seqSetsSpec : ChangeSpec := { name := "seqSets", fn := fun _ => fun
  | [d1, d2, d3] => { results := [.lit (.bool true)], args := [d1, d2, d3] }
  | _ => none }
def seqSetsRow : OpenClaim := { program := "ythamilolacfeoaa", sum := "cc0ed0c76a80212a556f269ac24b29ddee1cf72c30d4a5d41553f325af1dba03", func := "quantum/quantumlaw09.SeqSets", spec := "seqSets", unfollowed := true, recurses := true, apart := false }
def SeqSetsSaid : Prop := seqSetsRow.holds Try.pinned (OpenSpec.ofChange seqSetsSpec)

/-- ITS FALSE NEIGHBOUR: 'it returns false'. Refute it at one input. -/
def seqSetsWrong : ChangeSpec := { name := "seqSets", fn := fun _ => fun
  | [d1, d2, d3] => { results := [.lit (.bool false)], args := [d1, d2, d3] }
  | _ => none }
def SeqSetsWrongFalsely : Prop := seqSetsRow.holds Try.pinned (OpenSpec.ofChange seqSetsWrong)

/-- 'quantumlaw09.SeqLaws': WHATEVER THE INPUT: true; the input reads as it did. -/
def seqLawsSpec : ChangeSpec := { name := "seqLaws", fn := fun _ => fun
  | [d1, d2, d3] => { results := [.lit (.bool true)], args := [d1, d2, d3] }
  | _ => none }
def seqLawsRow : OpenClaim := { program := "ythamilolacfeoaa", sum := "cc0ed0c76a80212a556f269ac24b29ddee1cf72c30d4a5d41553f325af1dba03", func := "quantum/quantumlaw09.SeqLaws", spec := "seqLaws", unfollowed := true, recurses := true, apart := false }
def SeqLawsSaid : Prop := seqLawsRow.holds Try.pinned (OpenSpec.ofChange seqLawsSpec)

/-- ITS FALSE NEIGHBOUR: 'it returns false'. Refute it at one input. -/
def seqLawsWrong : ChangeSpec := { name := "seqLaws", fn := fun _ => fun
  | [d1, d2, d3] => { results := [.lit (.bool false)], args := [d1, d2, d3] }
  | _ => none }
def SeqLawsWrongFalsely : Prop := seqLawsRow.holds Try.pinned (OpenSpec.ofChange seqLawsWrong)

/-- 'quantumlaw09.SeqMissing': WHATEVER THE INPUT: true; the input reads as it did. -/
def seqMissingSpec : ChangeSpec := { name := "seqMissing", fn := fun _ => fun
  | [d1, d2, d3] => { results := [.lit (.bool true)], args := [d1, d2, d3] }
  | _ => none }
def seqMissingRow : OpenClaim := { program := "ythamilolacfeoaa", sum := "cc0ed0c76a80212a556f269ac24b29ddee1cf72c30d4a5d41553f325af1dba03", func := "quantum/quantumlaw09.SeqMissing", spec := "seqMissing", unfollowed := true, recurses := true, apart := false }
def SeqMissingSaid : Prop := seqMissingRow.holds Try.pinned (OpenSpec.ofChange seqMissingSpec)

/-- ITS FALSE NEIGHBOUR: 'it returns false'. Refute it at one input. -/
def seqMissingWrong : ChangeSpec := { name := "seqMissing", fn := fun _ => fun
  | [d1, d2, d3] => { results := [.lit (.bool false)], args := [d1, d2, d3] }
  | _ => none }
def SeqMissingWrongFalsely : Prop := seqMissingRow.holds Try.pinned (OpenSpec.ofChange seqMissingWrong)

/-- 'quantumlaw09.SeqOf': WHATEVER THE INPUT: true; the input reads as it did. -/
def seqOfSpec : ChangeSpec := { name := "seqOf", fn := fun _ => fun
  | [d1, d2, d3] => { results := [.lit (.bool true)], args := [d1, d2, d3] }
  | _ => none }
def seqOfRow : OpenClaim := { program := "ythamilolacfeoaa", sum := "cc0ed0c76a80212a556f269ac24b29ddee1cf72c30d4a5d41553f325af1dba03", func := "quantum/quantumlaw09.SeqOf", spec := "seqOf", unfollowed := true, recurses := true, apart := false }
def SeqOfSaid : Prop := seqOfRow.holds Try.pinned (OpenSpec.ofChange seqOfSpec)

/-- ITS FALSE NEIGHBOUR: 'it returns false'. Refute it at one input. -/
def seqOfWrong : ChangeSpec := { name := "seqOf", fn := fun _ => fun
  | [d1, d2, d3] => { results := [.lit (.bool false)], args := [d1, d2, d3] }
  | _ => none }
def SeqOfWrongFalsely : Prop := seqOfRow.holds Try.pinned (OpenSpec.ofChange seqOfWrong)

/-- 'quantumlaw09.SeqWrong': WHATEVER THE INPUT: true; the input reads as it did. -/
def seqWrongSpec : ChangeSpec := { name := "seqWrong", fn := fun _ => fun
  | [d1, d2, d3, d4] => { results := [.lit (.bool true)], args := [d1, d2, d3, d4] }
  | _ => none }
def seqWrongRow : OpenClaim := { program := "ythamilolacfeoaa", sum := "cc0ed0c76a80212a556f269ac24b29ddee1cf72c30d4a5d41553f325af1dba03", func := "quantum/quantumlaw09.SeqWrong", spec := "seqWrong", inPlace := ["slices.overlaps[quantum/seq.Run]"], unfollowed := true, recurses := true, apart := false }
def SeqWrongSaid : Prop := seqWrongRow.holds Try.pinned (OpenSpec.ofChange seqWrongSpec)

/-- ITS FALSE NEIGHBOUR: 'it returns false'. Refute it at one input. -/
def seqWrongWrong : ChangeSpec := { name := "seqWrong", fn := fun _ => fun
  | [d1, d2, d3, d4] => { results := [.lit (.bool false)], args := [d1, d2, d3, d4] }
  | _ => none }
def SeqWrongWrongFalsely : Prop := seqWrongRow.holds Try.pinned (OpenSpec.ofChange seqWrongWrong)

/- THE SECOND FORM. 'bulk': how many values and letters a reading holds, each counted each time it is reached (what is shared counts as often as it is met; a slice's spare places count too). A statement '..UptoSaid' is the law's where the arguments, and the package variables that the reading takes, are together of bulk at most 1048576: NARROWER than '..Said'. Prove '..Said' where nothing that the law and all that it calls make is longer than what came in: it says more and counts as full. Else prove '..UptoSaid'. A law counts once. -/
mutual
def uptoBulk {H : Type} : DataW H → Nat
  | .lit (.string bytes) => bytes.length + 1
  | .lit _ => 1
  | .nil => 1
  | .ptr d => uptoBulk d + 1
  | .slice elems spare => uptoBulkAll elems + uptoBulkAll spare + 1
  | .agg parts => uptoBulkAll parts + 1
  | .iface _ d => uptoBulk d + 1
  | .map entries => uptoBulkEntries entries + 1
  | .held _ => 1
def uptoBulkAll {H : Type} : List (DataW H) → Nat
  | [] => 0
  | d :: r => uptoBulk d + uptoBulkAll r
def uptoBulkEntries {H : Type} : List (Lit × DataW H) → Nat
  | [] => 0
  | x :: r => uptoBulkEntry x + uptoBulkEntries r
def uptoBulkEntry {H : Type} : Lit × DataW H → Nat
  | (.string bytes, d) => bytes.length + uptoBulk d + 1
  | (_, d) => uptoBulk d + 1
 end
def uptoSmall : (H : Type) → List (DataW H) → Bool := fun _ ds => decide (uptoBulkAll ds ≤ 1048576)
def OpenSpec.upto (s : _root_.Go.ChangeSpec) : _root_.Go.OpenSpec := { _root_.Go.OpenSpec.ofChange s with cond := some uptoSmall }

/-- 'quantumlaw09.SeqTells', WHERE WHAT IT READS IS OF BULK AT MOST 1048576: true; the input reads as it did. -/
def seqTellsUptoRow : OpenClaim := { program := "ythamilolacfeoaa", sum := "cc0ed0c76a80212a556f269ac24b29ddee1cf72c30d4a5d41553f325af1dba03", func := "quantum/quantumlaw09.SeqTells", spec := "seqTells", unfollowed := true, recurses := true, apart := false, narrowed := true }
def SeqTellsUptoSaid : Prop := seqTellsUptoRow.holds Try.pinned (OpenSpec.upto seqTellsSpec)

/-- 'quantumlaw09.SeqPairs', WHERE WHAT IT READS IS OF BULK AT MOST 1048576: true; the input reads as it did. -/
def seqPairsUptoRow : OpenClaim := { program := "ythamilolacfeoaa", sum := "cc0ed0c76a80212a556f269ac24b29ddee1cf72c30d4a5d41553f325af1dba03", func := "quantum/quantumlaw09.SeqPairs", spec := "seqPairs", unfollowed := true, recurses := true, apart := false, narrowed := true }
def SeqPairsUptoSaid : Prop := seqPairsUptoRow.holds Try.pinned (OpenSpec.upto seqPairsSpec)

/-- 'quantumlaw09.SeqNumbers', WHERE WHAT IT READS IS OF BULK AT MOST 1048576: true; the input reads as it did. -/
def seqNumbersUptoRow : OpenClaim := { program := "ythamilolacfeoaa", sum := "cc0ed0c76a80212a556f269ac24b29ddee1cf72c30d4a5d41553f325af1dba03", func := "quantum/quantumlaw09.SeqNumbers", spec := "seqNumbers", unfollowed := true, recurses := true, apart := false, narrowed := true }
def SeqNumbersUptoSaid : Prop := seqNumbersUptoRow.holds Try.pinned (OpenSpec.upto seqNumbersSpec)

/-- 'quantumlaw09.SeqSmall', WHERE WHAT IT READS IS OF BULK AT MOST 1048576: true; the input reads as it did. -/
def seqSmallUptoRow : OpenClaim := { program := "ythamilolacfeoaa", sum := "cc0ed0c76a80212a556f269ac24b29ddee1cf72c30d4a5d41553f325af1dba03", func := "quantum/quantumlaw09.SeqSmall", spec := "seqSmall", unfollowed := true, recurses := true, apart := false, narrowed := true }
def SeqSmallUptoSaid : Prop := seqSmallUptoRow.holds Try.pinned (OpenSpec.upto seqSmallSpec)

/-- 'quantumlaw09.SeqSets', WHERE WHAT IT READS IS OF BULK AT MOST 1048576: true; the input reads as it did. -/
def seqSetsUptoRow : OpenClaim := { program := "ythamilolacfeoaa", sum := "cc0ed0c76a80212a556f269ac24b29ddee1cf72c30d4a5d41553f325af1dba03", func := "quantum/quantumlaw09.SeqSets", spec := "seqSets", unfollowed := true, recurses := true, apart := false, narrowed := true }
def SeqSetsUptoSaid : Prop := seqSetsUptoRow.holds Try.pinned (OpenSpec.upto seqSetsSpec)

/-- 'quantumlaw09.SeqLaws', WHERE WHAT IT READS IS OF BULK AT MOST 1048576: true; the input reads as it did. -/
def seqLawsUptoRow : OpenClaim := { program := "ythamilolacfeoaa", sum := "cc0ed0c76a80212a556f269ac24b29ddee1cf72c30d4a5d41553f325af1dba03", func := "quantum/quantumlaw09.SeqLaws", spec := "seqLaws", unfollowed := true, recurses := true, apart := false, narrowed := true }
def SeqLawsUptoSaid : Prop := seqLawsUptoRow.holds Try.pinned (OpenSpec.upto seqLawsSpec)

/-- 'quantumlaw09.SeqMissing', WHERE WHAT IT READS IS OF BULK AT MOST 1048576: true; the input reads as it did. -/
def seqMissingUptoRow : OpenClaim := { program := "ythamilolacfeoaa", sum := "cc0ed0c76a80212a556f269ac24b29ddee1cf72c30d4a5d41553f325af1dba03", func := "quantum/quantumlaw09.SeqMissing", spec := "seqMissing", unfollowed := true, recurses := true, apart := false, narrowed := true }
def SeqMissingUptoSaid : Prop := seqMissingUptoRow.holds Try.pinned (OpenSpec.upto seqMissingSpec)

/-- 'quantumlaw09.SeqOf', WHERE WHAT IT READS IS OF BULK AT MOST 1048576: true; the input reads as it did. -/
def seqOfUptoRow : OpenClaim := { program := "ythamilolacfeoaa", sum := "cc0ed0c76a80212a556f269ac24b29ddee1cf72c30d4a5d41553f325af1dba03", func := "quantum/quantumlaw09.SeqOf", spec := "seqOf", unfollowed := true, recurses := true, apart := false, narrowed := true }
def SeqOfUptoSaid : Prop := seqOfUptoRow.holds Try.pinned (OpenSpec.upto seqOfSpec)

/-- 'quantumlaw09.SeqWrong', WHERE WHAT IT READS IS OF BULK AT MOST 1048576: true; the input reads as it did. -/
def seqWrongUptoRow : OpenClaim := { program := "ythamilolacfeoaa", sum := "cc0ed0c76a80212a556f269ac24b29ddee1cf72c30d4a5d41553f325af1dba03", func := "quantum/quantumlaw09.SeqWrong", spec := "seqWrong", inPlace := ["slices.overlaps[quantum/seq.Run]"], unfollowed := true, recurses := true, apart := false, narrowed := true }
def SeqWrongUptoSaid : Prop := seqWrongUptoRow.holds Try.pinned (OpenSpec.upto seqWrongSpec)

end Rows
end Go.Proofs.Ythamilolacfeoaa
