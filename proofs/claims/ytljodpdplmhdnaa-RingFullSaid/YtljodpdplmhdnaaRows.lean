/-
  No cell of these rows narrows 'for every input' (looked for: loops, veiled, ifaces, maps, wideKeys, modest, calm, conditions, laid).
  DERIVED. THE GIVEN ROWS OF THIS SEAT. 8 by the template 'for every input the law returns true; each argument reads behind the call as it read before'; 0 by the template 'total and deterministic' (their statements: YtljodpdplmhdnaaTotals.lean).
  GIVEN WITH THE SEED: the statements are not yours to turn. If you find one false, say at which input.
  Laid BY PROGRAM, IN A SANDBOX (cutbox-rows.mjs): the forced cells as the released guide's own fill.sh prints them over the translation 206b4585b2c9c0cc… (all of the seat's roots in one cut). By AI agents, Wed Nov 11 2026. No macro, syntax, notation, axiom, sorry.
-/
import Derived.Test.YtljodpdplmhdnaaChecked
import GoSem.Claim
import GoSem.ClaimJoined
import GoSem.ClaimMapViews
import Derived.JoinedTies
import Derived.KernelRfl
namespace Go.Proofs.Ytljodpdplmhdnaa
/- THE CELL 'sum', in the pinned program and in every row, IS THE sha256 OF THE DUMP (.gsa) THAT YtljodpdplmhdnaaProg.lean LOADS. Nothing in Lean hashes anything: it is a label: what it is worth is what the hold of that sum in a sandbox is worth. -/
noncomputable def Try.pinned : Pinned := { name := "ytljodpdplmhdnaa", sum := "206b4585b2c9c0cc9beda6a55797b4e4042349389da1e7ea7c8a2e3fbf38454c", checked := Try.checked }
namespace Rows
def none {H : Type} : Left H := { results := [], args := [] }

/-- 'quantumlaw08.RingTells': WHATEVER THE INPUT: true; the input reads as it did. -/
def ringTellsSpec : ChangeSpec := { name := "ringTells", fn := fun _ => fun
  | [d1, d2] => { results := [.lit (.bool true)], args := [d1, d2] }
  | _ => none }
def ringTellsRow : OpenClaim := { program := "ytljodpdplmhdnaa", sum := "206b4585b2c9c0cc9beda6a55797b4e4042349389da1e7ea7c8a2e3fbf38454c", func := "quantum/quantumlaw08.RingTells", spec := "ringTells", unfollowed := true, recurses := true, apart := false }
def RingTellsSaid : Prop := ringTellsRow.holds Try.pinned (OpenSpec.ofChange ringTellsSpec)

/-- ITS FALSE NEIGHBOUR: 'it returns false'. Refute it at one input. -/
def ringTellsWrong : ChangeSpec := { name := "ringTells", fn := fun _ => fun
  | [d1, d2] => { results := [.lit (.bool false)], args := [d1, d2] }
  | _ => none }
def RingTellsWrongFalsely : Prop := ringTellsRow.holds Try.pinned (OpenSpec.ofChange ringTellsWrong)

/-- 'quantumlaw08.RingSmall': WHATEVER THE INPUT: true; the input reads as it did. -/
def ringSmallSpec : ChangeSpec := { name := "ringSmall", fn := fun _ => fun
  | [] => { results := [.lit (.bool true)], args := [] }
  | _ => none }
def ringSmallRow : OpenClaim := { program := "ytljodpdplmhdnaa", sum := "206b4585b2c9c0cc9beda6a55797b4e4042349389da1e7ea7c8a2e3fbf38454c", func := "quantum/quantumlaw08.RingSmall", spec := "ringSmall", unfollowed := true, recurses := true, apart := false }
def RingSmallSaid : Prop := ringSmallRow.holds Try.pinned (OpenSpec.ofChange ringSmallSpec)

/-- ITS FALSE NEIGHBOUR: 'it returns false'. Refute it at one input. -/
def ringSmallWrong : ChangeSpec := { name := "ringSmall", fn := fun _ => fun
  | [] => { results := [.lit (.bool false)], args := [] }
  | _ => none }
def RingSmallWrongFalsely : Prop := ringSmallRow.holds Try.pinned (OpenSpec.ofChange ringSmallWrong)

/-- 'quantumlaw08.RingRuns': WHATEVER THE INPUT: true; the input reads as it did. -/
def ringRunsSpec : ChangeSpec := { name := "ringRuns", fn := fun _ => fun
  | [d1, d2] => { results := [.lit (.bool true)], args := [d1, d2] }
  | _ => none }
def ringRunsRow : OpenClaim := { program := "ytljodpdplmhdnaa", sum := "206b4585b2c9c0cc9beda6a55797b4e4042349389da1e7ea7c8a2e3fbf38454c", func := "quantum/quantumlaw08.RingRuns", spec := "ringRuns", unfollowed := true, recurses := true, apart := false }
def RingRunsSaid : Prop := ringRunsRow.holds Try.pinned (OpenSpec.ofChange ringRunsSpec)

/-- ITS FALSE NEIGHBOUR: 'it returns false'. Refute it at one input. -/
def ringRunsWrong : ChangeSpec := { name := "ringRuns", fn := fun _ => fun
  | [d1, d2] => { results := [.lit (.bool false)], args := [d1, d2] }
  | _ => none }
def RingRunsWrongFalsely : Prop := ringRunsRow.holds Try.pinned (OpenSpec.ofChange ringRunsWrong)

/-- 'quantumlaw08.RingFull': WHATEVER THE INPUT: true; the input reads as it did. -/
def ringFullSpec : ChangeSpec := { name := "ringFull", fn := fun _ => fun
  | [d1, d2] => { results := [.lit (.bool true)], args := [d1, d2] }
  | _ => none }
def ringFullRow : OpenClaim := { program := "ytljodpdplmhdnaa", sum := "206b4585b2c9c0cc9beda6a55797b4e4042349389da1e7ea7c8a2e3fbf38454c", func := "quantum/quantumlaw08.RingFull", spec := "ringFull", unfollowed := true, recurses := true, apart := false }
def RingFullSaid : Prop := ringFullRow.holds Try.pinned (OpenSpec.ofChange ringFullSpec)

/-- ITS FALSE NEIGHBOUR: 'it returns false'. Refute it at one input. -/
def ringFullWrong : ChangeSpec := { name := "ringFull", fn := fun _ => fun
  | [d1, d2] => { results := [.lit (.bool false)], args := [d1, d2] }
  | _ => none }
def RingFullWrongFalsely : Prop := ringFullRow.holds Try.pinned (OpenSpec.ofChange ringFullWrong)

/-- 'quantumlaw08.RingSums': WHATEVER THE INPUT: true; the input reads as it did. -/
def ringSumsSpec : ChangeSpec := { name := "ringSums", fn := fun _ => fun
  | [d1, d2] => { results := [.lit (.bool true)], args := [d1, d2] }
  | _ => none }
def ringSumsRow : OpenClaim := { program := "ytljodpdplmhdnaa", sum := "206b4585b2c9c0cc9beda6a55797b4e4042349389da1e7ea7c8a2e3fbf38454c", func := "quantum/quantumlaw08.RingSums", spec := "ringSums", unfollowed := true, recurses := true, apart := false }
def RingSumsSaid : Prop := ringSumsRow.holds Try.pinned (OpenSpec.ofChange ringSumsSpec)

/-- ITS FALSE NEIGHBOUR: 'it returns false'. Refute it at one input. -/
def ringSumsWrong : ChangeSpec := { name := "ringSums", fn := fun _ => fun
  | [d1, d2] => { results := [.lit (.bool false)], args := [d1, d2] }
  | _ => none }
def RingSumsWrongFalsely : Prop := ringSumsRow.holds Try.pinned (OpenSpec.ofChange ringSumsWrong)

/-- 'quantumlaw08.RingFresh': WHATEVER THE INPUT: true; the input reads as it did. -/
def ringFreshSpec : ChangeSpec := { name := "ringFresh", fn := fun _ => fun
  | [d1, d2] => { results := [.lit (.bool true)], args := [d1, d2] }
  | _ => none }
def ringFreshRow : OpenClaim := { program := "ytljodpdplmhdnaa", sum := "206b4585b2c9c0cc9beda6a55797b4e4042349389da1e7ea7c8a2e3fbf38454c", func := "quantum/quantumlaw08.RingFresh", spec := "ringFresh", unfollowed := true, recurses := true, apart := false }
def RingFreshSaid : Prop := ringFreshRow.holds Try.pinned (OpenSpec.ofChange ringFreshSpec)

/-- ITS FALSE NEIGHBOUR: 'it returns false'. Refute it at one input. -/
def ringFreshWrong : ChangeSpec := { name := "ringFresh", fn := fun _ => fun
  | [d1, d2] => { results := [.lit (.bool false)], args := [d1, d2] }
  | _ => none }
def RingFreshWrongFalsely : Prop := ringFreshRow.holds Try.pinned (OpenSpec.ofChange ringFreshWrong)

/-- 'quantumlaw08.RingTypes': WHATEVER THE INPUT: true; the input reads as it did. -/
def ringTypesSpec : ChangeSpec := { name := "ringTypes", fn := fun _ => fun
  | [d1, d2, d3] => { results := [.lit (.bool true)], args := [d1, d2, d3] }
  | _ => none }
def ringTypesRow : OpenClaim := { program := "ytljodpdplmhdnaa", sum := "206b4585b2c9c0cc9beda6a55797b4e4042349389da1e7ea7c8a2e3fbf38454c", func := "quantum/quantumlaw08.RingTypes", spec := "ringTypes", unfollowed := true, recurses := true, apart := false }
def RingTypesSaid : Prop := ringTypesRow.holds Try.pinned (OpenSpec.ofChange ringTypesSpec)

/-- ITS FALSE NEIGHBOUR: 'it returns false'. Refute it at one input. -/
def ringTypesWrong : ChangeSpec := { name := "ringTypes", fn := fun _ => fun
  | [d1, d2, d3] => { results := [.lit (.bool false)], args := [d1, d2, d3] }
  | _ => none }
def RingTypesWrongFalsely : Prop := ringTypesRow.holds Try.pinned (OpenSpec.ofChange ringTypesWrong)

/-- 'quantumlaw08.RingWrong': WHATEVER THE INPUT: true; the input reads as it did. -/
def ringWrongSpec : ChangeSpec := { name := "ringWrong", fn := fun _ => fun
  | [d1, d2, d3] => { results := [.lit (.bool true)], args := [d1, d2, d3] }
  | _ => none }
def ringWrongRow : OpenClaim := { program := "ytljodpdplmhdnaa", sum := "206b4585b2c9c0cc9beda6a55797b4e4042349389da1e7ea7c8a2e3fbf38454c", func := "quantum/quantumlaw08.RingWrong", spec := "ringWrong", unfollowed := true, recurses := true, apart := false }
def RingWrongSaid : Prop := ringWrongRow.holds Try.pinned (OpenSpec.ofChange ringWrongSpec)

/-- ITS FALSE NEIGHBOUR: 'it returns false'. Refute it at one input. -/
def ringWrongWrong : ChangeSpec := { name := "ringWrong", fn := fun _ => fun
  | [d1, d2, d3] => { results := [.lit (.bool false)], args := [d1, d2, d3] }
  | _ => none }
def RingWrongWrongFalsely : Prop := ringWrongRow.holds Try.pinned (OpenSpec.ofChange ringWrongWrong)

/- THE SECOND FORM. 'bulk': how many values and letters a reading holds, each counted each time it is reached (what is shared counts as often as it is met; a slice's spare places count too). A statement '..UptoSaid' is the law's where the arguments, and the package variables that the reading takes, are together of bulk at most 1048576: NARROWER than '..Said'. Prove '..Said' where nothing that the law and all that it calls make is longer than what came in: it says more and counts as full. Else prove '..UptoSaid'. A law counts once. -/
mutual
def uptoBulk {H : Type} : DataW H → Nat
  | .lit (.string bytes) => bytes.length + 1
  | .lit _ => 1
  | .nil => 1
  | .ptr d => uptoBulk d + 1
  | .slice elems spare => uptoBulkAll elems + uptoBulkAll spare + 1
  | .agg parts => uptoBulkAll parts + 1
  | .iface _ d => uptoBulk d + 1
  | .map entries => uptoBulkEntries entries + 1
  | .held _ => 1
def uptoBulkAll {H : Type} : List (DataW H) → Nat
  | [] => 0
  | d :: r => uptoBulk d + uptoBulkAll r
def uptoBulkEntries {H : Type} : List (Lit × DataW H) → Nat
  | [] => 0
  | x :: r => uptoBulkEntry x + uptoBulkEntries r
def uptoBulkEntry {H : Type} : Lit × DataW H → Nat
  | (.string bytes, d) => bytes.length + uptoBulk d + 1
  | (_, d) => uptoBulk d + 1
 end
def uptoSmall : (H : Type) → List (DataW H) → Bool := fun _ ds => decide (uptoBulkAll ds ≤ 1048576)
def OpenSpec.upto (s : _root_.Go.ChangeSpec) : _root_.Go.OpenSpec := { _root_.Go.OpenSpec.ofChange s with cond := some uptoSmall }

/-- 'quantumlaw08.RingTells', WHERE WHAT IT READS IS OF BULK AT MOST 1048576: true; the input reads as it did. -/
def ringTellsUptoRow : OpenClaim := { program := "ytljodpdplmhdnaa", sum := "206b4585b2c9c0cc9beda6a55797b4e4042349389da1e7ea7c8a2e3fbf38454c", func := "quantum/quantumlaw08.RingTells", spec := "ringTells", unfollowed := true, recurses := true, apart := false, narrowed := true }
def RingTellsUptoSaid : Prop := ringTellsUptoRow.holds Try.pinned (OpenSpec.upto ringTellsSpec)

/-- 'quantumlaw08.RingSmall', WHERE WHAT IT READS IS OF BULK AT MOST 1048576: true; the input reads as it did. -/
def ringSmallUptoRow : OpenClaim := { program := "ytljodpdplmhdnaa", sum := "206b4585b2c9c0cc9beda6a55797b4e4042349389da1e7ea7c8a2e3fbf38454c", func := "quantum/quantumlaw08.RingSmall", spec := "ringSmall", unfollowed := true, recurses := true, apart := false, narrowed := true }
def RingSmallUptoSaid : Prop := ringSmallUptoRow.holds Try.pinned (OpenSpec.upto ringSmallSpec)

/-- 'quantumlaw08.RingRuns', WHERE WHAT IT READS IS OF BULK AT MOST 1048576: true; the input reads as it did. -/
def ringRunsUptoRow : OpenClaim := { program := "ytljodpdplmhdnaa", sum := "206b4585b2c9c0cc9beda6a55797b4e4042349389da1e7ea7c8a2e3fbf38454c", func := "quantum/quantumlaw08.RingRuns", spec := "ringRuns", unfollowed := true, recurses := true, apart := false, narrowed := true }
def RingRunsUptoSaid : Prop := ringRunsUptoRow.holds Try.pinned (OpenSpec.upto ringRunsSpec)

/-- 'quantumlaw08.RingFull', WHERE WHAT IT READS IS OF BULK AT MOST 1048576: true; the input reads as it did. -/
def ringFullUptoRow : OpenClaim := { program := "ytljodpdplmhdnaa", sum := "206b4585b2c9c0cc9beda6a55797b4e4042349389da1e7ea7c8a2e3fbf38454c", func := "quantum/quantumlaw08.RingFull", spec := "ringFull", unfollowed := true, recurses := true, apart := false, narrowed := true }
def RingFullUptoSaid : Prop := ringFullUptoRow.holds Try.pinned (OpenSpec.upto ringFullSpec)

/-- 'quantumlaw08.RingSums', WHERE WHAT IT READS IS OF BULK AT MOST 1048576: true; the input reads as it did. -/
def ringSumsUptoRow : OpenClaim := { program := "ytljodpdplmhdnaa", sum := "206b4585b2c9c0cc9beda6a55797b4e4042349389da1e7ea7c8a2e3fbf38454c", func := "quantum/quantumlaw08.RingSums", spec := "ringSums", unfollowed := true, recurses := true, apart := false, narrowed := true }
def RingSumsUptoSaid : Prop := ringSumsUptoRow.holds Try.pinned (OpenSpec.upto ringSumsSpec)

/-- 'quantumlaw08.RingFresh', WHERE WHAT IT READS IS OF BULK AT MOST 1048576: true; the input reads as it did. -/
def ringFreshUptoRow : OpenClaim := { program := "ytljodpdplmhdnaa", sum := "206b4585b2c9c0cc9beda6a55797b4e4042349389da1e7ea7c8a2e3fbf38454c", func := "quantum/quantumlaw08.RingFresh", spec := "ringFresh", unfollowed := true, recurses := true, apart := false, narrowed := true }
def RingFreshUptoSaid : Prop := ringFreshUptoRow.holds Try.pinned (OpenSpec.upto ringFreshSpec)

/-- 'quantumlaw08.RingTypes', WHERE WHAT IT READS IS OF BULK AT MOST 1048576: true; the input reads as it did. -/
def ringTypesUptoRow : OpenClaim := { program := "ytljodpdplmhdnaa", sum := "206b4585b2c9c0cc9beda6a55797b4e4042349389da1e7ea7c8a2e3fbf38454c", func := "quantum/quantumlaw08.RingTypes", spec := "ringTypes", unfollowed := true, recurses := true, apart := false, narrowed := true }
def RingTypesUptoSaid : Prop := ringTypesUptoRow.holds Try.pinned (OpenSpec.upto ringTypesSpec)

/-- 'quantumlaw08.RingWrong', WHERE WHAT IT READS IS OF BULK AT MOST 1048576: true; the input reads as it did. -/
def ringWrongUptoRow : OpenClaim := { program := "ytljodpdplmhdnaa", sum := "206b4585b2c9c0cc9beda6a55797b4e4042349389da1e7ea7c8a2e3fbf38454c", func := "quantum/quantumlaw08.RingWrong", spec := "ringWrong", unfollowed := true, recurses := true, apart := false, narrowed := true }
def RingWrongUptoSaid : Prop := ringWrongUptoRow.holds Try.pinned (OpenSpec.upto ringWrongSpec)

end Rows
end Go.Proofs.Ytljodpdplmhdnaa
