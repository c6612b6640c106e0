/-
  No cell of these rows narrows 'for every input' (looked for: loops, veiled, ifaces, maps, wideKeys, modest, calm, conditions, laid).
  DERIVED. THE GIVEN ROWS OF THIS SEAT. 7 by the template 'for every input the law returns true; each argument reads behind the call as it read before'; 0 by the template 'total and deterministic' (their statements: YtkfdjbeligjplaaTotals.lean).
  GIVEN WITH THE SEED: the statements are not yours to turn. If you find one false, say at which input.
  Laid BY PROGRAM, IN A SANDBOX (cutbox-rows.mjs): the forced cells as the released guide's own fill.sh prints them over the translation 2a899bb3a9c7ffa1… (all of the seat's roots in one cut). By AI agents, Wed Nov 11 2026. No macro, syntax, notation, axiom, sorry.
-/
import Derived.Test.YtkfdjbeligjplaaChecked
import GoSem.Claim
import GoSem.ClaimJoined
import GoSem.ClaimMapViews
import Derived.JoinedTies
import Derived.KernelRfl
namespace Go.Proofs.Ytkfdjbeligjplaa
/- THE CELL 'sum', in the pinned program and in every row, IS THE sha256 OF THE DUMP (.gsa) THAT YtkfdjbeligjplaaProg.lean LOADS. Nothing in Lean hashes anything: it is a label: what it is worth is what the hold of that sum in a sandbox is worth. -/
noncomputable def Try.pinned : Pinned := { name := "ytkfdjbeligjplaa", sum := "2a899bb3a9c7ffa127ced596474632177d57b9eca002aa5cc55ded12e3a1504b", checked := Try.checked }
namespace Rows
def none {H : Type} : Left H := { results := [], args := [] }

/-- 'laws.FnSets': WHATEVER THE INPUT: true; the input reads as it did. -/
def fnSetsSpec : ChangeSpec := { name := "fnSets", fn := fun _ => fun
  | [d] => { results := [.lit (.bool true)], args := [d] }
  | _ => none }
def fnSetsRow : OpenClaim := { program := "ytkfdjbeligjplaa", sum := "2a899bb3a9c7ffa127ced596474632177d57b9eca002aa5cc55ded12e3a1504b", func := "loop.example/g01923/laws.FnSets", spec := "fnSets", recurses := true, apart := false }
def FnSetsSaid : Prop := fnSetsRow.holds Try.pinned (OpenSpec.ofChange fnSetsSpec)

/-- ITS FALSE NEIGHBOUR: 'it returns false'. Refute it at one input. -/
def fnSetsWrong : ChangeSpec := { name := "fnSets", fn := fun _ => fun
  | [d] => { results := [.lit (.bool false)], args := [d] }
  | _ => none }
def FnSetsWrongFalsely : Prop := fnSetsRow.holds Try.pinned (OpenSpec.ofChange fnSetsWrong)

/-- 'laws.FnExactJaccard': WHATEVER THE INPUT: true; the input reads as it did. -/
def fnExactJaccardSpec : ChangeSpec := { name := "fnExactJaccard", fn := fun _ => fun
  | [d1, d2] => { results := [.lit (.bool true)], args := [d1, d2] }
  | _ => none }
def fnExactJaccardRow : OpenClaim := { program := "ytkfdjbeligjplaa", sum := "2a899bb3a9c7ffa127ced596474632177d57b9eca002aa5cc55ded12e3a1504b", func := "loop.example/g01923/laws.FnExactJaccard", spec := "fnExactJaccard", apart := false }
def FnExactJaccardSaid : Prop := fnExactJaccardRow.holds Try.pinned (OpenSpec.ofChange fnExactJaccardSpec)

/-- ITS FALSE NEIGHBOUR: 'it returns false'. Refute it at one input. -/
def fnExactJaccardWrong : ChangeSpec := { name := "fnExactJaccard", fn := fun _ => fun
  | [d1, d2] => { results := [.lit (.bool false)], args := [d1, d2] }
  | _ => none }
def FnExactJaccardWrongFalsely : Prop := fnExactJaccardRow.holds Try.pinned (OpenSpec.ofChange fnExactJaccardWrong)

/-- 'laws.FnExactDice': WHATEVER THE INPUT: true; the input reads as it did. -/
def fnExactDiceSpec : ChangeSpec := { name := "fnExactDice", fn := fun _ => fun
  | [d1, d2] => { results := [.lit (.bool true)], args := [d1, d2] }
  | _ => none }
def fnExactDiceRow : OpenClaim := { program := "ytkfdjbeligjplaa", sum := "2a899bb3a9c7ffa127ced596474632177d57b9eca002aa5cc55ded12e3a1504b", func := "loop.example/g01923/laws.FnExactDice", spec := "fnExactDice", apart := false }
def FnExactDiceSaid : Prop := fnExactDiceRow.holds Try.pinned (OpenSpec.ofChange fnExactDiceSpec)

/-- ITS FALSE NEIGHBOUR: 'it returns false'. Refute it at one input. -/
def fnExactDiceWrong : ChangeSpec := { name := "fnExactDice", fn := fun _ => fun
  | [d1, d2] => { results := [.lit (.bool false)], args := [d1, d2] }
  | _ => none }
def FnExactDiceWrongFalsely : Prop := fnExactDiceRow.holds Try.pinned (OpenSpec.ofChange fnExactDiceWrong)

/-- 'laws.FnExactContainment': WHATEVER THE INPUT: true; the input reads as it did. -/
def fnExactContainmentSpec : ChangeSpec := { name := "fnExactContainment", fn := fun _ => fun
  | [d1, d2] => { results := [.lit (.bool true)], args := [d1, d2] }
  | _ => none }
def fnExactContainmentRow : OpenClaim := { program := "ytkfdjbeligjplaa", sum := "2a899bb3a9c7ffa127ced596474632177d57b9eca002aa5cc55ded12e3a1504b", func := "loop.example/g01923/laws.FnExactContainment", spec := "fnExactContainment", apart := false }
def FnExactContainmentSaid : Prop := fnExactContainmentRow.holds Try.pinned (OpenSpec.ofChange fnExactContainmentSpec)

/-- ITS FALSE NEIGHBOUR: 'it returns false'. Refute it at one input. -/
def fnExactContainmentWrong : ChangeSpec := { name := "fnExactContainment", fn := fun _ => fun
  | [d1, d2] => { results := [.lit (.bool false)], args := [d1, d2] }
  | _ => none }
def FnExactContainmentWrongFalsely : Prop := fnExactContainmentRow.holds Try.pinned (OpenSpec.ofChange fnExactContainmentWrong)

/-- 'laws.FnExactMinOverlap': WHATEVER THE INPUT: true; the input reads as it did. -/
def fnExactMinOverlapSpec : ChangeSpec := { name := "fnExactMinOverlap", fn := fun _ => fun
  | [d1, d2, d3] => { results := [.lit (.bool true)], args := [d1, d2, d3] }
  | _ => none }
def fnExactMinOverlapRow : OpenClaim := { program := "ytkfdjbeligjplaa", sum := "2a899bb3a9c7ffa127ced596474632177d57b9eca002aa5cc55ded12e3a1504b", func := "loop.example/g01923/laws.FnExactMinOverlap", spec := "fnExactMinOverlap", apart := false }
def FnExactMinOverlapSaid : Prop := fnExactMinOverlapRow.holds Try.pinned (OpenSpec.ofChange fnExactMinOverlapSpec)

/-- ITS FALSE NEIGHBOUR: 'it returns false'. Refute it at one input. -/
def fnExactMinOverlapWrong : ChangeSpec := { name := "fnExactMinOverlap", fn := fun _ => fun
  | [d1, d2, d3] => { results := [.lit (.bool false)], args := [d1, d2, d3] }
  | _ => none }
def FnExactMinOverlapWrongFalsely : Prop := fnExactMinOverlapRow.holds Try.pinned (OpenSpec.ofChange fnExactMinOverlapWrong)

/-- 'laws.FnExactLengthBounds': WHATEVER THE INPUT: true; the input reads as it did. -/
def fnExactLengthBoundsSpec : ChangeSpec := { name := "fnExactLengthBounds", fn := fun _ => fun
  | [d1, d2] => { results := [.lit (.bool true)], args := [d1, d2] }
  | _ => none }
def fnExactLengthBoundsRow : OpenClaim := { program := "ytkfdjbeligjplaa", sum := "2a899bb3a9c7ffa127ced596474632177d57b9eca002aa5cc55ded12e3a1504b", func := "loop.example/g01923/laws.FnExactLengthBounds", spec := "fnExactLengthBounds", apart := false }
def FnExactLengthBoundsSaid : Prop := fnExactLengthBoundsRow.holds Try.pinned (OpenSpec.ofChange fnExactLengthBoundsSpec)

/-- ITS FALSE NEIGHBOUR: 'it returns false'. Refute it at one input. -/
def fnExactLengthBoundsWrong : ChangeSpec := { name := "fnExactLengthBounds", fn := fun _ => fun
  | [d1, d2] => { results := [.lit (.bool false)], args := [d1, d2] }
  | _ => none }
def FnExactLengthBoundsWrongFalsely : Prop := fnExactLengthBoundsRow.holds Try.pinned (OpenSpec.ofChange fnExactLengthBoundsWrong)

/-- 'laws.FnExactMeetsJaccard': WHATEVER THE INPUT: true; the input reads as it did. -/
def fnExactMeetsJaccardSpec : ChangeSpec := { name := "fnExactMeetsJaccard", fn := fun _ => fun
  | [d1, d2, d3] => { results := [.lit (.bool true)], args := [d1, d2, d3] }
  | _ => none }
def fnExactMeetsJaccardRow : OpenClaim := { program := "ytkfdjbeligjplaa", sum := "2a899bb3a9c7ffa127ced596474632177d57b9eca002aa5cc55ded12e3a1504b", func := "loop.example/g01923/laws.FnExactMeetsJaccard", spec := "fnExactMeetsJaccard", apart := false }
def FnExactMeetsJaccardSaid : Prop := fnExactMeetsJaccardRow.holds Try.pinned (OpenSpec.ofChange fnExactMeetsJaccardSpec)

/-- ITS FALSE NEIGHBOUR: 'it returns false'. Refute it at one input. -/
def fnExactMeetsJaccardWrong : ChangeSpec := { name := "fnExactMeetsJaccard", fn := fun _ => fun
  | [d1, d2, d3] => { results := [.lit (.bool false)], args := [d1, d2, d3] }
  | _ => none }
def FnExactMeetsJaccardWrongFalsely : Prop := fnExactMeetsJaccardRow.holds Try.pinned (OpenSpec.ofChange fnExactMeetsJaccardWrong)

/- THE SECOND FORM. 'bulk': how many values and letters a reading holds, each counted each time it is reached (what is shared counts as often as it is met; a slice's spare places count too). A statement '..UptoSaid' is the law's where the arguments, and the package variables that the reading takes, are together of bulk at most 1048576: NARROWER than '..Said'. Prove '..Said' where nothing that the law and all that it calls make is longer than what came in: it says more and counts as full. Else prove '..UptoSaid'. A law counts once. -/
mutual
def uptoBulk {H : Type} : DataW H → Nat
  | .lit (.string bytes) => bytes.length + 1
  | .lit _ => 1
  | .nil => 1
  | .ptr d => uptoBulk d + 1
  | .slice elems spare => uptoBulkAll elems + uptoBulkAll spare + 1
  | .agg parts => uptoBulkAll parts + 1
  | .iface _ d => uptoBulk d + 1
  | .map entries => uptoBulkEntries entries + 1
  | .held _ => 1
def uptoBulkAll {H : Type} : List (DataW H) → Nat
  | [] => 0
  | d :: r => uptoBulk d + uptoBulkAll r
def uptoBulkEntries {H : Type} : List (Lit × DataW H) → Nat
  | [] => 0
  | x :: r => uptoBulkEntry x + uptoBulkEntries r
def uptoBulkEntry {H : Type} : Lit × DataW H → Nat
  | (.string bytes, d) => bytes.length + uptoBulk d + 1
  | (_, d) => uptoBulk d + 1
 end
def uptoSmall : (H : Type) → List (DataW H) → Bool := fun _ ds => decide (uptoBulkAll ds ≤ 1048576)
def OpenSpec.upto (s : _root_.Go.ChangeSpec) : _root_.Go.OpenSpec := { _root_.Go.OpenSpec.ofChange s with cond := some uptoSmall }

/-- 'laws.FnSets', WHERE WHAT IT READS IS OF BULK AT MOST 1048576: true; the input reads as it did. -/
def fnSetsUptoRow : OpenClaim := { program := "ytkfdjbeligjplaa", sum := "2a899bb3a9c7ffa127ced596474632177d57b9eca002aa5cc55ded12e3a1504b", func := "loop.example/g01923/laws.FnSets", spec := "fnSets", recurses := true, apart := false, narrowed := true }
def FnSetsUptoSaid : Prop := fnSetsUptoRow.holds Try.pinned (OpenSpec.upto fnSetsSpec)

/-- 'laws.FnExactJaccard', WHERE WHAT IT READS IS OF BULK AT MOST 1048576: true; the input reads as it did. -/
def fnExactJaccardUptoRow : OpenClaim := { program := "ytkfdjbeligjplaa", sum := "2a899bb3a9c7ffa127ced596474632177d57b9eca002aa5cc55ded12e3a1504b", func := "loop.example/g01923/laws.FnExactJaccard", spec := "fnExactJaccard", apart := false, narrowed := true }
def FnExactJaccardUptoSaid : Prop := fnExactJaccardUptoRow.holds Try.pinned (OpenSpec.upto fnExactJaccardSpec)

/-- 'laws.FnExactDice', WHERE WHAT IT READS IS OF BULK AT MOST 1048576: true; the input reads as it did. -/
def fnExactDiceUptoRow : OpenClaim := { program := "ytkfdjbeligjplaa", sum := "2a899bb3a9c7ffa127ced596474632177d57b9eca002aa5cc55ded12e3a1504b", func := "loop.example/g01923/laws.FnExactDice", spec := "fnExactDice", apart := false, narrowed := true }
def FnExactDiceUptoSaid : Prop := fnExactDiceUptoRow.holds Try.pinned (OpenSpec.upto fnExactDiceSpec)

/-- 'laws.FnExactContainment', WHERE WHAT IT READS IS OF BULK AT MOST 1048576: true; the input reads as it did. -/
def fnExactContainmentUptoRow : OpenClaim := { program := "ytkfdjbeligjplaa", sum := "2a899bb3a9c7ffa127ced596474632177d57b9eca002aa5cc55ded12e3a1504b", func := "loop.example/g01923/laws.FnExactContainment", spec := "fnExactContainment", apart := false, narrowed := true }
def FnExactContainmentUptoSaid : Prop := fnExactContainmentUptoRow.holds Try.pinned (OpenSpec.upto fnExactContainmentSpec)

/-- 'laws.FnExactMinOverlap', WHERE WHAT IT READS IS OF BULK AT MOST 1048576: true; the input reads as it did. -/
def fnExactMinOverlapUptoRow : OpenClaim := { program := "ytkfdjbeligjplaa", sum := "2a899bb3a9c7ffa127ced596474632177d57b9eca002aa5cc55ded12e3a1504b", func := "loop.example/g01923/laws.FnExactMinOverlap", spec := "fnExactMinOverlap", apart := false, narrowed := true }
def FnExactMinOverlapUptoSaid : Prop := fnExactMinOverlapUptoRow.holds Try.pinned (OpenSpec.upto fnExactMinOverlapSpec)

/-- 'laws.FnExactLengthBounds', WHERE WHAT IT READS IS OF BULK AT MOST 1048576: true; the input reads as it did. -/
def fnExactLengthBoundsUptoRow : OpenClaim := { program := "ytkfdjbeligjplaa", sum := "2a899bb3a9c7ffa127ced596474632177d57b9eca002aa5cc55ded12e3a1504b", func := "loop.example/g01923/laws.FnExactLengthBounds", spec := "fnExactLengthBounds", apart := false, narrowed := true }
def FnExactLengthBoundsUptoSaid : Prop := fnExactLengthBoundsUptoRow.holds Try.pinned (OpenSpec.upto fnExactLengthBoundsSpec)

/-- 'laws.FnExactMeetsJaccard', WHERE WHAT IT READS IS OF BULK AT MOST 1048576: true; the input reads as it did. -/
def fnExactMeetsJaccardUptoRow : OpenClaim := { program := "ytkfdjbeligjplaa", sum := "2a899bb3a9c7ffa127ced596474632177d57b9eca002aa5cc55ded12e3a1504b", func := "loop.example/g01923/laws.FnExactMeetsJaccard", spec := "fnExactMeetsJaccard", apart := false, narrowed := true }
def FnExactMeetsJaccardUptoSaid : Prop := fnExactMeetsJaccardUptoRow.holds Try.pinned (OpenSpec.upto fnExactMeetsJaccardSpec)

end Rows
end Go.Proofs.Ytkfdjbeligjplaa
