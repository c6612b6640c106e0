/-
  No cell of these rows narrows 'for every input' (looked for: loops, veiled, ifaces, maps, wideKeys, modest, calm, conditions, laid).
  DERIVED. THE GIVEN ROWS OF THIS SEAT. 6 by the template 'for every input the law returns true; each argument reads behind the call as it read before'; 0 by the template 'total and deterministic' (their statements: YtookcggmapldeaaTotals.lean).
  GIVEN WITH THE SEED: the statements are not yours to turn. If you find one false, say at which input.
  Laid BY PROGRAM, IN A SANDBOX (cutbox-rows.mjs): the forced cells as the released guide's own fill.sh prints them over the translation 078d617097e01452… (all of the seat's roots in one cut). By AI agents, Wed Nov 11 2026. No macro, syntax, notation, axiom, sorry.
-/
import Derived.Test.YtookcggmapldeaaChecked
import GoSem.Claim
import GoSem.ClaimJoined
import GoSem.ClaimMapViews
import Derived.JoinedTies
import Derived.KernelRfl
namespace Go.Proofs.Ytookcggmapldeaa
/- THE CELL 'sum', in the pinned program and in every row, IS THE sha256 OF THE DUMP (.gsa) THAT YtookcggmapldeaaProg.lean LOADS. Nothing in Lean hashes anything: it is a label: what it is worth is what the hold of that sum in a sandbox is worth. -/
noncomputable def Try.pinned : Pinned := { name := "ytookcggmapldeaa", sum := "078d617097e014527898e8c7efe34ccc644ca1d266e466c8aaae9722d7ac348a", checked := Try.checked }
namespace Rows
def none {H : Type} : Left H := { results := [], args := [] }

/-- 'laws.FnExactDiagramVariables': WHATEVER THE INPUT: true; the input reads as it did. -/
def fnExactDiagramVariablesSpec : ChangeSpec := { name := "fnExactDiagramVariables", fn := fun _ => fun
  | [d] => { results := [.lit (.bool true)], args := [d] }
  | _ => none }
def fnExactDiagramVariablesRow : OpenClaim := { program := "ytookcggmapldeaa", sum := "078d617097e014527898e8c7efe34ccc644ca1d266e466c8aaae9722d7ac348a", func := "loop.example/g01923/laws.FnExactDiagramVariables", spec := "fnExactDiagramVariables", unfollowed := true, recurses := true, plainKeys := false, apart := false }
def FnExactDiagramVariablesSaid : Prop := fnExactDiagramVariablesRow.holds Try.pinned (OpenSpec.ofChange fnExactDiagramVariablesSpec)

/-- ITS FALSE NEIGHBOUR: 'it returns false'. Refute it at one input. -/
def fnExactDiagramVariablesWrong : ChangeSpec := { name := "fnExactDiagramVariables", fn := fun _ => fun
  | [d] => { results := [.lit (.bool false)], args := [d] }
  | _ => none }
def FnExactDiagramVariablesWrongFalsely : Prop := fnExactDiagramVariablesRow.holds Try.pinned (OpenSpec.ofChange fnExactDiagramVariablesWrong)

/-- 'laws.FnExactBuildDiagram': WHATEVER THE INPUT: true; the input reads as it did. -/
def fnExactBuildDiagramSpec : ChangeSpec := { name := "fnExactBuildDiagram", fn := fun _ => fun
  | [d] => { results := [.lit (.bool true)], args := [d] }
  | _ => none }
def fnExactBuildDiagramRow : OpenClaim := { program := "ytookcggmapldeaa", sum := "078d617097e014527898e8c7efe34ccc644ca1d266e466c8aaae9722d7ac348a", func := "loop.example/g01923/laws.FnExactBuildDiagram", spec := "fnExactBuildDiagram", unfollowed := true, recurses := true, plainKeys := false, apart := false }
def FnExactBuildDiagramSaid : Prop := fnExactBuildDiagramRow.holds Try.pinned (OpenSpec.ofChange fnExactBuildDiagramSpec)

/-- ITS FALSE NEIGHBOUR: 'it returns false'. Refute it at one input. -/
def fnExactBuildDiagramWrong : ChangeSpec := { name := "fnExactBuildDiagram", fn := fun _ => fun
  | [d] => { results := [.lit (.bool false)], args := [d] }
  | _ => none }
def FnExactBuildDiagramWrongFalsely : Prop := fnExactBuildDiagramRow.holds Try.pinned (OpenSpec.ofChange fnExactBuildDiagramWrong)

/-- 'laws.FnExactIsValidDiagram': WHATEVER THE INPUT: true; the input reads as it did. -/
def fnExactIsValidDiagramSpec : ChangeSpec := { name := "fnExactIsValidDiagram", fn := fun _ => fun
  | [d] => { results := [.lit (.bool true)], args := [d] }
  | _ => none }
def fnExactIsValidDiagramRow : OpenClaim := { program := "ytookcggmapldeaa", sum := "078d617097e014527898e8c7efe34ccc644ca1d266e466c8aaae9722d7ac348a", func := "loop.example/g01923/laws.FnExactIsValidDiagram", spec := "fnExactIsValidDiagram", plainKeys := false, apart := false }
def FnExactIsValidDiagramSaid : Prop := fnExactIsValidDiagramRow.holds Try.pinned (OpenSpec.ofChange fnExactIsValidDiagramSpec)

/-- ITS FALSE NEIGHBOUR: 'it returns false'. Refute it at one input. -/
def fnExactIsValidDiagramWrong : ChangeSpec := { name := "fnExactIsValidDiagram", fn := fun _ => fun
  | [d] => { results := [.lit (.bool false)], args := [d] }
  | _ => none }
def FnExactIsValidDiagramWrongFalsely : Prop := fnExactIsValidDiagramRow.holds Try.pinned (OpenSpec.ofChange fnExactIsValidDiagramWrong)

/-- 'laws.FnExactEvaluateDiagram': WHATEVER THE INPUT: true; the input reads as it did. -/
def fnExactEvaluateDiagramSpec : ChangeSpec := { name := "fnExactEvaluateDiagram", fn := fun _ => fun
  | [d1, d2] => { results := [.lit (.bool true)], args := [d1, d2] }
  | _ => none }
def fnExactEvaluateDiagramRow : OpenClaim := { program := "ytookcggmapldeaa", sum := "078d617097e014527898e8c7efe34ccc644ca1d266e466c8aaae9722d7ac348a", func := "loop.example/g01923/laws.FnExactEvaluateDiagram", spec := "fnExactEvaluateDiagram", plainKeys := false, apart := false }
def FnExactEvaluateDiagramSaid : Prop := fnExactEvaluateDiagramRow.holds Try.pinned (OpenSpec.ofChange fnExactEvaluateDiagramSpec)

/-- ITS FALSE NEIGHBOUR: 'it returns false'. Refute it at one input. -/
def fnExactEvaluateDiagramWrong : ChangeSpec := { name := "fnExactEvaluateDiagram", fn := fun _ => fun
  | [d1, d2] => { results := [.lit (.bool false)], args := [d1, d2] }
  | _ => none }
def FnExactEvaluateDiagramWrongFalsely : Prop := fnExactEvaluateDiagramRow.holds Try.pinned (OpenSpec.ofChange fnExactEvaluateDiagramWrong)

/-- 'laws.FnExactTestsEvaluated': WHATEVER THE INPUT: true; the input reads as it did. -/
def fnExactTestsEvaluatedSpec : ChangeSpec := { name := "fnExactTestsEvaluated", fn := fun _ => fun
  | [d1, d2] => { results := [.lit (.bool true)], args := [d1, d2] }
  | _ => none }
def fnExactTestsEvaluatedRow : OpenClaim := { program := "ytookcggmapldeaa", sum := "078d617097e014527898e8c7efe34ccc644ca1d266e466c8aaae9722d7ac348a", func := "loop.example/g01923/laws.FnExactTestsEvaluated", spec := "fnExactTestsEvaluated", plainKeys := false, apart := false }
def FnExactTestsEvaluatedSaid : Prop := fnExactTestsEvaluatedRow.holds Try.pinned (OpenSpec.ofChange fnExactTestsEvaluatedSpec)

/-- ITS FALSE NEIGHBOUR: 'it returns false'. Refute it at one input. -/
def fnExactTestsEvaluatedWrong : ChangeSpec := { name := "fnExactTestsEvaluated", fn := fun _ => fun
  | [d1, d2] => { results := [.lit (.bool false)], args := [d1, d2] }
  | _ => none }
def FnExactTestsEvaluatedWrongFalsely : Prop := fnExactTestsEvaluatedRow.holds Try.pinned (OpenSpec.ofChange fnExactTestsEvaluatedWrong)

/-- 'laws.FnExactEqualDiagrams': WHATEVER THE INPUT: true; the input reads as it did. -/
def fnExactEqualDiagramsSpec : ChangeSpec := { name := "fnExactEqualDiagrams", fn := fun _ => fun
  | [d1, d2] => { results := [.lit (.bool true)], args := [d1, d2] }
  | _ => none }
def fnExactEqualDiagramsRow : OpenClaim := { program := "ytookcggmapldeaa", sum := "078d617097e014527898e8c7efe34ccc644ca1d266e466c8aaae9722d7ac348a", func := "loop.example/g01923/laws.FnExactEqualDiagrams", spec := "fnExactEqualDiagrams", plainKeys := false, apart := false }
def FnExactEqualDiagramsSaid : Prop := fnExactEqualDiagramsRow.holds Try.pinned (OpenSpec.ofChange fnExactEqualDiagramsSpec)

/-- ITS FALSE NEIGHBOUR: 'it returns false'. Refute it at one input. -/
def fnExactEqualDiagramsWrong : ChangeSpec := { name := "fnExactEqualDiagrams", fn := fun _ => fun
  | [d1, d2] => { results := [.lit (.bool false)], args := [d1, d2] }
  | _ => none }
def FnExactEqualDiagramsWrongFalsely : Prop := fnExactEqualDiagramsRow.holds Try.pinned (OpenSpec.ofChange fnExactEqualDiagramsWrong)

/- THE SECOND FORM. 'bulk': how many values and letters a reading holds, each counted each time it is reached (what is shared counts as often as it is met; a slice's spare places count too). A statement '..UptoSaid' is the law's where the arguments, and the package variables that the reading takes, are together of bulk at most 1048576: NARROWER than '..Said'. Prove '..Said' where nothing that the law and all that it calls make is longer than what came in: it says more and counts as full. Else prove '..UptoSaid'. A law counts once. -/
mutual
def uptoBulk {H : Type} : DataW H → Nat
  | .lit (.string bytes) => bytes.length + 1
  | .lit _ => 1
  | .nil => 1
  | .ptr d => uptoBulk d + 1
  | .slice elems spare => uptoBulkAll elems + uptoBulkAll spare + 1
  | .agg parts => uptoBulkAll parts + 1
  | .iface _ d => uptoBulk d + 1
  | .map entries => uptoBulkEntries entries + 1
  | .held _ => 1
def uptoBulkAll {H : Type} : List (DataW H) → Nat
  | [] => 0
  | d :: r => uptoBulk d + uptoBulkAll r
def uptoBulkEntries {H : Type} : List (Lit × DataW H) → Nat
  | [] => 0
  | x :: r => uptoBulkEntry x + uptoBulkEntries r
def uptoBulkEntry {H : Type} : Lit × DataW H → Nat
  | (.string bytes, d) => bytes.length + uptoBulk d + 1
  | (_, d) => uptoBulk d + 1
 end
def uptoSmall : (H : Type) → List (DataW H) → Bool := fun _ ds => decide (uptoBulkAll ds ≤ 1048576)
def OpenSpec.upto (s : _root_.Go.ChangeSpec) : _root_.Go.OpenSpec := { _root_.Go.OpenSpec.ofChange s with cond := some uptoSmall }

/-- 'laws.FnExactDiagramVariables', WHERE WHAT IT READS IS OF BULK AT MOST 1048576: true; the input reads as it did. -/
def fnExactDiagramVariablesUptoRow : OpenClaim := { program := "ytookcggmapldeaa", sum := "078d617097e014527898e8c7efe34ccc644ca1d266e466c8aaae9722d7ac348a", func := "loop.example/g01923/laws.FnExactDiagramVariables", spec := "fnExactDiagramVariables", unfollowed := true, recurses := true, plainKeys := false, apart := false, narrowed := true }
def FnExactDiagramVariablesUptoSaid : Prop := fnExactDiagramVariablesUptoRow.holds Try.pinned (OpenSpec.upto fnExactDiagramVariablesSpec)

/-- 'laws.FnExactBuildDiagram', WHERE WHAT IT READS IS OF BULK AT MOST 1048576: true; the input reads as it did. -/
def fnExactBuildDiagramUptoRow : OpenClaim := { program := "ytookcggmapldeaa", sum := "078d617097e014527898e8c7efe34ccc644ca1d266e466c8aaae9722d7ac348a", func := "loop.example/g01923/laws.FnExactBuildDiagram", spec := "fnExactBuildDiagram", unfollowed := true, recurses := true, plainKeys := false, apart := false, narrowed := true }
def FnExactBuildDiagramUptoSaid : Prop := fnExactBuildDiagramUptoRow.holds Try.pinned (OpenSpec.upto fnExactBuildDiagramSpec)

/-- 'laws.FnExactIsValidDiagram', WHERE WHAT IT READS IS OF BULK AT MOST 1048576: true; the input reads as it did. -/
def fnExactIsValidDiagramUptoRow : OpenClaim := { program := "ytookcggmapldeaa", sum := "078d617097e014527898e8c7efe34ccc644ca1d266e466c8aaae9722d7ac348a", func := "loop.example/g01923/laws.FnExactIsValidDiagram", spec := "fnExactIsValidDiagram", plainKeys := false, apart := false, narrowed := true }
def FnExactIsValidDiagramUptoSaid : Prop := fnExactIsValidDiagramUptoRow.holds Try.pinned (OpenSpec.upto fnExactIsValidDiagramSpec)

/-- 'laws.FnExactEvaluateDiagram', WHERE WHAT IT READS IS OF BULK AT MOST 1048576: true; the input reads as it did. -/
def fnExactEvaluateDiagramUptoRow : OpenClaim := { program := "ytookcggmapldeaa", sum := "078d617097e014527898e8c7efe34ccc644ca1d266e466c8aaae9722d7ac348a", func := "loop.example/g01923/laws.FnExactEvaluateDiagram", spec := "fnExactEvaluateDiagram", plainKeys := false, apart := false, narrowed := true }
def FnExactEvaluateDiagramUptoSaid : Prop := fnExactEvaluateDiagramUptoRow.holds Try.pinned (OpenSpec.upto fnExactEvaluateDiagramSpec)

/-- 'laws.FnExactTestsEvaluated', WHERE WHAT IT READS IS OF BULK AT MOST 1048576: true; the input reads as it did. -/
def fnExactTestsEvaluatedUptoRow : OpenClaim := { program := "ytookcggmapldeaa", sum := "078d617097e014527898e8c7efe34ccc644ca1d266e466c8aaae9722d7ac348a", func := "loop.example/g01923/laws.FnExactTestsEvaluated", spec := "fnExactTestsEvaluated", plainKeys := false, apart := false, narrowed := true }
def FnExactTestsEvaluatedUptoSaid : Prop := fnExactTestsEvaluatedUptoRow.holds Try.pinned (OpenSpec.upto fnExactTestsEvaluatedSpec)

/-- 'laws.FnExactEqualDiagrams', WHERE WHAT IT READS IS OF BULK AT MOST 1048576: true; the input reads as it did. -/
def fnExactEqualDiagramsUptoRow : OpenClaim := { program := "ytookcggmapldeaa", sum := "078d617097e014527898e8c7efe34ccc644ca1d266e466c8aaae9722d7ac348a", func := "loop.example/g01923/laws.FnExactEqualDiagrams", spec := "fnExactEqualDiagrams", plainKeys := false, apart := false, narrowed := true }
def FnExactEqualDiagramsUptoSaid : Prop := fnExactEqualDiagramsUptoRow.holds Try.pinned (OpenSpec.upto fnExactEqualDiagramsSpec)

end Rows
end Go.Proofs.Ytookcggmapldeaa
