/-
  No cell of these rows narrows 'for every input' (looked for: loops, veiled, ifaces, maps, wideKeys, modest, calm, conditions, laid).
  DERIVED. THE GIVEN ROWS OF THIS SEAT. 3 by the template 'for every input the law returns true; each argument reads behind the call as it read before'; 0 by the template 'total and deterministic' (their statements: YtggohfinkpppkabTotals.lean).
  GIVEN WITH THE SEED: the statements are not yours to turn. If you find one false, say at which input.
  Laid BY PROGRAM, IN A SANDBOX (cutbox-rows.mjs): the forced cells as the released guide's own fill.sh prints them over the translation 3b70dacd60f05c9c… (all of the seat's roots in one cut). By AI agents, Wed Nov 11 2026. No macro, syntax, notation, axiom, sorry.
-/
import Derived.Test.YtggohfinkpppkabChecked
import GoSem.Claim
import GoSem.ClaimJoined
import GoSem.ClaimMapViews
import Derived.JoinedTies
import Derived.KernelRfl
namespace Go.Proofs.Ytggohfinkpppkab
/- THE CELL 'sum', in the pinned program and in every row, IS THE sha256 OF THE DUMP (.gsa) THAT YtggohfinkpppkabProg.lean LOADS. Nothing in Lean hashes anything: it is a label: what it is worth is what the hold of that sum in a sandbox is worth. -/
noncomputable def Try.pinned : Pinned := { name := "ytggohfinkpppkab", sum := "3b70dacd60f05c9cd49cf32fa45fdd8ead5355976f59c71df3f43ae61d3afdcf", checked := Try.checked }
namespace Rows
def none {H : Type} : Left H := { results := [], args := [] }

/-- 'laws.FnSets': WHATEVER THE INPUT: true; the input reads as it did. -/
def fnSetsSpec : ChangeSpec := { name := "fnSets", fn := fun _ => fun
  | [d] => { results := [.lit (.bool true)], args := [d] }
  | _ => none }
def fnSetsRow : OpenClaim := { program := "ytggohfinkpppkab", sum := "3b70dacd60f05c9cd49cf32fa45fdd8ead5355976f59c71df3f43ae61d3afdcf", func := "loop.example/g01923/laws.FnSets", spec := "fnSets", recurses := true, apart := false }
def FnSetsSaid : Prop := fnSetsRow.holds Try.pinned (OpenSpec.ofChange fnSetsSpec)

/-- ITS FALSE NEIGHBOUR: 'it returns false'. Refute it at one input. -/
def fnSetsWrong : ChangeSpec := { name := "fnSets", fn := fun _ => fun
  | [d] => { results := [.lit (.bool false)], args := [d] }
  | _ => none }
def FnSetsWrongFalsely : Prop := fnSetsRow.holds Try.pinned (OpenSpec.ofChange fnSetsWrong)

/-- 'laws.FnExactCommonTokens': WHATEVER THE INPUT: true; the input reads as it did. -/
def fnExactCommonTokensSpec : ChangeSpec := { name := "fnExactCommonTokens", fn := fun _ => fun
  | [d1, d2] => { results := [.lit (.bool true)], args := [d1, d2] }
  | _ => none }
def fnExactCommonTokensRow : OpenClaim := { program := "ytggohfinkpppkab", sum := "3b70dacd60f05c9cd49cf32fa45fdd8ead5355976f59c71df3f43ae61d3afdcf", func := "loop.example/g01923/laws.FnExactCommonTokens", spec := "fnExactCommonTokens", recurses := true, apart := false }
def FnExactCommonTokensSaid : Prop := fnExactCommonTokensRow.holds Try.pinned (OpenSpec.ofChange fnExactCommonTokensSpec)

/-- ITS FALSE NEIGHBOUR: 'it returns false'. Refute it at one input. -/
def fnExactCommonTokensWrong : ChangeSpec := { name := "fnExactCommonTokens", fn := fun _ => fun
  | [d1, d2] => { results := [.lit (.bool false)], args := [d1, d2] }
  | _ => none }
def FnExactCommonTokensWrongFalsely : Prop := fnExactCommonTokensRow.holds Try.pinned (OpenSpec.ofChange fnExactCommonTokensWrong)

/-- 'laws.FnExactUniteTokens': WHATEVER THE INPUT: true; the input reads as it did. -/
def fnExactUniteTokensSpec : ChangeSpec := { name := "fnExactUniteTokens", fn := fun _ => fun
  | [d1, d2] => { results := [.lit (.bool true)], args := [d1, d2] }
  | _ => none }
def fnExactUniteTokensRow : OpenClaim := { program := "ytggohfinkpppkab", sum := "3b70dacd60f05c9cd49cf32fa45fdd8ead5355976f59c71df3f43ae61d3afdcf", func := "loop.example/g01923/laws.FnExactUniteTokens", spec := "fnExactUniteTokens", recurses := true, apart := false }
def FnExactUniteTokensSaid : Prop := fnExactUniteTokensRow.holds Try.pinned (OpenSpec.ofChange fnExactUniteTokensSpec)

/-- ITS FALSE NEIGHBOUR: 'it returns false'. Refute it at one input. -/
def fnExactUniteTokensWrong : ChangeSpec := { name := "fnExactUniteTokens", fn := fun _ => fun
  | [d1, d2] => { results := [.lit (.bool false)], args := [d1, d2] }
  | _ => none }
def FnExactUniteTokensWrongFalsely : Prop := fnExactUniteTokensRow.holds Try.pinned (OpenSpec.ofChange fnExactUniteTokensWrong)

/- THE SECOND FORM. 'bulk': how many values and letters a reading holds, each counted each time it is reached (what is shared counts as often as it is met; a slice's spare places count too). A statement '..UptoSaid' is the law's where the arguments, and the package variables that the reading takes, are together of bulk at most 1048576: NARROWER than '..Said'. Prove '..Said' where nothing that the law and all that it calls make is longer than what came in: it says more and counts as full. Else prove '..UptoSaid'. A law counts once. -/
mutual
def uptoBulk {H : Type} : DataW H → Nat
  | .lit (.string bytes) => bytes.length + 1
  | .lit _ => 1
  | .nil => 1
  | .ptr d => uptoBulk d + 1
  | .slice elems spare => uptoBulkAll elems + uptoBulkAll spare + 1
  | .agg parts => uptoBulkAll parts + 1
  | .iface _ d => uptoBulk d + 1
  | .map entries => uptoBulkEntries entries + 1
  | .held _ => 1
def uptoBulkAll {H : Type} : List (DataW H) → Nat
  | [] => 0
  | d :: r => uptoBulk d + uptoBulkAll r
def uptoBulkEntries {H : Type} : List (Lit × DataW H) → Nat
  | [] => 0
  | x :: r => uptoBulkEntry x + uptoBulkEntries r
def uptoBulkEntry {H : Type} : Lit × DataW H → Nat
  | (.string bytes, d) => bytes.length + uptoBulk d + 1
  | (_, d) => uptoBulk d + 1
 end
def uptoSmall : (H : Type) → List (DataW H) → Bool := fun _ ds => decide (uptoBulkAll ds ≤ 1048576)
def OpenSpec.upto (s : _root_.Go.ChangeSpec) : _root_.Go.OpenSpec := { _root_.Go.OpenSpec.ofChange s with cond := some uptoSmall }

/-- 'laws.FnSets', WHERE WHAT IT READS IS OF BULK AT MOST 1048576: true; the input reads as it did. -/
def fnSetsUptoRow : OpenClaim := { program := "ytggohfinkpppkab", sum := "3b70dacd60f05c9cd49cf32fa45fdd8ead5355976f59c71df3f43ae61d3afdcf", func := "loop.example/g01923/laws.FnSets", spec := "fnSets", recurses := true, apart := false, narrowed := true }
def FnSetsUptoSaid : Prop := fnSetsUptoRow.holds Try.pinned (OpenSpec.upto fnSetsSpec)

/-- 'laws.FnExactCommonTokens', WHERE WHAT IT READS IS OF BULK AT MOST 1048576: true; the input reads as it did. -/
def fnExactCommonTokensUptoRow : OpenClaim := { program := "ytggohfinkpppkab", sum := "3b70dacd60f05c9cd49cf32fa45fdd8ead5355976f59c71df3f43ae61d3afdcf", func := "loop.example/g01923/laws.FnExactCommonTokens", spec := "fnExactCommonTokens", recurses := true, apart := false, narrowed := true }
def FnExactCommonTokensUptoSaid : Prop := fnExactCommonTokensUptoRow.holds Try.pinned (OpenSpec.upto fnExactCommonTokensSpec)

/-- 'laws.FnExactUniteTokens', WHERE WHAT IT READS IS OF BULK AT MOST 1048576: true; the input reads as it did. -/
def fnExactUniteTokensUptoRow : OpenClaim := { program := "ytggohfinkpppkab", sum := "3b70dacd60f05c9cd49cf32fa45fdd8ead5355976f59c71df3f43ae61d3afdcf", func := "loop.example/g01923/laws.FnExactUniteTokens", spec := "fnExactUniteTokens", recurses := true, apart := false, narrowed := true }
def FnExactUniteTokensUptoSaid : Prop := fnExactUniteTokensUptoRow.holds Try.pinned (OpenSpec.upto fnExactUniteTokensSpec)

end Rows
end Go.Proofs.Ytggohfinkpppkab
