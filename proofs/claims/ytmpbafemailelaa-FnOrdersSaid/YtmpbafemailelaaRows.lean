/-
  No cell of these rows narrows 'for every input' (looked for: loops, veiled, ifaces, maps, wideKeys, modest, calm, conditions, laid).
  DERIVED. THE GIVEN ROWS OF THIS SEAT. 12 by the template 'for every input the law returns true; each argument reads behind the call as it read before'; 0 by the template 'total and deterministic' (their statements: YtmpbafemailelaaTotals.lean).
  GIVEN WITH THE SEED: the statements are not yours to turn. If you find one false, say at which input.
  Laid BY PROGRAM, IN A SANDBOX (cutbox-rows.mjs): the forced cells as the released guide's own fill.sh prints them over the translation 2d5b5f09d9caf10f… (all of the seat's roots in one cut). By AI agents, Wed Nov 11 2026. No macro, syntax, notation, axiom, sorry.
-/
import Derived.Test.YtmpbafemailelaaChecked
import GoSem.Claim
import GoSem.ClaimJoined
import GoSem.ClaimMapViews
import Derived.JoinedTies
import Derived.KernelRfl
namespace Go.Proofs.Ytmpbafemailelaa
/- THE CELL 'sum', in the pinned program and in every row, IS THE sha256 OF THE DUMP (.gsa) THAT YtmpbafemailelaaProg.lean LOADS. Nothing in Lean hashes anything: it is a label: what it is worth is what the hold of that sum in a sandbox is worth. -/
noncomputable def Try.pinned : Pinned := { name := "ytmpbafemailelaa", sum := "2d5b5f09d9caf10f014edfbbf6e75511d15d6c44f02a21c18e2cf602d729ca1b", checked := Try.checked }
namespace Rows
def none {H : Type} : Left H := { results := [], args := [] }

/-- 'laws.FnPrefixes': WHATEVER THE INPUT: true; the input reads as it did. -/
def fnPrefixesSpec : ChangeSpec := { name := "fnPrefixes", fn := fun _ => fun
  | [d] => { results := [.lit (.bool true)], args := [d] }
  | _ => none }
def fnPrefixesRow : OpenClaim := { program := "ytmpbafemailelaa", sum := "2d5b5f09d9caf10f014edfbbf6e75511d15d6c44f02a21c18e2cf602d729ca1b", func := "loop.example/g01923/laws.FnPrefixes", spec := "fnPrefixes", unfollowed := true, recurses := true, apart := false }
def FnPrefixesSaid : Prop := fnPrefixesRow.holds Try.pinned (OpenSpec.ofChange fnPrefixesSpec)

/-- ITS FALSE NEIGHBOUR: 'it returns false'. Refute it at one input. -/
def fnPrefixesWrong : ChangeSpec := { name := "fnPrefixes", fn := fun _ => fun
  | [d] => { results := [.lit (.bool false)], args := [d] }
  | _ => none }
def FnPrefixesWrongFalsely : Prop := fnPrefixesRow.holds Try.pinned (OpenSpec.ofChange fnPrefixesWrong)

/-- 'laws.FnOrders': WHATEVER THE INPUT: true; the input reads as it did. -/
def fnOrdersSpec : ChangeSpec := { name := "fnOrders", fn := fun _ => fun
  | [d] => { results := [.lit (.bool true)], args := [d] }
  | _ => none }
def fnOrdersRow : OpenClaim := { program := "ytmpbafemailelaa", sum := "2d5b5f09d9caf10f014edfbbf6e75511d15d6c44f02a21c18e2cf602d729ca1b", func := "loop.example/g01923/laws.FnOrders", spec := "fnOrders", unfollowed := true, recurses := true, apart := false }
def FnOrdersSaid : Prop := fnOrdersRow.holds Try.pinned (OpenSpec.ofChange fnOrdersSpec)

/-- ITS FALSE NEIGHBOUR: 'it returns false'. Refute it at one input. -/
def fnOrdersWrong : ChangeSpec := { name := "fnOrders", fn := fun _ => fun
  | [d] => { results := [.lit (.bool false)], args := [d] }
  | _ => none }
def FnOrdersWrongFalsely : Prop := fnOrdersRow.holds Try.pinned (OpenSpec.ofChange fnOrdersWrong)

/-- 'laws.FnExactCountTokens': WHATEVER THE INPUT: true; the input reads as it did. -/
def fnExactCountTokensSpec : ChangeSpec := { name := "fnExactCountTokens", fn := fun _ => fun
  | [d] => { results := [.lit (.bool true)], args := [d] }
  | _ => none }
def fnExactCountTokensRow : OpenClaim := { program := "ytmpbafemailelaa", sum := "2d5b5f09d9caf10f014edfbbf6e75511d15d6c44f02a21c18e2cf602d729ca1b", func := "loop.example/g01923/laws.FnExactCountTokens", spec := "fnExactCountTokens", recurses := true, apart := false }
def FnExactCountTokensSaid : Prop := fnExactCountTokensRow.holds Try.pinned (OpenSpec.ofChange fnExactCountTokensSpec)

/-- ITS FALSE NEIGHBOUR: 'it returns false'. Refute it at one input. -/
def fnExactCountTokensWrong : ChangeSpec := { name := "fnExactCountTokens", fn := fun _ => fun
  | [d] => { results := [.lit (.bool false)], args := [d] }
  | _ => none }
def FnExactCountTokensWrongFalsely : Prop := fnExactCountTokensRow.holds Try.pinned (OpenSpec.ofChange fnExactCountTokensWrong)

/-- 'laws.FnExactIsTokenTable': WHATEVER THE INPUT: true; the input reads as it did. -/
def fnExactIsTokenTableSpec : ChangeSpec := { name := "fnExactIsTokenTable", fn := fun _ => fun
  | [d] => { results := [.lit (.bool true)], args := [d] }
  | _ => none }
def fnExactIsTokenTableRow : OpenClaim := { program := "ytmpbafemailelaa", sum := "2d5b5f09d9caf10f014edfbbf6e75511d15d6c44f02a21c18e2cf602d729ca1b", func := "loop.example/g01923/laws.FnExactIsTokenTable", spec := "fnExactIsTokenTable", apart := false }
def FnExactIsTokenTableSaid : Prop := fnExactIsTokenTableRow.holds Try.pinned (OpenSpec.ofChange fnExactIsTokenTableSpec)

/-- ITS FALSE NEIGHBOUR: 'it returns false'. Refute it at one input. -/
def fnExactIsTokenTableWrong : ChangeSpec := { name := "fnExactIsTokenTable", fn := fun _ => fun
  | [d] => { results := [.lit (.bool false)], args := [d] }
  | _ => none }
def FnExactIsTokenTableWrongFalsely : Prop := fnExactIsTokenTableRow.holds Try.pinned (OpenSpec.ofChange fnExactIsTokenTableWrong)

/-- 'laws.FnExactTokenFrequency': WHATEVER THE INPUT: true; the input reads as it did. -/
def fnExactTokenFrequencySpec : ChangeSpec := { name := "fnExactTokenFrequency", fn := fun _ => fun
  | [d1, d2] => { results := [.lit (.bool true)], args := [d1, d2] }
  | _ => none }
def fnExactTokenFrequencyRow : OpenClaim := { program := "ytmpbafemailelaa", sum := "2d5b5f09d9caf10f014edfbbf6e75511d15d6c44f02a21c18e2cf602d729ca1b", func := "loop.example/g01923/laws.FnExactTokenFrequency", spec := "fnExactTokenFrequency", apart := false }
def FnExactTokenFrequencySaid : Prop := fnExactTokenFrequencyRow.holds Try.pinned (OpenSpec.ofChange fnExactTokenFrequencySpec)

/-- ITS FALSE NEIGHBOUR: 'it returns false'. Refute it at one input. -/
def fnExactTokenFrequencyWrong : ChangeSpec := { name := "fnExactTokenFrequency", fn := fun _ => fun
  | [d1, d2] => { results := [.lit (.bool false)], args := [d1, d2] }
  | _ => none }
def FnExactTokenFrequencyWrongFalsely : Prop := fnExactTokenFrequencyRow.holds Try.pinned (OpenSpec.ofChange fnExactTokenFrequencyWrong)

/-- 'laws.FnExactOrderTokens': WHATEVER THE INPUT: true; the input reads as it did. -/
def fnExactOrderTokensSpec : ChangeSpec := { name := "fnExactOrderTokens", fn := fun _ => fun
  | [d1, d2] => { results := [.lit (.bool true)], args := [d1, d2] }
  | _ => none }
def fnExactOrderTokensRow : OpenClaim := { program := "ytmpbafemailelaa", sum := "2d5b5f09d9caf10f014edfbbf6e75511d15d6c44f02a21c18e2cf602d729ca1b", func := "loop.example/g01923/laws.FnExactOrderTokens", spec := "fnExactOrderTokens", unfollowed := true, recurses := true, apart := false }
def FnExactOrderTokensSaid : Prop := fnExactOrderTokensRow.holds Try.pinned (OpenSpec.ofChange fnExactOrderTokensSpec)

/-- ITS FALSE NEIGHBOUR: 'it returns false'. Refute it at one input. -/
def fnExactOrderTokensWrong : ChangeSpec := { name := "fnExactOrderTokens", fn := fun _ => fun
  | [d1, d2] => { results := [.lit (.bool false)], args := [d1, d2] }
  | _ => none }
def FnExactOrderTokensWrongFalsely : Prop := fnExactOrderTokensRow.holds Try.pinned (OpenSpec.ofChange fnExactOrderTokensWrong)

/-- 'laws.FnExactPrefixLength': WHATEVER THE INPUT: true; the input reads as it did. -/
def fnExactPrefixLengthSpec : ChangeSpec := { name := "fnExactPrefixLength", fn := fun _ => fun
  | [d1, d2] => { results := [.lit (.bool true)], args := [d1, d2] }
  | _ => none }
def fnExactPrefixLengthRow : OpenClaim := { program := "ytmpbafemailelaa", sum := "2d5b5f09d9caf10f014edfbbf6e75511d15d6c44f02a21c18e2cf602d729ca1b", func := "loop.example/g01923/laws.FnExactPrefixLength", spec := "fnExactPrefixLength", apart := false }
def FnExactPrefixLengthSaid : Prop := fnExactPrefixLengthRow.holds Try.pinned (OpenSpec.ofChange fnExactPrefixLengthSpec)

/-- ITS FALSE NEIGHBOUR: 'it returns false'. Refute it at one input. -/
def fnExactPrefixLengthWrong : ChangeSpec := { name := "fnExactPrefixLength", fn := fun _ => fun
  | [d1, d2] => { results := [.lit (.bool false)], args := [d1, d2] }
  | _ => none }
def FnExactPrefixLengthWrongFalsely : Prop := fnExactPrefixLengthRow.holds Try.pinned (OpenSpec.ofChange fnExactPrefixLengthWrong)

/-- 'laws.FnExactPrefixTokens': WHATEVER THE INPUT: true; the input reads as it did. -/
def fnExactPrefixTokensSpec : ChangeSpec := { name := "fnExactPrefixTokens", fn := fun _ => fun
  | [d1, d2, d3] => { results := [.lit (.bool true)], args := [d1, d2, d3] }
  | _ => none }
def fnExactPrefixTokensRow : OpenClaim := { program := "ytmpbafemailelaa", sum := "2d5b5f09d9caf10f014edfbbf6e75511d15d6c44f02a21c18e2cf602d729ca1b", func := "loop.example/g01923/laws.FnExactPrefixTokens", spec := "fnExactPrefixTokens", unfollowed := true, recurses := true, apart := false }
def FnExactPrefixTokensSaid : Prop := fnExactPrefixTokensRow.holds Try.pinned (OpenSpec.ofChange fnExactPrefixTokensSpec)

/-- ITS FALSE NEIGHBOUR: 'it returns false'. Refute it at one input. -/
def fnExactPrefixTokensWrong : ChangeSpec := { name := "fnExactPrefixTokens", fn := fun _ => fun
  | [d1, d2, d3] => { results := [.lit (.bool false)], args := [d1, d2, d3] }
  | _ => none }
def FnExactPrefixTokensWrongFalsely : Prop := fnExactPrefixTokensRow.holds Try.pinned (OpenSpec.ofChange fnExactPrefixTokensWrong)

/-- 'laws.FnExactSharePrefix': WHATEVER THE INPUT: true; the input reads as it did. -/
def fnExactSharePrefixSpec : ChangeSpec := { name := "fnExactSharePrefix", fn := fun _ => fun
  | [d1, d2, d3, d4] => { results := [.lit (.bool true)], args := [d1, d2, d3, d4] }
  | _ => none }
def fnExactSharePrefixRow : OpenClaim := { program := "ytmpbafemailelaa", sum := "2d5b5f09d9caf10f014edfbbf6e75511d15d6c44f02a21c18e2cf602d729ca1b", func := "loop.example/g01923/laws.FnExactSharePrefix", spec := "fnExactSharePrefix", unfollowed := true, recurses := true, apart := false }
def FnExactSharePrefixSaid : Prop := fnExactSharePrefixRow.holds Try.pinned (OpenSpec.ofChange fnExactSharePrefixSpec)

/-- ITS FALSE NEIGHBOUR: 'it returns false'. Refute it at one input. -/
def fnExactSharePrefixWrong : ChangeSpec := { name := "fnExactSharePrefix", fn := fun _ => fun
  | [d1, d2, d3, d4] => { results := [.lit (.bool false)], args := [d1, d2, d3, d4] }
  | _ => none }
def FnExactSharePrefixWrongFalsely : Prop := fnExactSharePrefixRow.holds Try.pinned (OpenSpec.ofChange fnExactSharePrefixWrong)

/-- 'laws.FnExactCommonTokens': WHATEVER THE INPUT: true; the input reads as it did. -/
def fnExactCommonTokensSpec : ChangeSpec := { name := "fnExactCommonTokens", fn := fun _ => fun
  | [d1, d2] => { results := [.lit (.bool true)], args := [d1, d2] }
  | _ => none }
def fnExactCommonTokensRow : OpenClaim := { program := "ytmpbafemailelaa", sum := "2d5b5f09d9caf10f014edfbbf6e75511d15d6c44f02a21c18e2cf602d729ca1b", func := "loop.example/g01923/laws.FnExactCommonTokens", spec := "fnExactCommonTokens", recurses := true, apart := false }
def FnExactCommonTokensSaid : Prop := fnExactCommonTokensRow.holds Try.pinned (OpenSpec.ofChange fnExactCommonTokensSpec)

/-- ITS FALSE NEIGHBOUR: 'it returns false'. Refute it at one input. -/
def fnExactCommonTokensWrong : ChangeSpec := { name := "fnExactCommonTokens", fn := fun _ => fun
  | [d1, d2] => { results := [.lit (.bool false)], args := [d1, d2] }
  | _ => none }
def FnExactCommonTokensWrongFalsely : Prop := fnExactCommonTokensRow.holds Try.pinned (OpenSpec.ofChange fnExactCommonTokensWrong)

/-- 'laws.FnExactUniteTokens': WHATEVER THE INPUT: true; the input reads as it did. -/
def fnExactUniteTokensSpec : ChangeSpec := { name := "fnExactUniteTokens", fn := fun _ => fun
  | [d1, d2] => { results := [.lit (.bool true)], args := [d1, d2] }
  | _ => none }
def fnExactUniteTokensRow : OpenClaim := { program := "ytmpbafemailelaa", sum := "2d5b5f09d9caf10f014edfbbf6e75511d15d6c44f02a21c18e2cf602d729ca1b", func := "loop.example/g01923/laws.FnExactUniteTokens", spec := "fnExactUniteTokens", recurses := true, apart := false }
def FnExactUniteTokensSaid : Prop := fnExactUniteTokensRow.holds Try.pinned (OpenSpec.ofChange fnExactUniteTokensSpec)

/-- ITS FALSE NEIGHBOUR: 'it returns false'. Refute it at one input. -/
def fnExactUniteTokensWrong : ChangeSpec := { name := "fnExactUniteTokens", fn := fun _ => fun
  | [d1, d2] => { results := [.lit (.bool false)], args := [d1, d2] }
  | _ => none }
def FnExactUniteTokensWrongFalsely : Prop := fnExactUniteTokensRow.holds Try.pinned (OpenSpec.ofChange fnExactUniteTokensWrong)

/-- 'laws.FnSets': WHATEVER THE INPUT: true; the input reads as it did. -/
def fnSetsSpec : ChangeSpec := { name := "fnSets", fn := fun _ => fun
  | [d] => { results := [.lit (.bool true)], args := [d] }
  | _ => none }
def fnSetsRow : OpenClaim := { program := "ytmpbafemailelaa", sum := "2d5b5f09d9caf10f014edfbbf6e75511d15d6c44f02a21c18e2cf602d729ca1b", func := "loop.example/g01923/laws.FnSets", spec := "fnSets", recurses := true, apart := false }
def FnSetsSaid : Prop := fnSetsRow.holds Try.pinned (OpenSpec.ofChange fnSetsSpec)

/-- ITS FALSE NEIGHBOUR: 'it returns false'. Refute it at one input. -/
def fnSetsWrong : ChangeSpec := { name := "fnSets", fn := fun _ => fun
  | [d] => { results := [.lit (.bool false)], args := [d] }
  | _ => none }
def FnSetsWrongFalsely : Prop := fnSetsRow.holds Try.pinned (OpenSpec.ofChange fnSetsWrong)

/- THE SECOND FORM. 'bulk': how many values and letters a reading holds, each counted each time it is reached (what is shared counts as often as it is met; a slice's spare places count too). A statement '..UptoSaid' is the law's where the arguments, and the package variables that the reading takes, are together of bulk at most 1048576: NARROWER than '..Said'. Prove '..Said' where nothing that the law and all that it calls make is longer than what came in: it says more and counts as full. Else prove '..UptoSaid'. A law counts once. -/
mutual
def uptoBulk {H : Type} : DataW H → Nat
  | .lit (.string bytes) => bytes.length + 1
  | .lit _ => 1
  | .nil => 1
  | .ptr d => uptoBulk d + 1
  | .slice elems spare => uptoBulkAll elems + uptoBulkAll spare + 1
  | .agg parts => uptoBulkAll parts + 1
  | .iface _ d => uptoBulk d + 1
  | .map entries => uptoBulkEntries entries + 1
  | .held _ => 1
def uptoBulkAll {H : Type} : List (DataW H) → Nat
  | [] => 0
  | d :: r => uptoBulk d + uptoBulkAll r
def uptoBulkEntries {H : Type} : List (Lit × DataW H) → Nat
  | [] => 0
  | x :: r => uptoBulkEntry x + uptoBulkEntries r
def uptoBulkEntry {H : Type} : Lit × DataW H → Nat
  | (.string bytes, d) => bytes.length + uptoBulk d + 1
  | (_, d) => uptoBulk d + 1
 end
def uptoSmall : (H : Type) → List (DataW H) → Bool := fun _ ds => decide (uptoBulkAll ds ≤ 1048576)
def OpenSpec.upto (s : _root_.Go.ChangeSpec) : _root_.Go.OpenSpec := { _root_.Go.OpenSpec.ofChange s with cond := some uptoSmall }

/-- 'laws.FnPrefixes', WHERE WHAT IT READS IS OF BULK AT MOST 1048576: true; the input reads as it did. -/
def fnPrefixesUptoRow : OpenClaim := { program := "ytmpbafemailelaa", sum := "2d5b5f09d9caf10f014edfbbf6e75511d15d6c44f02a21c18e2cf602d729ca1b", func := "loop.example/g01923/laws.FnPrefixes", spec := "fnPrefixes", unfollowed := true, recurses := true, apart := false, narrowed := true }
def FnPrefixesUptoSaid : Prop := fnPrefixesUptoRow.holds Try.pinned (OpenSpec.upto fnPrefixesSpec)

/-- 'laws.FnOrders', WHERE WHAT IT READS IS OF BULK AT MOST 1048576: true; the input reads as it did. -/
def fnOrdersUptoRow : OpenClaim := { program := "ytmpbafemailelaa", sum := "2d5b5f09d9caf10f014edfbbf6e75511d15d6c44f02a21c18e2cf602d729ca1b", func := "loop.example/g01923/laws.FnOrders", spec := "fnOrders", unfollowed := true, recurses := true, apart := false, narrowed := true }
def FnOrdersUptoSaid : Prop := fnOrdersUptoRow.holds Try.pinned (OpenSpec.upto fnOrdersSpec)

/-- 'laws.FnExactCountTokens', WHERE WHAT IT READS IS OF BULK AT MOST 1048576: true; the input reads as it did. -/
def fnExactCountTokensUptoRow : OpenClaim := { program := "ytmpbafemailelaa", sum := "2d5b5f09d9caf10f014edfbbf6e75511d15d6c44f02a21c18e2cf602d729ca1b", func := "loop.example/g01923/laws.FnExactCountTokens", spec := "fnExactCountTokens", recurses := true, apart := false, narrowed := true }
def FnExactCountTokensUptoSaid : Prop := fnExactCountTokensUptoRow.holds Try.pinned (OpenSpec.upto fnExactCountTokensSpec)

/-- 'laws.FnExactIsTokenTable', WHERE WHAT IT READS IS OF BULK AT MOST 1048576: true; the input reads as it did. -/
def fnExactIsTokenTableUptoRow : OpenClaim := { program := "ytmpbafemailelaa", sum := "2d5b5f09d9caf10f014edfbbf6e75511d15d6c44f02a21c18e2cf602d729ca1b", func := "loop.example/g01923/laws.FnExactIsTokenTable", spec := "fnExactIsTokenTable", apart := false, narrowed := true }
def FnExactIsTokenTableUptoSaid : Prop := fnExactIsTokenTableUptoRow.holds Try.pinned (OpenSpec.upto fnExactIsTokenTableSpec)

/-- 'laws.FnExactTokenFrequency', WHERE WHAT IT READS IS OF BULK AT MOST 1048576: true; the input reads as it did. -/
def fnExactTokenFrequencyUptoRow : OpenClaim := { program := "ytmpbafemailelaa", sum := "2d5b5f09d9caf10f014edfbbf6e75511d15d6c44f02a21c18e2cf602d729ca1b", func := "loop.example/g01923/laws.FnExactTokenFrequency", spec := "fnExactTokenFrequency", apart := false, narrowed := true }
def FnExactTokenFrequencyUptoSaid : Prop := fnExactTokenFrequencyUptoRow.holds Try.pinned (OpenSpec.upto fnExactTokenFrequencySpec)

/-- 'laws.FnExactOrderTokens', WHERE WHAT IT READS IS OF BULK AT MOST 1048576: true; the input reads as it did. -/
def fnExactOrderTokensUptoRow : OpenClaim := { program := "ytmpbafemailelaa", sum := "2d5b5f09d9caf10f014edfbbf6e75511d15d6c44f02a21c18e2cf602d729ca1b", func := "loop.example/g01923/laws.FnExactOrderTokens", spec := "fnExactOrderTokens", unfollowed := true, recurses := true, apart := false, narrowed := true }
def FnExactOrderTokensUptoSaid : Prop := fnExactOrderTokensUptoRow.holds Try.pinned (OpenSpec.upto fnExactOrderTokensSpec)

/-- 'laws.FnExactPrefixLength', WHERE WHAT IT READS IS OF BULK AT MOST 1048576: true; the input reads as it did. -/
def fnExactPrefixLengthUptoRow : OpenClaim := { program := "ytmpbafemailelaa", sum := "2d5b5f09d9caf10f014edfbbf6e75511d15d6c44f02a21c18e2cf602d729ca1b", func := "loop.example/g01923/laws.FnExactPrefixLength", spec := "fnExactPrefixLength", apart := false, narrowed := true }
def FnExactPrefixLengthUptoSaid : Prop := fnExactPrefixLengthUptoRow.holds Try.pinned (OpenSpec.upto fnExactPrefixLengthSpec)

/-- 'laws.FnExactPrefixTokens', WHERE WHAT IT READS IS OF BULK AT MOST 1048576: true; the input reads as it did. -/
def fnExactPrefixTokensUptoRow : OpenClaim := { program := "ytmpbafemailelaa", sum := "2d5b5f09d9caf10f014edfbbf6e75511d15d6c44f02a21c18e2cf602d729ca1b", func := "loop.example/g01923/laws.FnExactPrefixTokens", spec := "fnExactPrefixTokens", unfollowed := true, recurses := true, apart := false, narrowed := true }
def FnExactPrefixTokensUptoSaid : Prop := fnExactPrefixTokensUptoRow.holds Try.pinned (OpenSpec.upto fnExactPrefixTokensSpec)

/-- 'laws.FnExactSharePrefix', WHERE WHAT IT READS IS OF BULK AT MOST 1048576: true; the input reads as it did. -/
def fnExactSharePrefixUptoRow : OpenClaim := { program := "ytmpbafemailelaa", sum := "2d5b5f09d9caf10f014edfbbf6e75511d15d6c44f02a21c18e2cf602d729ca1b", func := "loop.example/g01923/laws.FnExactSharePrefix", spec := "fnExactSharePrefix", unfollowed := true, recurses := true, apart := false, narrowed := true }
def FnExactSharePrefixUptoSaid : Prop := fnExactSharePrefixUptoRow.holds Try.pinned (OpenSpec.upto fnExactSharePrefixSpec)

/-- 'laws.FnExactCommonTokens', WHERE WHAT IT READS IS OF BULK AT MOST 1048576: true; the input reads as it did. -/
def fnExactCommonTokensUptoRow : OpenClaim := { program := "ytmpbafemailelaa", sum := "2d5b5f09d9caf10f014edfbbf6e75511d15d6c44f02a21c18e2cf602d729ca1b", func := "loop.example/g01923/laws.FnExactCommonTokens", spec := "fnExactCommonTokens", recurses := true, apart := false, narrowed := true }
def FnExactCommonTokensUptoSaid : Prop := fnExactCommonTokensUptoRow.holds Try.pinned (OpenSpec.upto fnExactCommonTokensSpec)

/-- 'laws.FnExactUniteTokens', WHERE WHAT IT READS IS OF BULK AT MOST 1048576: true; the input reads as it did. -/
def fnExactUniteTokensUptoRow : OpenClaim := { program := "ytmpbafemailelaa", sum := "2d5b5f09d9caf10f014edfbbf6e75511d15d6c44f02a21c18e2cf602d729ca1b", func := "loop.example/g01923/laws.FnExactUniteTokens", spec := "fnExactUniteTokens", recurses := true, apart := false, narrowed := true }
def FnExactUniteTokensUptoSaid : Prop := fnExactUniteTokensUptoRow.holds Try.pinned (OpenSpec.upto fnExactUniteTokensSpec)

/-- 'laws.FnSets', WHERE WHAT IT READS IS OF BULK AT MOST 1048576: true; the input reads as it did. -/
def fnSetsUptoRow : OpenClaim := { program := "ytmpbafemailelaa", sum := "2d5b5f09d9caf10f014edfbbf6e75511d15d6c44f02a21c18e2cf602d729ca1b", func := "loop.example/g01923/laws.FnSets", spec := "fnSets", recurses := true, apart := false, narrowed := true }
def FnSetsUptoSaid : Prop := fnSetsUptoRow.holds Try.pinned (OpenSpec.upto fnSetsSpec)

end Rows
end Go.Proofs.Ytmpbafemailelaa
