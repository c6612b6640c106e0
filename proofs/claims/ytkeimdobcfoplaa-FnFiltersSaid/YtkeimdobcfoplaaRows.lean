/-
  No cell of these rows narrows 'for every input' (looked for: loops, veiled, ifaces, maps, wideKeys, modest, calm, conditions, laid).
  DERIVED. THE GIVEN ROWS OF THIS SEAT. 7 by the template 'for every input the law returns true; each argument reads behind the call as it read before'; 0 by the template 'total and deterministic' (their statements: YtkeimdobcfoplaaTotals.lean).
  GIVEN WITH THE SEED: the statements are not yours to turn. If you find one false, say at which input.
  Laid BY PROGRAM, IN A SANDBOX (cutbox-rows.mjs): the forced cells as the released guide's own fill.sh prints them over the translation ee3730ee6509d4ed… (all of the seat's roots in one cut). By AI agents, Wed Nov 11 2026. No macro, syntax, notation, axiom, sorry.
-/
import Derived.Test.YtkeimdobcfoplaaChecked
import GoSem.Claim
import GoSem.ClaimJoined
import GoSem.ClaimMapViews
import Derived.JoinedTies
import Derived.KernelRfl
namespace Go.Proofs.Ytkeimdobcfoplaa
/- THE CELL 'sum', in the pinned program and in every row, IS THE sha256 OF THE DUMP (.gsa) THAT YtkeimdobcfoplaaProg.lean LOADS. Nothing in Lean hashes anything: it is a label: what it is worth is what the hold of that sum in a sandbox is worth. -/
noncomputable def Try.pinned : Pinned := { name := "ytkeimdobcfoplaa", sum := "ee3730ee6509d4ede641ec42bf9c8343c067e7df7a2e13948568723e93dfb12f", checked := Try.checked }
namespace Rows
def none {H : Type} : Left H := { results := [], args := [] }

/-- 'laws.FnFilters': WHATEVER THE INPUT: true; the input reads as it did. -/
def fnFiltersSpec : ChangeSpec := { name := "fnFilters", fn := fun _ => fun
  | [d] => { results := [.lit (.bool true)], args := [d] }
  | _ => none }
def fnFiltersRow : OpenClaim := { program := "ytkeimdobcfoplaa", sum := "ee3730ee6509d4ede641ec42bf9c8343c067e7df7a2e13948568723e93dfb12f", func := "loop.example/g01923/laws.FnFilters", spec := "fnFilters", apart := false }
def FnFiltersSaid : Prop := fnFiltersRow.holds Try.pinned (OpenSpec.ofChange fnFiltersSpec)

/-- ITS FALSE NEIGHBOUR: 'it returns false'. Refute it at one input. -/
def fnFiltersWrong : ChangeSpec := { name := "fnFilters", fn := fun _ => fun
  | [d] => { results := [.lit (.bool false)], args := [d] }
  | _ => none }
def FnFiltersWrongFalsely : Prop := fnFiltersRow.holds Try.pinned (OpenSpec.ofChange fnFiltersWrong)

/-- 'laws.FnExactLengthFilter': WHATEVER THE INPUT: true; the input reads as it did. -/
def fnExactLengthFilterSpec : ChangeSpec := { name := "fnExactLengthFilter", fn := fun _ => fun
  | [d1, d2, d3] => { results := [.lit (.bool true)], args := [d1, d2, d3] }
  | _ => none }
def fnExactLengthFilterRow : OpenClaim := { program := "ytkeimdobcfoplaa", sum := "ee3730ee6509d4ede641ec42bf9c8343c067e7df7a2e13948568723e93dfb12f", func := "loop.example/g01923/laws.FnExactLengthFilter", spec := "fnExactLengthFilter", apart := false }
def FnExactLengthFilterSaid : Prop := fnExactLengthFilterRow.holds Try.pinned (OpenSpec.ofChange fnExactLengthFilterSpec)

/-- ITS FALSE NEIGHBOUR: 'it returns false'. Refute it at one input. -/
def fnExactLengthFilterWrong : ChangeSpec := { name := "fnExactLengthFilter", fn := fun _ => fun
  | [d1, d2, d3] => { results := [.lit (.bool false)], args := [d1, d2, d3] }
  | _ => none }
def FnExactLengthFilterWrongFalsely : Prop := fnExactLengthFilterRow.holds Try.pinned (OpenSpec.ofChange fnExactLengthFilterWrong)

/-- 'laws.FnExactMinCommonGrams': WHATEVER THE INPUT: true; the input reads as it did. -/
def fnExactMinCommonGramsSpec : ChangeSpec := { name := "fnExactMinCommonGrams", fn := fun _ => fun
  | [d1, d2, d3, d4] => { results := [.lit (.bool true)], args := [d1, d2, d3, d4] }
  | _ => none }
def fnExactMinCommonGramsRow : OpenClaim := { program := "ytkeimdobcfoplaa", sum := "ee3730ee6509d4ede641ec42bf9c8343c067e7df7a2e13948568723e93dfb12f", func := "loop.example/g01923/laws.FnExactMinCommonGrams", spec := "fnExactMinCommonGrams", apart := false }
def FnExactMinCommonGramsSaid : Prop := fnExactMinCommonGramsRow.holds Try.pinned (OpenSpec.ofChange fnExactMinCommonGramsSpec)

/-- ITS FALSE NEIGHBOUR: 'it returns false'. Refute it at one input. -/
def fnExactMinCommonGramsWrong : ChangeSpec := { name := "fnExactMinCommonGrams", fn := fun _ => fun
  | [d1, d2, d3, d4] => { results := [.lit (.bool false)], args := [d1, d2, d3, d4] }
  | _ => none }
def FnExactMinCommonGramsWrongFalsely : Prop := fnExactMinCommonGramsRow.holds Try.pinned (OpenSpec.ofChange fnExactMinCommonGramsWrong)

/-- 'laws.FnExactGramFilter': WHATEVER THE INPUT: true; the input reads as it did. -/
def fnExactGramFilterSpec : ChangeSpec := { name := "fnExactGramFilter", fn := fun _ => fun
  | [d1, d2, d3, d4] => { results := [.lit (.bool true)], args := [d1, d2, d3, d4] }
  | _ => none }
def fnExactGramFilterRow : OpenClaim := { program := "ytkeimdobcfoplaa", sum := "ee3730ee6509d4ede641ec42bf9c8343c067e7df7a2e13948568723e93dfb12f", func := "loop.example/g01923/laws.FnExactGramFilter", spec := "fnExactGramFilter", apart := false }
def FnExactGramFilterSaid : Prop := fnExactGramFilterRow.holds Try.pinned (OpenSpec.ofChange fnExactGramFilterSpec)

/-- ITS FALSE NEIGHBOUR: 'it returns false'. Refute it at one input. -/
def fnExactGramFilterWrong : ChangeSpec := { name := "fnExactGramFilter", fn := fun _ => fun
  | [d1, d2, d3, d4] => { results := [.lit (.bool false)], args := [d1, d2, d3, d4] }
  | _ => none }
def FnExactGramFilterWrongFalsely : Prop := fnExactGramFilterRow.holds Try.pinned (OpenSpec.ofChange fnExactGramFilterWrong)

/-- 'laws.FnExactPassesFilters': WHATEVER THE INPUT: true; the input reads as it did. -/
def fnExactPassesFiltersSpec : ChangeSpec := { name := "fnExactPassesFilters", fn := fun _ => fun
  | [d1, d2, d3] => { results := [.lit (.bool true)], args := [d1, d2, d3] }
  | _ => none }
def fnExactPassesFiltersRow : OpenClaim := { program := "ytkeimdobcfoplaa", sum := "ee3730ee6509d4ede641ec42bf9c8343c067e7df7a2e13948568723e93dfb12f", func := "loop.example/g01923/laws.FnExactPassesFilters", spec := "fnExactPassesFilters", apart := false }
def FnExactPassesFiltersSaid : Prop := fnExactPassesFiltersRow.holds Try.pinned (OpenSpec.ofChange fnExactPassesFiltersSpec)

/-- ITS FALSE NEIGHBOUR: 'it returns false'. Refute it at one input. -/
def fnExactPassesFiltersWrong : ChangeSpec := { name := "fnExactPassesFilters", fn := fun _ => fun
  | [d1, d2, d3] => { results := [.lit (.bool false)], args := [d1, d2, d3] }
  | _ => none }
def FnExactPassesFiltersWrongFalsely : Prop := fnExactPassesFiltersRow.holds Try.pinned (OpenSpec.ofChange fnExactPassesFiltersWrong)

/-- 'laws.FnExactSimilarStrings': WHATEVER THE INPUT: true; the input reads as it did. -/
def fnExactSimilarStringsSpec : ChangeSpec := { name := "fnExactSimilarStrings", fn := fun _ => fun
  | [d1, d2, d3] => { results := [.lit (.bool true)], args := [d1, d2, d3] }
  | _ => none }
def fnExactSimilarStringsRow : OpenClaim := { program := "ytkeimdobcfoplaa", sum := "ee3730ee6509d4ede641ec42bf9c8343c067e7df7a2e13948568723e93dfb12f", func := "loop.example/g01923/laws.FnExactSimilarStrings", spec := "fnExactSimilarStrings", apart := false }
def FnExactSimilarStringsSaid : Prop := fnExactSimilarStringsRow.holds Try.pinned (OpenSpec.ofChange fnExactSimilarStringsSpec)

/-- ITS FALSE NEIGHBOUR: 'it returns false'. Refute it at one input. -/
def fnExactSimilarStringsWrong : ChangeSpec := { name := "fnExactSimilarStrings", fn := fun _ => fun
  | [d1, d2, d3] => { results := [.lit (.bool false)], args := [d1, d2, d3] }
  | _ => none }
def FnExactSimilarStringsWrongFalsely : Prop := fnExactSimilarStringsRow.holds Try.pinned (OpenSpec.ofChange fnExactSimilarStringsWrong)

/-- 'laws.FnExactEditLimit': WHATEVER THE INPUT: true; the input reads as it did. -/
def fnExactEditLimitSpec : ChangeSpec := { name := "fnExactEditLimit", fn := fun _ => fun
  | [d1, d2, d3] => { results := [.lit (.bool true)], args := [d1, d2, d3] }
  | _ => none }
def fnExactEditLimitRow : OpenClaim := { program := "ytkeimdobcfoplaa", sum := "ee3730ee6509d4ede641ec42bf9c8343c067e7df7a2e13948568723e93dfb12f", func := "loop.example/g01923/laws.FnExactEditLimit", spec := "fnExactEditLimit", apart := false }
def FnExactEditLimitSaid : Prop := fnExactEditLimitRow.holds Try.pinned (OpenSpec.ofChange fnExactEditLimitSpec)

/-- ITS FALSE NEIGHBOUR: 'it returns false'. Refute it at one input. -/
def fnExactEditLimitWrong : ChangeSpec := { name := "fnExactEditLimit", fn := fun _ => fun
  | [d1, d2, d3] => { results := [.lit (.bool false)], args := [d1, d2, d3] }
  | _ => none }
def FnExactEditLimitWrongFalsely : Prop := fnExactEditLimitRow.holds Try.pinned (OpenSpec.ofChange fnExactEditLimitWrong)

/- THE SECOND FORM. 'bulk': how many values and letters a reading holds, each counted each time it is reached (what is shared counts as often as it is met; a slice's spare places count too). A statement '..UptoSaid' is the law's where the arguments, and the package variables that the reading takes, are together of bulk at most 1048576: NARROWER than '..Said'. Prove '..Said' where nothing that the law and all that it calls make is longer than what came in: it says more and counts as full. Else prove '..UptoSaid'. A law counts once. -/
mutual
def uptoBulk {H : Type} : DataW H → Nat
  | .lit (.string bytes) => bytes.length + 1
  | .lit _ => 1
  | .nil => 1
  | .ptr d => uptoBulk d + 1
  | .slice elems spare => uptoBulkAll elems + uptoBulkAll spare + 1
  | .agg parts => uptoBulkAll parts + 1
  | .iface _ d => uptoBulk d + 1
  | .map entries => uptoBulkEntries entries + 1
  | .held _ => 1
def uptoBulkAll {H : Type} : List (DataW H) → Nat
  | [] => 0
  | d :: r => uptoBulk d + uptoBulkAll r
def uptoBulkEntries {H : Type} : List (Lit × DataW H) → Nat
  | [] => 0
  | x :: r => uptoBulkEntry x + uptoBulkEntries r
def uptoBulkEntry {H : Type} : Lit × DataW H → Nat
  | (.string bytes, d) => bytes.length + uptoBulk d + 1
  | (_, d) => uptoBulk d + 1
 end
def uptoSmall : (H : Type) → List (DataW H) → Bool := fun _ ds => decide (uptoBulkAll ds ≤ 1048576)
def OpenSpec.upto (s : _root_.Go.ChangeSpec) : _root_.Go.OpenSpec := { _root_.Go.OpenSpec.ofChange s with cond := some uptoSmall }

/-- 'laws.FnFilters', WHERE WHAT IT READS IS OF BULK AT MOST 1048576: true; the input reads as it did. -/
def fnFiltersUptoRow : OpenClaim := { program := "ytkeimdobcfoplaa", sum := "ee3730ee6509d4ede641ec42bf9c8343c067e7df7a2e13948568723e93dfb12f", func := "loop.example/g01923/laws.FnFilters", spec := "fnFilters", apart := false, narrowed := true }
def FnFiltersUptoSaid : Prop := fnFiltersUptoRow.holds Try.pinned (OpenSpec.upto fnFiltersSpec)

/-- 'laws.FnExactLengthFilter', WHERE WHAT IT READS IS OF BULK AT MOST 1048576: true; the input reads as it did. -/
def fnExactLengthFilterUptoRow : OpenClaim := { program := "ytkeimdobcfoplaa", sum := "ee3730ee6509d4ede641ec42bf9c8343c067e7df7a2e13948568723e93dfb12f", func := "loop.example/g01923/laws.FnExactLengthFilter", spec := "fnExactLengthFilter", apart := false, narrowed := true }
def FnExactLengthFilterUptoSaid : Prop := fnExactLengthFilterUptoRow.holds Try.pinned (OpenSpec.upto fnExactLengthFilterSpec)

/-- 'laws.FnExactMinCommonGrams', WHERE WHAT IT READS IS OF BULK AT MOST 1048576: true; the input reads as it did. -/
def fnExactMinCommonGramsUptoRow : OpenClaim := { program := "ytkeimdobcfoplaa", sum := "ee3730ee6509d4ede641ec42bf9c8343c067e7df7a2e13948568723e93dfb12f", func := "loop.example/g01923/laws.FnExactMinCommonGrams", spec := "fnExactMinCommonGrams", apart := false, narrowed := true }
def FnExactMinCommonGramsUptoSaid : Prop := fnExactMinCommonGramsUptoRow.holds Try.pinned (OpenSpec.upto fnExactMinCommonGramsSpec)

/-- 'laws.FnExactGramFilter', WHERE WHAT IT READS IS OF BULK AT MOST 1048576: true; the input reads as it did. -/
def fnExactGramFilterUptoRow : OpenClaim := { program := "ytkeimdobcfoplaa", sum := "ee3730ee6509d4ede641ec42bf9c8343c067e7df7a2e13948568723e93dfb12f", func := "loop.example/g01923/laws.FnExactGramFilter", spec := "fnExactGramFilter", apart := false, narrowed := true }
def FnExactGramFilterUptoSaid : Prop := fnExactGramFilterUptoRow.holds Try.pinned (OpenSpec.upto fnExactGramFilterSpec)

/-- 'laws.FnExactPassesFilters', WHERE WHAT IT READS IS OF BULK AT MOST 1048576: true; the input reads as it did. -/
def fnExactPassesFiltersUptoRow : OpenClaim := { program := "ytkeimdobcfoplaa", sum := "ee3730ee6509d4ede641ec42bf9c8343c067e7df7a2e13948568723e93dfb12f", func := "loop.example/g01923/laws.FnExactPassesFilters", spec := "fnExactPassesFilters", apart := false, narrowed := true }
def FnExactPassesFiltersUptoSaid : Prop := fnExactPassesFiltersUptoRow.holds Try.pinned (OpenSpec.upto fnExactPassesFiltersSpec)

/-- 'laws.FnExactSimilarStrings', WHERE WHAT IT READS IS OF BULK AT MOST 1048576: true; the input reads as it did. -/
def fnExactSimilarStringsUptoRow : OpenClaim := { program := "ytkeimdobcfoplaa", sum := "ee3730ee6509d4ede641ec42bf9c8343c067e7df7a2e13948568723e93dfb12f", func := "loop.example/g01923/laws.FnExactSimilarStrings", spec := "fnExactSimilarStrings", apart := false, narrowed := true }
def FnExactSimilarStringsUptoSaid : Prop := fnExactSimilarStringsUptoRow.holds Try.pinned (OpenSpec.upto fnExactSimilarStringsSpec)

/-- 'laws.FnExactEditLimit', WHERE WHAT IT READS IS OF BULK AT MOST 1048576: true; the input reads as it did. -/
def fnExactEditLimitUptoRow : OpenClaim := { program := "ytkeimdobcfoplaa", sum := "ee3730ee6509d4ede641ec42bf9c8343c067e7df7a2e13948568723e93dfb12f", func := "loop.example/g01923/laws.FnExactEditLimit", spec := "fnExactEditLimit", apart := false, narrowed := true }
def FnExactEditLimitUptoSaid : Prop := fnExactEditLimitUptoRow.holds Try.pinned (OpenSpec.upto fnExactEditLimitSpec)

end Rows
end Go.Proofs.Ytkeimdobcfoplaa
