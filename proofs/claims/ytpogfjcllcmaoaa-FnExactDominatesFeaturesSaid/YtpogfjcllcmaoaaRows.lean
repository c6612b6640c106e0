/-
  No cell of these rows narrows 'for every input' (looked for: loops, veiled, ifaces, maps, wideKeys, modest, calm, conditions, laid).
  DERIVED. THE GIVEN ROWS OF THIS SEAT. 3 by the template 'for every input the law returns true; each argument reads behind the call as it read before'; 0 by the template 'total and deterministic' (their statements: YtpogfjcllcmaoaaTotals.lean).
  GIVEN WITH THE SEED: the statements are not yours to turn. If you find one false, say at which input.
  Laid BY PROGRAM, IN A SANDBOX (cutbox-rows.mjs): the forced cells as the released guide's own fill.sh prints them over the translation 1f6e7cd881544bb1… (all of the seat's roots in one cut). By AI agents, Wed Nov 11 2026. No macro, syntax, notation, axiom, sorry.
-/
import Derived.Test.YtpogfjcllcmaoaaChecked
import GoSem.Claim
import GoSem.ClaimJoined
import GoSem.ClaimMapViews
import Derived.JoinedTies
import Derived.KernelRfl
namespace Go.Proofs.Ytpogfjcllcmaoaa
/- THE CELL 'sum', in the pinned program and in every row, IS THE sha256 OF THE DUMP (.gsa) THAT YtpogfjcllcmaoaaProg.lean LOADS. Nothing in Lean hashes anything: it is a label: what it is worth is what the hold of that sum in a sandbox is worth. -/
noncomputable def Try.pinned : Pinned := { name := "ytpogfjcllcmaoaa", sum := "1f6e7cd881544bb1f39c60d90be7e19058b07f253961e9e2347250dc39980331", checked := Try.checked }
namespace Rows
def none {H : Type} : Left H := { results := [], args := [] }

/-- 'laws.FnExactIsFeatureVector': WHATEVER THE INPUT: true; the input reads as it did. -/
def fnExactIsFeatureVectorSpec : ChangeSpec := { name := "fnExactIsFeatureVector", fn := fun _ => fun
  | [d] => { results := [.lit (.bool true)], args := [d] }
  | _ => none }
def fnExactIsFeatureVectorRow : OpenClaim := { program := "ytpogfjcllcmaoaa", sum := "1f6e7cd881544bb1f39c60d90be7e19058b07f253961e9e2347250dc39980331", func := "loop.example/g01923/laws.FnExactIsFeatureVector", spec := "fnExactIsFeatureVector", apart := false }
def FnExactIsFeatureVectorSaid : Prop := fnExactIsFeatureVectorRow.holds Try.pinned (OpenSpec.ofChange fnExactIsFeatureVectorSpec)

/-- ITS FALSE NEIGHBOUR: 'it returns false'. Refute it at one input. -/
def fnExactIsFeatureVectorWrong : ChangeSpec := { name := "fnExactIsFeatureVector", fn := fun _ => fun
  | [d] => { results := [.lit (.bool false)], args := [d] }
  | _ => none }
def FnExactIsFeatureVectorWrongFalsely : Prop := fnExactIsFeatureVectorRow.holds Try.pinned (OpenSpec.ofChange fnExactIsFeatureVectorWrong)

/-- 'laws.FnExactDominatesFeatures': WHATEVER THE INPUT: true; the input reads as it did. -/
def fnExactDominatesFeaturesSpec : ChangeSpec := { name := "fnExactDominatesFeatures", fn := fun _ => fun
  | [d1, d2] => { results := [.lit (.bool true)], args := [d1, d2] }
  | _ => none }
def fnExactDominatesFeaturesRow : OpenClaim := { program := "ytpogfjcllcmaoaa", sum := "1f6e7cd881544bb1f39c60d90be7e19058b07f253961e9e2347250dc39980331", func := "loop.example/g01923/laws.FnExactDominatesFeatures", spec := "fnExactDominatesFeatures", apart := false }
def FnExactDominatesFeaturesSaid : Prop := fnExactDominatesFeaturesRow.holds Try.pinned (OpenSpec.ofChange fnExactDominatesFeaturesSpec)

/-- ITS FALSE NEIGHBOUR: 'it returns false'. Refute it at one input. -/
def fnExactDominatesFeaturesWrong : ChangeSpec := { name := "fnExactDominatesFeatures", fn := fun _ => fun
  | [d1, d2] => { results := [.lit (.bool false)], args := [d1, d2] }
  | _ => none }
def FnExactDominatesFeaturesWrongFalsely : Prop := fnExactDominatesFeaturesRow.holds Try.pinned (OpenSpec.ofChange fnExactDominatesFeaturesWrong)

/-- 'laws.FnExactFeatureName': WHATEVER THE INPUT: true; the input reads as it did. -/
def fnExactFeatureNameSpec : ChangeSpec := { name := "fnExactFeatureName", fn := fun _ => fun
  | [d] => { results := [.lit (.bool true)], args := [d] }
  | _ => none }
def fnExactFeatureNameRow : OpenClaim := { program := "ytpogfjcllcmaoaa", sum := "1f6e7cd881544bb1f39c60d90be7e19058b07f253961e9e2347250dc39980331", func := "loop.example/g01923/laws.FnExactFeatureName", spec := "fnExactFeatureName", apart := false }
def FnExactFeatureNameSaid : Prop := fnExactFeatureNameRow.holds Try.pinned (OpenSpec.ofChange fnExactFeatureNameSpec)

/-- ITS FALSE NEIGHBOUR: 'it returns false'. Refute it at one input. -/
def fnExactFeatureNameWrong : ChangeSpec := { name := "fnExactFeatureName", fn := fun _ => fun
  | [d] => { results := [.lit (.bool false)], args := [d] }
  | _ => none }
def FnExactFeatureNameWrongFalsely : Prop := fnExactFeatureNameRow.holds Try.pinned (OpenSpec.ofChange fnExactFeatureNameWrong)

/- THE SECOND FORM. 'bulk': how many values and letters a reading holds, each counted each time it is reached (what is shared counts as often as it is met; a slice's spare places count too). A statement '..UptoSaid' is the law's where the arguments, and the package variables that the reading takes, are together of bulk at most 1048576: NARROWER than '..Said'. Prove '..Said' where nothing that the law and all that it calls make is longer than what came in: it says more and counts as full. Else prove '..UptoSaid'. A law counts once. -/
mutual
def uptoBulk {H : Type} : DataW H → Nat
  | .lit (.string bytes) => bytes.length + 1
  | .lit _ => 1
  | .nil => 1
  | .ptr d => uptoBulk d + 1
  | .slice elems spare => uptoBulkAll elems + uptoBulkAll spare + 1
  | .agg parts => uptoBulkAll parts + 1
  | .iface _ d => uptoBulk d + 1
  | .map entries => uptoBulkEntries entries + 1
  | .held _ => 1
def uptoBulkAll {H : Type} : List (DataW H) → Nat
  | [] => 0
  | d :: r => uptoBulk d + uptoBulkAll r
def uptoBulkEntries {H : Type} : List (Lit × DataW H) → Nat
  | [] => 0
  | x :: r => uptoBulkEntry x + uptoBulkEntries r
def uptoBulkEntry {H : Type} : Lit × DataW H → Nat
  | (.string bytes, d) => bytes.length + uptoBulk d + 1
  | (_, d) => uptoBulk d + 1
 end
def uptoSmall : (H : Type) → List (DataW H) → Bool := fun _ ds => decide (uptoBulkAll ds ≤ 1048576)
def OpenSpec.upto (s : _root_.Go.ChangeSpec) : _root_.Go.OpenSpec := { _root_.Go.OpenSpec.ofChange s with cond := some uptoSmall }

/-- 'laws.FnExactIsFeatureVector', WHERE WHAT IT READS IS OF BULK AT MOST 1048576: true; the input reads as it did. -/
def fnExactIsFeatureVectorUptoRow : OpenClaim := { program := "ytpogfjcllcmaoaa", sum := "1f6e7cd881544bb1f39c60d90be7e19058b07f253961e9e2347250dc39980331", func := "loop.example/g01923/laws.FnExactIsFeatureVector", spec := "fnExactIsFeatureVector", apart := false, narrowed := true }
def FnExactIsFeatureVectorUptoSaid : Prop := fnExactIsFeatureVectorUptoRow.holds Try.pinned (OpenSpec.upto fnExactIsFeatureVectorSpec)

/-- 'laws.FnExactDominatesFeatures', WHERE WHAT IT READS IS OF BULK AT MOST 1048576: true; the input reads as it did. -/
def fnExactDominatesFeaturesUptoRow : OpenClaim := { program := "ytpogfjcllcmaoaa", sum := "1f6e7cd881544bb1f39c60d90be7e19058b07f253961e9e2347250dc39980331", func := "loop.example/g01923/laws.FnExactDominatesFeatures", spec := "fnExactDominatesFeatures", apart := false, narrowed := true }
def FnExactDominatesFeaturesUptoSaid : Prop := fnExactDominatesFeaturesUptoRow.holds Try.pinned (OpenSpec.upto fnExactDominatesFeaturesSpec)

/-- 'laws.FnExactFeatureName', WHERE WHAT IT READS IS OF BULK AT MOST 1048576: true; the input reads as it did. -/
def fnExactFeatureNameUptoRow : OpenClaim := { program := "ytpogfjcllcmaoaa", sum := "1f6e7cd881544bb1f39c60d90be7e19058b07f253961e9e2347250dc39980331", func := "loop.example/g01923/laws.FnExactFeatureName", spec := "fnExactFeatureName", apart := false, narrowed := true }
def FnExactFeatureNameUptoSaid : Prop := fnExactFeatureNameUptoRow.holds Try.pinned (OpenSpec.upto fnExactFeatureNameSpec)

end Rows
end Go.Proofs.Ytpogfjcllcmaoaa
