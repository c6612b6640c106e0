/-
  No cell of these rows narrows 'for every input' (looked for: loops, veiled, ifaces, maps, wideKeys, modest, calm, conditions, laid).
  DERIVED. THE GIVEN ROWS OF THIS SEAT. 4 by the template 'for every input the law returns true; each argument reads behind the call as it read before'; 0 by the template 'total and deterministic' (their statements: YtlcpbbfcdbghdaaTotals.lean).
  GIVEN WITH THE SEED: the statements are not yours to turn. If you find one false, say at which input.
  Laid BY PROGRAM, IN A SANDBOX (cutbox-rows.mjs): the forced cells as the released guide's own fill.sh prints them over the translation cdb7c3c38c3d42a9… (all of the seat's roots in one cut). By AI agents, Wed Nov 11 2026. No macro, syntax, notation, axiom, sorry.
-/
import Derived.Test.YtlcpbbfcdbghdaaChecked
import GoSem.Claim
import GoSem.ClaimJoined
import GoSem.ClaimMapViews
import Derived.JoinedTies
import Derived.KernelRfl
namespace Go.Proofs.Ytlcpbbfcdbghdaa
/- THE CELL 'sum', in the pinned program and in every row, IS THE sha256 OF THE DUMP (.gsa) THAT YtlcpbbfcdbghdaaProg.lean LOADS. Nothing in Lean hashes anything: it is a label: what it is worth is what the hold of that sum in a sandbox is worth. -/
noncomputable def Try.pinned : Pinned := { name := "ytlcpbbfcdbghdaa", sum := "cdb7c3c38c3d42a9e722b21b2339cf87375121329ff360b58e17580692e7dde5", checked := Try.checked }
namespace Rows
def none {H : Type} : Left H := { results := [], args := [] }

/-- 'laws.FnExactNumberScore': WHATEVER THE INPUT: true; the input reads as it did. -/
def fnExactNumberScoreSpec : ChangeSpec := { name := "fnExactNumberScore", fn := fun _ => fun
  | [d1, d2, d3] => { results := [.lit (.bool true)], args := [d1, d2, d3] }
  | _ => none }
def fnExactNumberScoreRow : OpenClaim := { program := "ytlcpbbfcdbghdaa", sum := "cdb7c3c38c3d42a9e722b21b2339cf87375121329ff360b58e17580692e7dde5", func := "loop.example/g01923/laws.FnExactNumberScore", spec := "fnExactNumberScore", apart := false }
def FnExactNumberScoreSaid : Prop := fnExactNumberScoreRow.holds Try.pinned (OpenSpec.ofChange fnExactNumberScoreSpec)

/-- ITS FALSE NEIGHBOUR: 'it returns false'. Refute it at one input. -/
def fnExactNumberScoreWrong : ChangeSpec := { name := "fnExactNumberScore", fn := fun _ => fun
  | [d1, d2, d3] => { results := [.lit (.bool false)], args := [d1, d2, d3] }
  | _ => none }
def FnExactNumberScoreWrongFalsely : Prop := fnExactNumberScoreRow.holds Try.pinned (OpenSpec.ofChange fnExactNumberScoreWrong)

/-- 'laws.FnExactDigitsOf': WHATEVER THE INPUT: true; the input reads as it did. -/
def fnExactDigitsOfSpec : ChangeSpec := { name := "fnExactDigitsOf", fn := fun _ => fun
  | [d] => { results := [.lit (.bool true)], args := [d] }
  | _ => none }
def fnExactDigitsOfRow : OpenClaim := { program := "ytlcpbbfcdbghdaa", sum := "cdb7c3c38c3d42a9e722b21b2339cf87375121329ff360b58e17580692e7dde5", func := "loop.example/g01923/laws.FnExactDigitsOf", spec := "fnExactDigitsOf", apart := false }
def FnExactDigitsOfSaid : Prop := fnExactDigitsOfRow.holds Try.pinned (OpenSpec.ofChange fnExactDigitsOfSpec)

/-- ITS FALSE NEIGHBOUR: 'it returns false'. Refute it at one input. -/
def fnExactDigitsOfWrong : ChangeSpec := { name := "fnExactDigitsOf", fn := fun _ => fun
  | [d] => { results := [.lit (.bool false)], args := [d] }
  | _ => none }
def FnExactDigitsOfWrongFalsely : Prop := fnExactDigitsOfRow.holds Try.pinned (OpenSpec.ofChange fnExactDigitsOfWrong)

/-- 'laws.FnExactPhoneScore': WHATEVER THE INPUT: true; the input reads as it did. -/
def fnExactPhoneScoreSpec : ChangeSpec := { name := "fnExactPhoneScore", fn := fun _ => fun
  | [d1, d2] => { results := [.lit (.bool true)], args := [d1, d2] }
  | _ => none }
def fnExactPhoneScoreRow : OpenClaim := { program := "ytlcpbbfcdbghdaa", sum := "cdb7c3c38c3d42a9e722b21b2339cf87375121329ff360b58e17580692e7dde5", func := "loop.example/g01923/laws.FnExactPhoneScore", spec := "fnExactPhoneScore", apart := false }
def FnExactPhoneScoreSaid : Prop := fnExactPhoneScoreRow.holds Try.pinned (OpenSpec.ofChange fnExactPhoneScoreSpec)

/-- ITS FALSE NEIGHBOUR: 'it returns false'. Refute it at one input. -/
def fnExactPhoneScoreWrong : ChangeSpec := { name := "fnExactPhoneScore", fn := fun _ => fun
  | [d1, d2] => { results := [.lit (.bool false)], args := [d1, d2] }
  | _ => none }
def FnExactPhoneScoreWrongFalsely : Prop := fnExactPhoneScoreRow.holds Try.pinned (OpenSpec.ofChange fnExactPhoneScoreWrong)

/-- 'laws.FnExactCombineScores': WHATEVER THE INPUT: true; the input reads as it did. -/
def fnExactCombineScoresSpec : ChangeSpec := { name := "fnExactCombineScores", fn := fun _ => fun
  | [d1, d2] => { results := [.lit (.bool true)], args := [d1, d2] }
  | _ => none }
def fnExactCombineScoresRow : OpenClaim := { program := "ytlcpbbfcdbghdaa", sum := "cdb7c3c38c3d42a9e722b21b2339cf87375121329ff360b58e17580692e7dde5", func := "loop.example/g01923/laws.FnExactCombineScores", spec := "fnExactCombineScores", apart := false }
def FnExactCombineScoresSaid : Prop := fnExactCombineScoresRow.holds Try.pinned (OpenSpec.ofChange fnExactCombineScoresSpec)

/-- ITS FALSE NEIGHBOUR: 'it returns false'. Refute it at one input. -/
def fnExactCombineScoresWrong : ChangeSpec := { name := "fnExactCombineScores", fn := fun _ => fun
  | [d1, d2] => { results := [.lit (.bool false)], args := [d1, d2] }
  | _ => none }
def FnExactCombineScoresWrongFalsely : Prop := fnExactCombineScoresRow.holds Try.pinned (OpenSpec.ofChange fnExactCombineScoresWrong)

/- THE SECOND FORM. 'bulk': how many values and letters a reading holds, each counted each time it is reached (what is shared counts as often as it is met; a slice's spare places count too). A statement '..UptoSaid' is the law's where the arguments, and the package variables that the reading takes, are together of bulk at most 1048576: NARROWER than '..Said'. Prove '..Said' where nothing that the law and all that it calls make is longer than what came in: it says more and counts as full. Else prove '..UptoSaid'. A law counts once. -/
mutual
def uptoBulk {H : Type} : DataW H → Nat
  | .lit (.string bytes) => bytes.length + 1
  | .lit _ => 1
  | .nil => 1
  | .ptr d => uptoBulk d + 1
  | .slice elems spare => uptoBulkAll elems + uptoBulkAll spare + 1
  | .agg parts => uptoBulkAll parts + 1
  | .iface _ d => uptoBulk d + 1
  | .map entries => uptoBulkEntries entries + 1
  | .held _ => 1
def uptoBulkAll {H : Type} : List (DataW H) → Nat
  | [] => 0
  | d :: r => uptoBulk d + uptoBulkAll r
def uptoBulkEntries {H : Type} : List (Lit × DataW H) → Nat
  | [] => 0
  | x :: r => uptoBulkEntry x + uptoBulkEntries r
def uptoBulkEntry {H : Type} : Lit × DataW H → Nat
  | (.string bytes, d) => bytes.length + uptoBulk d + 1
  | (_, d) => uptoBulk d + 1
 end
def uptoSmall : (H : Type) → List (DataW H) → Bool := fun _ ds => decide (uptoBulkAll ds ≤ 1048576)
def OpenSpec.upto (s : _root_.Go.ChangeSpec) : _root_.Go.OpenSpec := { _root_.Go.OpenSpec.ofChange s with cond := some uptoSmall }

/-- 'laws.FnExactNumberScore', WHERE WHAT IT READS IS OF BULK AT MOST 1048576: true; the input reads as it did. -/
def fnExactNumberScoreUptoRow : OpenClaim := { program := "ytlcpbbfcdbghdaa", sum := "cdb7c3c38c3d42a9e722b21b2339cf87375121329ff360b58e17580692e7dde5", func := "loop.example/g01923/laws.FnExactNumberScore", spec := "fnExactNumberScore", apart := false, narrowed := true }
def FnExactNumberScoreUptoSaid : Prop := fnExactNumberScoreUptoRow.holds Try.pinned (OpenSpec.upto fnExactNumberScoreSpec)

/-- 'laws.FnExactDigitsOf', WHERE WHAT IT READS IS OF BULK AT MOST 1048576: true; the input reads as it did. -/
def fnExactDigitsOfUptoRow : OpenClaim := { program := "ytlcpbbfcdbghdaa", sum := "cdb7c3c38c3d42a9e722b21b2339cf87375121329ff360b58e17580692e7dde5", func := "loop.example/g01923/laws.FnExactDigitsOf", spec := "fnExactDigitsOf", apart := false, narrowed := true }
def FnExactDigitsOfUptoSaid : Prop := fnExactDigitsOfUptoRow.holds Try.pinned (OpenSpec.upto fnExactDigitsOfSpec)

/-- 'laws.FnExactPhoneScore', WHERE WHAT IT READS IS OF BULK AT MOST 1048576: true; the input reads as it did. -/
def fnExactPhoneScoreUptoRow : OpenClaim := { program := "ytlcpbbfcdbghdaa", sum := "cdb7c3c38c3d42a9e722b21b2339cf87375121329ff360b58e17580692e7dde5", func := "loop.example/g01923/laws.FnExactPhoneScore", spec := "fnExactPhoneScore", apart := false, narrowed := true }
def FnExactPhoneScoreUptoSaid : Prop := fnExactPhoneScoreUptoRow.holds Try.pinned (OpenSpec.upto fnExactPhoneScoreSpec)

/-- 'laws.FnExactCombineScores', WHERE WHAT IT READS IS OF BULK AT MOST 1048576: true; the input reads as it did. -/
def fnExactCombineScoresUptoRow : OpenClaim := { program := "ytlcpbbfcdbghdaa", sum := "cdb7c3c38c3d42a9e722b21b2339cf87375121329ff360b58e17580692e7dde5", func := "loop.example/g01923/laws.FnExactCombineScores", spec := "fnExactCombineScores", apart := false, narrowed := true }
def FnExactCombineScoresUptoSaid : Prop := fnExactCombineScoresUptoRow.holds Try.pinned (OpenSpec.upto fnExactCombineScoresSpec)

end Rows
end Go.Proofs.Ytlcpbbfcdbghdaa
