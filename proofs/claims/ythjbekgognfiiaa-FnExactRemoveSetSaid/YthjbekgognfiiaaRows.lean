/-
  No cell of these rows narrows 'for every input' (looked for: loops, veiled, ifaces, maps, wideKeys, modest, calm, conditions, laid).
  DERIVED. THE GIVEN ROWS OF THIS SEAT. 2 by the template 'for every input the law returns true; each argument reads behind the call as it read before'; 0 by the template 'total and deterministic' (their statements: YthjbekgognfiiaaTotals.lean).
  GIVEN WITH THE SEED: the statements are not yours to turn. If you find one false, say at which input.
  Laid BY PROGRAM, IN A SANDBOX (cutbox-rows.mjs): the forced cells as the released guide's own fill.sh prints them over the translation 5d2c311fb685110b… (all of the seat's roots in one cut). By AI agents, Wed Nov 11 2026. No macro, syntax, notation, axiom, sorry.
-/
import Derived.Test.YthjbekgognfiiaaChecked
import GoSem.Claim
import GoSem.ClaimJoined
import GoSem.ClaimMapViews
import Derived.JoinedTies
import Derived.KernelRfl
namespace Go.Proofs.Ythjbekgognfiiaa
/- THE CELL 'sum', in the pinned program and in every row, IS THE sha256 OF THE DUMP (.gsa) THAT YthjbekgognfiiaaProg.lean LOADS. Nothing in Lean hashes anything: it is a label: what it is worth is what the hold of that sum in a sandbox is worth. -/
noncomputable def Try.pinned : Pinned := { name := "ythjbekgognfiiaa", sum := "5d2c311fb685110b992d9afcaa6ed1491380c20bc74ed9ec0e24ca78a74291a8", checked := Try.checked }
namespace Rows
def none {H : Type} : Left H := { results := [], args := [] }

/-- 'laws.FnExactInsertSet': WHATEVER THE INPUT: true; the input reads as it did. -/
def fnExactInsertSetSpec : ChangeSpec := { name := "fnExactInsertSet", fn := fun _ => fun
  | [d1, d2, d3] => { results := [.lit (.bool true)], args := [d1, d2, d3] }
  | _ => none }
def fnExactInsertSetRow : OpenClaim := { program := "ythjbekgognfiiaa", sum := "5d2c311fb685110b992d9afcaa6ed1491380c20bc74ed9ec0e24ca78a74291a8", func := "loop.example/g01923/laws.FnExactInsertSet", spec := "fnExactInsertSet", inPlace := ["slices.overlaps[loop.example/g01923/impl.IndexedSet]"], unfollowed := true, recurses := true, apart := false }
def FnExactInsertSetSaid : Prop := fnExactInsertSetRow.holds Try.pinned (OpenSpec.ofChange fnExactInsertSetSpec)

/-- ITS FALSE NEIGHBOUR: 'it returns false'. Refute it at one input. -/
def fnExactInsertSetWrong : ChangeSpec := { name := "fnExactInsertSet", fn := fun _ => fun
  | [d1, d2, d3] => { results := [.lit (.bool false)], args := [d1, d2, d3] }
  | _ => none }
def FnExactInsertSetWrongFalsely : Prop := fnExactInsertSetRow.holds Try.pinned (OpenSpec.ofChange fnExactInsertSetWrong)

/-- 'laws.FnExactRemoveSet': WHATEVER THE INPUT: true; the input reads as it did. -/
def fnExactRemoveSetSpec : ChangeSpec := { name := "fnExactRemoveSet", fn := fun _ => fun
  | [d1, d2] => { results := [.lit (.bool true)], args := [d1, d2] }
  | _ => none }
def fnExactRemoveSetRow : OpenClaim := { program := "ythjbekgognfiiaa", sum := "5d2c311fb685110b992d9afcaa6ed1491380c20bc74ed9ec0e24ca78a74291a8", func := "loop.example/g01923/laws.FnExactRemoveSet", spec := "fnExactRemoveSet", unfollowed := true, recurses := true, apart := false }
def FnExactRemoveSetSaid : Prop := fnExactRemoveSetRow.holds Try.pinned (OpenSpec.ofChange fnExactRemoveSetSpec)

/-- ITS FALSE NEIGHBOUR: 'it returns false'. Refute it at one input. -/
def fnExactRemoveSetWrong : ChangeSpec := { name := "fnExactRemoveSet", fn := fun _ => fun
  | [d1, d2] => { results := [.lit (.bool false)], args := [d1, d2] }
  | _ => none }
def FnExactRemoveSetWrongFalsely : Prop := fnExactRemoveSetRow.holds Try.pinned (OpenSpec.ofChange fnExactRemoveSetWrong)

/- THE SECOND FORM. 'bulk': how many values and letters a reading holds, each counted each time it is reached (what is shared counts as often as it is met; a slice's spare places count too). A statement '..UptoSaid' is the law's where the arguments, and the package variables that the reading takes, are together of bulk at most 1048576: NARROWER than '..Said'. Prove '..Said' where nothing that the law and all that it calls make is longer than what came in: it says more and counts as full. Else prove '..UptoSaid'. A law counts once. -/
mutual
def uptoBulk {H : Type} : DataW H → Nat
  | .lit (.string bytes) => bytes.length + 1
  | .lit _ => 1
  | .nil => 1
  | .ptr d => uptoBulk d + 1
  | .slice elems spare => uptoBulkAll elems + uptoBulkAll spare + 1
  | .agg parts => uptoBulkAll parts + 1
  | .iface _ d => uptoBulk d + 1
  | .map entries => uptoBulkEntries entries + 1
  | .held _ => 1
def uptoBulkAll {H : Type} : List (DataW H) → Nat
  | [] => 0
  | d :: r => uptoBulk d + uptoBulkAll r
def uptoBulkEntries {H : Type} : List (Lit × DataW H) → Nat
  | [] => 0
  | x :: r => uptoBulkEntry x + uptoBulkEntries r
def uptoBulkEntry {H : Type} : Lit × DataW H → Nat
  | (.string bytes, d) => bytes.length + uptoBulk d + 1
  | (_, d) => uptoBulk d + 1
 end
def uptoSmall : (H : Type) → List (DataW H) → Bool := fun _ ds => decide (uptoBulkAll ds ≤ 1048576)
def OpenSpec.upto (s : _root_.Go.ChangeSpec) : _root_.Go.OpenSpec := { _root_.Go.OpenSpec.ofChange s with cond := some uptoSmall }

/-- 'laws.FnExactInsertSet', WHERE WHAT IT READS IS OF BULK AT MOST 1048576: true; the input reads as it did. -/
def fnExactInsertSetUptoRow : OpenClaim := { program := "ythjbekgognfiiaa", sum := "5d2c311fb685110b992d9afcaa6ed1491380c20bc74ed9ec0e24ca78a74291a8", func := "loop.example/g01923/laws.FnExactInsertSet", spec := "fnExactInsertSet", inPlace := ["slices.overlaps[loop.example/g01923/impl.IndexedSet]"], unfollowed := true, recurses := true, apart := false, narrowed := true }
def FnExactInsertSetUptoSaid : Prop := fnExactInsertSetUptoRow.holds Try.pinned (OpenSpec.upto fnExactInsertSetSpec)

/-- 'laws.FnExactRemoveSet', WHERE WHAT IT READS IS OF BULK AT MOST 1048576: true; the input reads as it did. -/
def fnExactRemoveSetUptoRow : OpenClaim := { program := "ythjbekgognfiiaa", sum := "5d2c311fb685110b992d9afcaa6ed1491380c20bc74ed9ec0e24ca78a74291a8", func := "loop.example/g01923/laws.FnExactRemoveSet", spec := "fnExactRemoveSet", unfollowed := true, recurses := true, apart := false, narrowed := true }
def FnExactRemoveSetUptoSaid : Prop := fnExactRemoveSetUptoRow.holds Try.pinned (OpenSpec.upto fnExactRemoveSetSpec)

end Rows
end Go.Proofs.Ythjbekgognfiiaa
