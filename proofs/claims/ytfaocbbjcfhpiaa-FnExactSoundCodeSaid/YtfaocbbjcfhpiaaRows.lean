/-
  No cell of these rows narrows 'for every input' (looked for: loops, veiled, ifaces, maps, wideKeys, modest, calm, conditions, laid).
  DERIVED. THE GIVEN ROWS OF THIS SEAT. 6 by the template 'for every input the law returns true; each argument reads behind the call as it read before'; 0 by the template 'total and deterministic' (their statements: YtfaocbbjcfhpiaaTotals.lean).
  GIVEN WITH THE SEED: the statements are not yours to turn. If you find one false, say at which input.
  Laid BY PROGRAM, IN A SANDBOX (cutbox-rows.mjs): the forced cells as the released guide's own fill.sh prints them over the translation 0a0e9eacd9249bae… (all of the seat's roots in one cut). By AI agents, Wed Nov 11 2026. No macro, syntax, notation, axiom, sorry.
-/
import Derived.Test.YtfaocbbjcfhpiaaChecked
import GoSem.Claim
import GoSem.ClaimJoined
import GoSem.ClaimMapViews
import Derived.JoinedTies
import Derived.KernelRfl
namespace Go.Proofs.Ytfaocbbjcfhpiaa
/- THE CELL 'sum', in the pinned program and in every row, IS THE sha256 OF THE DUMP (.gsa) THAT YtfaocbbjcfhpiaaProg.lean LOADS. Nothing in Lean hashes anything: it is a label: what it is worth is what the hold of that sum in a sandbox is worth. -/
noncomputable def Try.pinned : Pinned := { name := "ytfaocbbjcfhpiaa", sum := "0a0e9eacd9249bae6a2a89d7ec28d53ca6756a04d1f0ca9d4438831a9c11600b", checked := Try.checked }
namespace Rows
def none {H : Type} : Left H := { results := [], args := [] }

/-- 'laws.FnExactFoldCase': WHATEVER THE INPUT: true; the input reads as it did. -/
def fnExactFoldCaseSpec : ChangeSpec := { name := "fnExactFoldCase", fn := fun _ => fun
  | [d] => { results := [.lit (.bool true)], args := [d] }
  | _ => none }
def fnExactFoldCaseRow : OpenClaim := { program := "ytfaocbbjcfhpiaa", sum := "0a0e9eacd9249bae6a2a89d7ec28d53ca6756a04d1f0ca9d4438831a9c11600b", func := "loop.example/g01923/laws.FnExactFoldCase", spec := "fnExactFoldCase", apart := false }
def FnExactFoldCaseSaid : Prop := fnExactFoldCaseRow.holds Try.pinned (OpenSpec.ofChange fnExactFoldCaseSpec)

/-- ITS FALSE NEIGHBOUR: 'it returns false'. Refute it at one input. -/
def fnExactFoldCaseWrong : ChangeSpec := { name := "fnExactFoldCase", fn := fun _ => fun
  | [d] => { results := [.lit (.bool false)], args := [d] }
  | _ => none }
def FnExactFoldCaseWrongFalsely : Prop := fnExactFoldCaseRow.holds Try.pinned (OpenSpec.ofChange fnExactFoldCaseWrong)

/-- 'laws.FnExactNormalize': WHATEVER THE INPUT: true; the input reads as it did. -/
def fnExactNormalizeSpec : ChangeSpec := { name := "fnExactNormalize", fn := fun _ => fun
  | [d] => { results := [.lit (.bool true)], args := [d] }
  | _ => none }
def fnExactNormalizeRow : OpenClaim := { program := "ytfaocbbjcfhpiaa", sum := "0a0e9eacd9249bae6a2a89d7ec28d53ca6756a04d1f0ca9d4438831a9c11600b", func := "loop.example/g01923/laws.FnExactNormalize", spec := "fnExactNormalize", apart := false }
def FnExactNormalizeSaid : Prop := fnExactNormalizeRow.holds Try.pinned (OpenSpec.ofChange fnExactNormalizeSpec)

/-- ITS FALSE NEIGHBOUR: 'it returns false'. Refute it at one input. -/
def fnExactNormalizeWrong : ChangeSpec := { name := "fnExactNormalize", fn := fun _ => fun
  | [d] => { results := [.lit (.bool false)], args := [d] }
  | _ => none }
def FnExactNormalizeWrongFalsely : Prop := fnExactNormalizeRow.holds Try.pinned (OpenSpec.ofChange fnExactNormalizeWrong)

/-- 'laws.FnExactIsNormal': WHATEVER THE INPUT: true; the input reads as it did. -/
def fnExactIsNormalSpec : ChangeSpec := { name := "fnExactIsNormal", fn := fun _ => fun
  | [d] => { results := [.lit (.bool true)], args := [d] }
  | _ => none }
def fnExactIsNormalRow : OpenClaim := { program := "ytfaocbbjcfhpiaa", sum := "0a0e9eacd9249bae6a2a89d7ec28d53ca6756a04d1f0ca9d4438831a9c11600b", func := "loop.example/g01923/laws.FnExactIsNormal", spec := "fnExactIsNormal", apart := false }
def FnExactIsNormalSaid : Prop := fnExactIsNormalRow.holds Try.pinned (OpenSpec.ofChange fnExactIsNormalSpec)

/-- ITS FALSE NEIGHBOUR: 'it returns false'. Refute it at one input. -/
def fnExactIsNormalWrong : ChangeSpec := { name := "fnExactIsNormal", fn := fun _ => fun
  | [d] => { results := [.lit (.bool false)], args := [d] }
  | _ => none }
def FnExactIsNormalWrongFalsely : Prop := fnExactIsNormalRow.holds Try.pinned (OpenSpec.ofChange fnExactIsNormalWrong)

/-- 'laws.FnExactSoundCode': WHATEVER THE INPUT: true; the input reads as it did. -/
def fnExactSoundCodeSpec : ChangeSpec := { name := "fnExactSoundCode", fn := fun _ => fun
  | [d] => { results := [.lit (.bool true)], args := [d] }
  | _ => none }
def fnExactSoundCodeRow : OpenClaim := { program := "ytfaocbbjcfhpiaa", sum := "0a0e9eacd9249bae6a2a89d7ec28d53ca6756a04d1f0ca9d4438831a9c11600b", func := "loop.example/g01923/laws.FnExactSoundCode", spec := "fnExactSoundCode", apart := false }
def FnExactSoundCodeSaid : Prop := fnExactSoundCodeRow.holds Try.pinned (OpenSpec.ofChange fnExactSoundCodeSpec)

/-- ITS FALSE NEIGHBOUR: 'it returns false'. Refute it at one input. -/
def fnExactSoundCodeWrong : ChangeSpec := { name := "fnExactSoundCode", fn := fun _ => fun
  | [d] => { results := [.lit (.bool false)], args := [d] }
  | _ => none }
def FnExactSoundCodeWrongFalsely : Prop := fnExactSoundCodeRow.holds Try.pinned (OpenSpec.ofChange fnExactSoundCodeWrong)

/-- 'laws.FnExactSoundex': WHATEVER THE INPUT: true; the input reads as it did. -/
def fnExactSoundexSpec : ChangeSpec := { name := "fnExactSoundex", fn := fun _ => fun
  | [d] => { results := [.lit (.bool true)], args := [d] }
  | _ => none }
def fnExactSoundexRow : OpenClaim := { program := "ytfaocbbjcfhpiaa", sum := "0a0e9eacd9249bae6a2a89d7ec28d53ca6756a04d1f0ca9d4438831a9c11600b", func := "loop.example/g01923/laws.FnExactSoundex", spec := "fnExactSoundex", apart := false }
def FnExactSoundexSaid : Prop := fnExactSoundexRow.holds Try.pinned (OpenSpec.ofChange fnExactSoundexSpec)

/-- ITS FALSE NEIGHBOUR: 'it returns false'. Refute it at one input. -/
def fnExactSoundexWrong : ChangeSpec := { name := "fnExactSoundex", fn := fun _ => fun
  | [d] => { results := [.lit (.bool false)], args := [d] }
  | _ => none }
def FnExactSoundexWrongFalsely : Prop := fnExactSoundexRow.holds Try.pinned (OpenSpec.ofChange fnExactSoundexWrong)

/-- 'laws.FnExactSoundsAlike': WHATEVER THE INPUT: true; the input reads as it did. -/
def fnExactSoundsAlikeSpec : ChangeSpec := { name := "fnExactSoundsAlike", fn := fun _ => fun
  | [d1, d2] => { results := [.lit (.bool true)], args := [d1, d2] }
  | _ => none }
def fnExactSoundsAlikeRow : OpenClaim := { program := "ytfaocbbjcfhpiaa", sum := "0a0e9eacd9249bae6a2a89d7ec28d53ca6756a04d1f0ca9d4438831a9c11600b", func := "loop.example/g01923/laws.FnExactSoundsAlike", spec := "fnExactSoundsAlike", apart := false }
def FnExactSoundsAlikeSaid : Prop := fnExactSoundsAlikeRow.holds Try.pinned (OpenSpec.ofChange fnExactSoundsAlikeSpec)

/-- ITS FALSE NEIGHBOUR: 'it returns false'. Refute it at one input. -/
def fnExactSoundsAlikeWrong : ChangeSpec := { name := "fnExactSoundsAlike", fn := fun _ => fun
  | [d1, d2] => { results := [.lit (.bool false)], args := [d1, d2] }
  | _ => none }
def FnExactSoundsAlikeWrongFalsely : Prop := fnExactSoundsAlikeRow.holds Try.pinned (OpenSpec.ofChange fnExactSoundsAlikeWrong)

/- THE SECOND FORM. 'bulk': how many values and letters a reading holds, each counted each time it is reached (what is shared counts as often as it is met; a slice's spare places count too). A statement '..UptoSaid' is the law's where the arguments, and the package variables that the reading takes, are together of bulk at most 1048576: NARROWER than '..Said'. Prove '..Said' where nothing that the law and all that it calls make is longer than what came in: it says more and counts as full. Else prove '..UptoSaid'. A law counts once. -/
mutual
def uptoBulk {H : Type} : DataW H → Nat
  | .lit (.string bytes) => bytes.length + 1
  | .lit _ => 1
  | .nil => 1
  | .ptr d => uptoBulk d + 1
  | .slice elems spare => uptoBulkAll elems + uptoBulkAll spare + 1
  | .agg parts => uptoBulkAll parts + 1
  | .iface _ d => uptoBulk d + 1
  | .map entries => uptoBulkEntries entries + 1
  | .held _ => 1
def uptoBulkAll {H : Type} : List (DataW H) → Nat
  | [] => 0
  | d :: r => uptoBulk d + uptoBulkAll r
def uptoBulkEntries {H : Type} : List (Lit × DataW H) → Nat
  | [] => 0
  | x :: r => uptoBulkEntry x + uptoBulkEntries r
def uptoBulkEntry {H : Type} : Lit × DataW H → Nat
  | (.string bytes, d) => bytes.length + uptoBulk d + 1
  | (_, d) => uptoBulk d + 1
 end
def uptoSmall : (H : Type) → List (DataW H) → Bool := fun _ ds => decide (uptoBulkAll ds ≤ 1048576)
def OpenSpec.upto (s : _root_.Go.ChangeSpec) : _root_.Go.OpenSpec := { _root_.Go.OpenSpec.ofChange s with cond := some uptoSmall }

/-- 'laws.FnExactFoldCase', WHERE WHAT IT READS IS OF BULK AT MOST 1048576: true; the input reads as it did. -/
def fnExactFoldCaseUptoRow : OpenClaim := { program := "ytfaocbbjcfhpiaa", sum := "0a0e9eacd9249bae6a2a89d7ec28d53ca6756a04d1f0ca9d4438831a9c11600b", func := "loop.example/g01923/laws.FnExactFoldCase", spec := "fnExactFoldCase", apart := false, narrowed := true }
def FnExactFoldCaseUptoSaid : Prop := fnExactFoldCaseUptoRow.holds Try.pinned (OpenSpec.upto fnExactFoldCaseSpec)

/-- 'laws.FnExactNormalize', WHERE WHAT IT READS IS OF BULK AT MOST 1048576: true; the input reads as it did. -/
def fnExactNormalizeUptoRow : OpenClaim := { program := "ytfaocbbjcfhpiaa", sum := "0a0e9eacd9249bae6a2a89d7ec28d53ca6756a04d1f0ca9d4438831a9c11600b", func := "loop.example/g01923/laws.FnExactNormalize", spec := "fnExactNormalize", apart := false, narrowed := true }
def FnExactNormalizeUptoSaid : Prop := fnExactNormalizeUptoRow.holds Try.pinned (OpenSpec.upto fnExactNormalizeSpec)

/-- 'laws.FnExactIsNormal', WHERE WHAT IT READS IS OF BULK AT MOST 1048576: true; the input reads as it did. -/
def fnExactIsNormalUptoRow : OpenClaim := { program := "ytfaocbbjcfhpiaa", sum := "0a0e9eacd9249bae6a2a89d7ec28d53ca6756a04d1f0ca9d4438831a9c11600b", func := "loop.example/g01923/laws.FnExactIsNormal", spec := "fnExactIsNormal", apart := false, narrowed := true }
def FnExactIsNormalUptoSaid : Prop := fnExactIsNormalUptoRow.holds Try.pinned (OpenSpec.upto fnExactIsNormalSpec)

/-- 'laws.FnExactSoundCode', WHERE WHAT IT READS IS OF BULK AT MOST 1048576: true; the input reads as it did. -/
def fnExactSoundCodeUptoRow : OpenClaim := { program := "ytfaocbbjcfhpiaa", sum := "0a0e9eacd9249bae6a2a89d7ec28d53ca6756a04d1f0ca9d4438831a9c11600b", func := "loop.example/g01923/laws.FnExactSoundCode", spec := "fnExactSoundCode", apart := false, narrowed := true }
def FnExactSoundCodeUptoSaid : Prop := fnExactSoundCodeUptoRow.holds Try.pinned (OpenSpec.upto fnExactSoundCodeSpec)

/-- 'laws.FnExactSoundex', WHERE WHAT IT READS IS OF BULK AT MOST 1048576: true; the input reads as it did. -/
def fnExactSoundexUptoRow : OpenClaim := { program := "ytfaocbbjcfhpiaa", sum := "0a0e9eacd9249bae6a2a89d7ec28d53ca6756a04d1f0ca9d4438831a9c11600b", func := "loop.example/g01923/laws.FnExactSoundex", spec := "fnExactSoundex", apart := false, narrowed := true }
def FnExactSoundexUptoSaid : Prop := fnExactSoundexUptoRow.holds Try.pinned (OpenSpec.upto fnExactSoundexSpec)

/-- 'laws.FnExactSoundsAlike', WHERE WHAT IT READS IS OF BULK AT MOST 1048576: true; the input reads as it did. -/
def fnExactSoundsAlikeUptoRow : OpenClaim := { program := "ytfaocbbjcfhpiaa", sum := "0a0e9eacd9249bae6a2a89d7ec28d53ca6756a04d1f0ca9d4438831a9c11600b", func := "loop.example/g01923/laws.FnExactSoundsAlike", spec := "fnExactSoundsAlike", apart := false, narrowed := true }
def FnExactSoundsAlikeUptoSaid : Prop := fnExactSoundsAlikeUptoRow.holds Try.pinned (OpenSpec.upto fnExactSoundsAlikeSpec)

end Rows
end Go.Proofs.Ytfaocbbjcfhpiaa
