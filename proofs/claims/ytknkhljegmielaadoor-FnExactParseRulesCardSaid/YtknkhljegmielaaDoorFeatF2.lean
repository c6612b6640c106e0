/-
  What impl.FormatFeatures answers. By an AI agent.
-/
import Derived.Test.YtknkhljegmielaaDoorFeatF
import Derived.Test.YtknkhljegmielaaDoorJoinS
namespace Go.Proofs.YtknkhljegmielaaDoor
open Go.RowKit
set_option linter.unusedVariables false

theorem part_enc {k : Nat} {x : Int} {N t : ByteArray} (hN : fnR k = N) (ht : strOf (Lib.itoa x) = t) : encStr (fpart k x) = .string ((N ++ ⟨#[61]⟩) ++ t) := by
  rw [part_str hN ht]
  rfl

end Go.Proofs.YtknkhljegmielaaDoor
