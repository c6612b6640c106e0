/-
  What spec.ParseFeatures answers. By an AI agent.
-/
import Derived.Test.YtknkhljegmielaaDoorFeatF
import Derived.Test.YtknkhljegmielaaDoorGMem
import Derived.Test.YtknkhljegmielaaDoorCutS
import Derived.Test.YtknkhljegmielaaDoorParseInt
import Derived.Test.YtknkhljegmielaaDoorStrE
namespace Go.Proofs.YtknkhljegmielaaDoor
open Go.RowKit
set_option linter.unusedVariables false

/-- a feature vector and whether it was read are handed back -/
def GivesPF (w : World) (L : List Int) (r : Bool) (e : Ending) (w' : World) : Prop :=
  ∃ a cap, e = .returned (.tuple #[.slice a L.length cap, .bool r]) ∧ OwnI w' w.heap.size (.slice a L.length cap) L ∧ Below w.heap.size w w'
theorem gives_none {w w' : World} {L : List Int} {r : Bool} {a : Option Addr} {cap : Nat} (h : L = [] ∧ r = false) (ho : OwnI w' w.heap.size (.slice a 0 cap) []) (hb : Below w.heap.size w w') :
    GivesPF w L r (.returned (.tuple #[.slice a 0 cap, .bool false])) w' := by
  obtain ⟨rfl, rfl⟩ := h
  exact ⟨a, cap, rfl, ho, hb⟩

end Go.Proofs.YtknkhljegmielaaDoor
