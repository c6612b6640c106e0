/-
  What spec.DrawMonotoneViolation draws, where spec.l14Rules draws rules. By an AI agent.
-/
import Derived.Test.YtpmfabpnjacegaaGreatDoorAny14
import Derived.Test.YtpmfabpnjacegaaGreatDoorDomDraw
namespace Go.Proofs.YtpmfabpnjacegaaGreatDoor
open Go.RowKit
set_option linter.unusedVariables false
set_option linter.unusedSimpArgs false
set_option linter.unnecessarySimpa false

theorem CodeAt.more {w : World} {B B' : Nat} {A : Option Addr} {len : Nat} (h : CodeAt w B A len) (hB : B ≤ B') : CodeAt w B' A len := by
  refine ⟨h.1, fun h0 => ?_⟩
  obtain ⟨b, off, hA, hb, hz⟩ := h.2 h0
  exact ⟨b, off, hA, by omega, hz⟩
def SomeRw (w : World) (e : Ending) (w' : World) : Prop :=
  ∃ (R : List (List TS)) (a : Option Addr) (cap : Nat) (q : List XU), e = .returned (.agg #[.slice a R.length cap]) ∧ rulesU q = R ∧ OwnRu w' w.heap.size (.slice a R.length cap) q ∧ SmallX R ∧ Below w.heap.size w w'

end Go.Proofs.YtpmfabpnjacegaaGreatDoor
