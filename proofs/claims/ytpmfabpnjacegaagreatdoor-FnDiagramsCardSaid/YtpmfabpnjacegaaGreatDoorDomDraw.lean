/-
  What spec.DrawDominatesFeatures draws. By an AI agent.
-/
import Derived.Test.YtpmfabpnjacegaaGreatDoorVecDraw
namespace Go.Proofs.YtpmfabpnjacegaaGreatDoor
open Go.RowKit
set_option linter.unusedVariables false
set_option linter.unusedSimpArgs false
set_option linter.unnecessarySimpa false

/-- two slices of integers are handed back -/
def SomeTwo (w : World) (e : Ending) (w' : World) : Prop :=
  ∃ (l m : List Int) (a1 a2 : Option Addr) (c1 c2 : Nat), e = .returned (.tuple #[.slice a1 l.length c1, .slice a2 m.length c2]) ∧ l.length ≤ 6 ∧ m.length ≤ 6 ∧ InI w' a1 l ∧ InI w' a2 m ∧ Below w.heap.size w w'
theorem in_cur {w w' : World} {g off c : Nat} {l : List Int} (h : InI w (some ⟨g, off, none⟩) l) (hg : w.grownBy w' (some c)) (hc : c ≠ g) : InI w' (some ⟨g, off, none⟩) l :=
  h.grown hg (fun b o e => by injection e with e; injection e with e1; subst e1; intro e2; injection e2 with e2; exact hc e2.symm)
theorem below_cur {w w1 w2 : World} {c : Nat} (h : Below w.heap.size w w1) (hg : w1.grownBy w2 (some c)) (hc : w.heap.size ≤ c) : Below w.heap.size w w2 := h.grown hg h.size (fun q hq => by injection hq with hq; omega)

end Go.Proofs.YtpmfabpnjacegaaGreatDoor
