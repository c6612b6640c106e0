/-
  internal/bytealg.MaxLen holds some int, by the shape of the world. By an AI agent.
-/
import Derived.Test.YtknkhljegmielaaDoorShelf
import Derived.WalkKit
import Derived.Below
import Derived.WalkSmall
namespace Go.Proofs.YtknkhljegmielaaDoor
open Go.RowKit
set_option linter.unusedVariables false

theorem cell_lt {w : World} {p : Addr} {v : Value} (h : w.cell? p = some v) : p.block < w.heap.size := by
  by_cases hl : p.block < w.heap.size
  · exact hl
  · have h1 : w.heap[p.block]? = none := Array.getElem?_eq_none (by omega)
    unfold World.cell? at h
    simp [h1] at h

/-- internal/bytealg.MaxLen holds some int -/
def MaxAt (w : World) : Prop := ∃ m, w.cell? ⟨0, 0, none⟩ = some (.int .i64 m)
theorem MaxAt.of_shape {w : World} (h : w.ShapedOpen Tryd.prog) : MaxAt w := Tryd.laysM147.s1_3 w h
theorem MaxAt.on {w w' : World} (h : MaxAt w) (hb : Below w.heap.size w w') : MaxAt w' := by
  obtain ⟨m, hm⟩ := h
  exact ⟨m, (hb.cell (cell_lt hm)).trans hm⟩

end Go.Proofs.YtknkhljegmielaaDoor
