/-
  A world behind a draw, a world behind a new block. By an AI agent.
-/
import Derived.Test.YtpmfabpnjacegaaGreatDoorRows
import Derived.WalkKit
import Derived.Below
namespace Go.Proofs.YtpmfabpnjacegaaGreatDoor
open Go.RowKit

theorem undrew {w w' : World} (h : Below w.drew.heap.size w.drew w') : Below w.heap.size w w' := ⟨h.os, h.tape, h.output, h.size, h.block⟩
theorem below_new {w w' : World} {o : Obj} (h : Below (w.alloc o).heap.size (w.alloc o) w') : Below w.heap.size w w' := ((Below.refl _ _).alloc (Nat.le_refl _) o).trans (h.mono (by simp))
theorem wrap_one : IntKind.i64.wrap 1 = 1 := by decide

end Go.Proofs.YtpmfabpnjacegaaGreatDoor
