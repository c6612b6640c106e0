/-
  Records of the call's own under the laws' marks. By an AI agent.
-/
import Derived.Test.YtlapgcbeemdboaaDoorRecV
namespace Go.Proofs.YtlapgcbeemdboaaDoor
open Go.RowKit
set_option linter.unusedVariables false

theorem RecB.mark {ty : TypeId} {w w' : World} {g : Nat} {s k v : Int} {V u : Value} {lo hi : Nat} (h : RecB ty w g s k v V) (hg : w.grownBy w' u.ownBlock) (hu : ∀ j, u.ownBlock = some j → lo ≤ j ∧ j < hi) (hd : g < lo ∨ hi ≤ g) : RecB ty w' g s k v V :=
  (hg.block g h.lt (fun e => by have := hu g e.symm; omega)).trans h
theorem OwnH.of_new {w w' : World} {o : Obj} {a : Option Addr} {cap : Nat} {l : List Str} (h : OwnS w' (w.alloc o).heap.size (.slice a l.length cap) l) : OwnH w' (w.heap.size + 1) w'.heap.size (.slice a l.length cap) l := by
  have e : (w.alloc o).heap.size = w.heap.size + 1 := by simp
  rw [e] at h
  exact ⟨h, fun k hk => (World.ownsRow.lt h k hk).2⟩
theorem size_new {w w' : World} {o : Obj} (h : Below (w.alloc o).heap.size (w.alloc o) w') : w.heap.size + 1 ≤ w'.heap.size := by
  have := h.size
  simpa using this

end Go.Proofs.YtlapgcbeemdboaaDoor
