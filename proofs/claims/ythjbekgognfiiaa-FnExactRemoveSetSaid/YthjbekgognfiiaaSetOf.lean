/-
  What impl.setOf and impl.sortedMembers do. By an AI agent.
-/
import Derived.Test.YthjbekgognfiiaaMapS
namespace Go.Proofs.Ythjbekgognfiiaa
open Go.RowKit Go.Maps Go.Sort
set_option linter.unusedVariables false

theorem run_makeMap_hint {P : Program} (t k e : TypeId) (ht : P.underlying t = some (.map k e)) (q : IntKind) (n : Int) (w : World) : (Instr.makeMap t (some (.int q n))).run P w = .ok (.map (some w.heap.size)) (w.alloc (.map #[] 0)) := by
  simp [Instr.makeMap, run_underlying ht, asInt, asIntOf, Result.andThen]

def GivesM (w : World) (n : Nat) (ls : List Str) (e : Ending) (w' : World) : Prop := ∃ b, e = .returned (.map (some b)) ∧ SetM w' b n ls ∧ w.heap.size ≤ b ∧ Below w.heap.size w w'

end Go.Proofs.Ythjbekgognfiiaa
