/-
  The walk of laws.FnExactMinOverlap. By an AI agent.
-/
import Derived.Test.YtkfdjbeligjplaaBounds
namespace Go.Proofs.Ytkfdjbeligjplaa
open Go.RowKit
set_option linter.unusedVariables false

set_option maxRecDepth 100000 in
theorem FnExactMinOverlap_walk (a0 : Int) (a1 : Int) (a2 : Int) (w0 : (Lit.int .i64 a0).wf = true) (w1 : (Lit.int .i64 a1).wf = true) (w2 : (Lit.int .i64 a2).wf = true) (w : World) :
    Calls Try.prog 7 #[.int .i64 a0, .int .i64 a1, .int .i64 a2] w fun e w' => e = .returned (.bool true) ∧ Below w.heap.size w w' := by
  obtain ⟨v, hv⟩ : ∃ v, (if goodR a0 a1 a2 then moR a0 a1 a2 else -1) = v := ⟨_, rfl⟩
  have HV := Lib.hid hv
  clear hv
  go_enter Try.func7, Try.ntmps7
  go_wp2_with (first
    | (go_at_call 28; ((with_reducible refine (mo_spec _ _ _ _ _ HV.out).mono ?_); rintro e w' ⟨rfl, rfl⟩))
    | (go_at_call 29; ((with_reducible refine (mo_impl _ _ _ _ _ HV.out).mono ?_); rintro e w' ⟨rfl, rfl⟩)))
  all_goals go_ret
  all_goals exact ⟨rfl, Below.refl _ _⟩

end Go.Proofs.Ytkfdjbeligjplaa
