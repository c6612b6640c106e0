/-
  The walk of laws.FnExactEditLimit. By an AI agent.
-/
import Derived.Test.YtkeimdobcfoplaaFilt
namespace Go.Proofs.Ytkeimdobcfoplaa
open Go.RowKit
set_option linter.unusedVariables false

set_option maxRecDepth 100000 in
set_option maxHeartbeats 800000 in
theorem FnExactEditLimit_walk (a0 : Int) (a1 : Int) (a2 : Int) (w0 : (Lit.int .i64 a0).wf = true) (w1 : (Lit.int .i64 a1).wf = true) (w2 : (Lit.int .i64 a2).wf = true) (w : World) :
    Calls Try.prog 9 #[.int .i64 a0, .int .i64 a1, .int .i64 a2] w fun e w' => e = .returned (.bool true) ∧ Below w.heap.size w w' := by
  obtain ⟨v, hv⟩ : ∃ v, elR a0 a1 a2 = v := ⟨_, rfl⟩
  have HV := Lib.hid hv
  clear hv
  have HBW := Lib.hid (Below.refl w.heap.size w)
  go_enter Try.func9, Try.ntmps9
  go_wp2_with (first
    | (go_at_call 23; ((with_reducible refine (el_spec _ _ _ _ _  HV.out).mono ?_); rintro e wn ⟨rfl, rfl⟩))
    | (go_at_call 22; ((with_reducible refine (el_impl _ _ _ _ _  HV.out).mono ?_); rintro e wn ⟨rfl, hb⟩; have HBW2 := Lib.hid (HBW.out.trans (hb.mono HBW.out.size)); clear hb HBW; have HBW := HBW2; clear HBW2)))
  all_goals go_ret
  all_goals exact ⟨rfl, HBW.out⟩

end Go.Proofs.Ytkeimdobcfoplaa
