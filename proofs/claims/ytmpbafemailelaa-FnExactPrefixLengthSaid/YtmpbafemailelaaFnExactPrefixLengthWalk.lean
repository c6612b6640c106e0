/-
  The walk of laws.FnExactPrefixLength. By an AI agent.
-/
import Derived.Test.YtmpbafemailelaaPlen
namespace Go.Proofs.Ytmpbafemailelaa
open Go.RowKit
set_option linter.unusedVariables false

set_option maxRecDepth 100000 in
set_option maxHeartbeats 800000 in
theorem FnExactPrefixLength_walk (a0 : Int) (a1 : Int) (w0 : (Lit.int .i64 a0).wf = true) (w1 : (Lit.int .i64 a1).wf = true) (w : World) :
    Calls Try.prog 9 #[.int .i64 a0, .int .i64 a1] w fun e w' => e = .returned (.bool true) ∧ Below w.heap.size w w' := by
  obtain ⟨v, hv⟩ : ∃ v, plR a0 a1 = v := ⟨_, rfl⟩
  have HV := Lib.hid hv
  clear hv
  have HBW := Lib.hid (Below.refl w.heap.size w)
  go_enter Try.func9, Try.ntmps9
  go_wp2_with (first
    | (go_at_call 29; ((with_reducible refine (pl_spec _ _ _ _  HV.out).mono ?_); rintro e wn ⟨rfl, hb⟩; have HBW2 := Lib.hid (HBW.out.trans (hb.mono HBW.out.size)); clear hb HBW; have HBW := HBW2; clear HBW2))
    | (go_at_call 28; ((with_reducible refine (pl_impl _ _ _ _  HV.out).mono ?_); rintro e wn ⟨rfl, hb⟩; have HBW2 := Lib.hid (HBW.out.trans (hb.mono HBW.out.size)); clear hb HBW; have HBW := HBW2; clear HBW2)))
  all_goals go_ret
  all_goals exact ⟨rfl, HBW.out⟩

end Go.Proofs.Ytmpbafemailelaa
