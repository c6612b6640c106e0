/-
  The walk of laws.FnExactLengthBounds. By an AI agent.
-/
import Derived.Test.YtkfdjbeligjplaaBounds
namespace Go.Proofs.Ytkfdjbeligjplaa
open Go.RowKit
set_option linter.unusedVariables false

set_option maxRecDepth 100000 in
theorem FnExactLengthBounds_walk (a0 : Int) (a1 : Int) (w0 : (Lit.int .i64 a0).wf = true) (w1 : (Lit.int .i64 a1).wf = true) (w : World) :
    Calls Try.prog 8 #[.int .i64 a0, .int .i64 a1] w fun e w' => e = .returned (.bool true) ∧ Below w.heap.size w w' := by
  obtain ⟨v, hv⟩ : ∃ v, (if okS a0 && okT a1 then lbLo a0 a1 else -1) = v := ⟨_, rfl⟩
  obtain ⟨u, hu⟩ : ∃ u, (if okS a0 && okT a1 then lbHi a0 a1 else -1) = u := ⟨_, rfl⟩
  have HV := Lib.hid hv
  have HU := Lib.hid hu
  clear hv hu
  go_enter Try.func8, Try.ntmps8
  go_wp2_with (first
    | (go_at_call 30; ((with_reducible refine (lb_spec _ _ _ _ _ HV.out HU.out).mono ?_); rintro e w2 ⟨rfl, hb2⟩; have HB2 := Lib.hid hb2; clear hb2))
    | (go_at_call 31; ((with_reducible refine (lb_impl _ _ _ _ _ HV.out HU.out).mono ?_); rintro e w3 ⟨rfl, hb3⟩; have HB3 := Lib.hid (HB2.out.trans (hb3.mono HB2.out.size)); clear hb3)))
  all_goals go_ret
  all_goals exact ⟨rfl, HB3.out⟩

end Go.Proofs.Ytkfdjbeligjplaa
