/-
  The walk of laws.FnExactNormalize: it answers true, whatever the string. By an AI agent.
-/
import Derived.Test.YtfaocbbjcfhpiaaNNorm
namespace Go.Proofs.Ytfaocbbjcfhpiaa
open Go.RowKit
set_option linter.unusedVariables false

set_option maxRecDepth 100000 in
set_option maxHeartbeats 400000 in
theorem FnExactNormalize_walk (a0 : ByteArray) (w0 : a0.size ≤ maxLen) (w : World) :
    Calls Try.prog 4 #[.string a0] w fun e w' => e = .returned (.bool true) ∧ Below w.heap.size w w' := by
  by_cases hbig : 1048576 < (a0.size : Int)
  · go_enter Try.func4, Try.ntmps4
    go_wp2
    go_ret
    exact ⟨rfl, Below.refl _ _⟩
  · have W0 := Lib.hid (show a0.size ≤ 1048576 by omega)
    go_enter Try.func4, Try.ntmps4
    go_wp2_with (first
      | (go_at_call 11; (refine (spec_no _ _ W0.out).mono ?_); rintro e w1 ⟨rfl, hb1⟩)
      | (go_at_call 12; (refine (impl_no _ _ W0.out).mono ?_); rintro e w2 ⟨rfl, hb2⟩))
    go_ret
    exact ⟨rfl, hb1.trans (hb2.mono hb1.size)⟩

end Go.Proofs.Ytfaocbbjcfhpiaa
