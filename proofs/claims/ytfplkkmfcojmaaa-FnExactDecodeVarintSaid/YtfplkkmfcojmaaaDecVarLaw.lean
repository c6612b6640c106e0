/-
  The walk of laws.FnExactDecodeVarint: it answers true, whatever the string. By an AI agent.
-/
import Derived.Test.YtfplkkmfcojmaaaDecVar
namespace Go.Proofs.Ytfplkkmfcojmaaa
open Go.RowKit
set_option linter.unusedVariables false

set_option maxRecDepth 100000 in
set_option maxHeartbeats 400000 in
theorem FnExactDecodeVarint_walk (a0 : ByteArray) (w0 : a0.size ≤ maxLen) (w : World) :
    Calls Try.prog 6 #[.string a0] w fun e w' => e = .returned (.bool true) ∧ Below w.heap.size w w' := by
  by_cases hbig : 1048576 < (a0.size : Int)
  · go_enter Try.func6, Try.ntmps6
    go_wp2
    go_ret
    exact ⟨rfl, Below.refl _ _⟩
  · have W0 := Lib.hid w0
    go_enter Try.func6, Try.ntmps6
    go_wp2_with (go_at_call 15; (refine (spec_dv _ _ W0.out).mono ?_); rintro e w1 ⟨n, k, rfl, hd1, hb1⟩; refine Hid.out ?_)
    refine Lib.hid ?_
    have HD1 := Lib.hid hd1
    have HB1 := Lib.hid hb1
    clear hd1 hb1
    go_wp2_with (go_at_call 16; (refine (impl_dv _ _ W0.out).mono ?_); rintro e w2 ⟨n', k', rfl, hd2, hb2⟩; refine Hid.out ?_)
    refine Lib.hid ?_
    obtain ⟨rfl, rfl⟩ := HD1.out.same hd2
    clear hd2
    go_wp2
    go_ret
    exact ⟨rfl, HB1.out.trans (hb2.mono HB1.out.size)⟩

end Go.Proofs.Ytfplkkmfcojmaaa
