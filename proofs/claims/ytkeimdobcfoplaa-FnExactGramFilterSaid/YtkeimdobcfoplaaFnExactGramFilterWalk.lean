/-
  The walk of laws.FnExactGramFilter. By an AI agent.
-/
import Derived.Test.YtkeimdobcfoplaaGramF
namespace Go.Proofs.Ytkeimdobcfoplaa
open Go.RowKit
set_option linter.unusedVariables false

set_option maxRecDepth 100000 in
set_option maxHeartbeats 800000 in
theorem FnExactGramFilter_walk (a0 : ByteArray) (a1 : ByteArray) (a2 : Int) (a3 : Int) (w0 : a0.size ≤ maxLen) (w1 : a1.size ≤ maxLen) (w2 : (Lit.int .i64 a2).wf = true) (w3 : (Lit.int .i64 a3).wf = true) (w : World) :
    Calls Try.prog 6 #[.string a0, .string a1, .int .i64 a2, .int .i64 a3] w fun e w' => e = .returned (.bool true) ∧ Below w.heap.size w w' := by
  by_cases hbig0 : 1048576 < (a0.size : Int)
  · go_enter Try.func6, Try.ntmps6
    go_wp2
    go_ret
    exact ⟨rfl, Below.refl _ _⟩
  · skip
    by_cases hbig1 : 1048576 < (a1.size : Int)
    · go_enter Try.func6, Try.ntmps6
      go_wp2
      go_ret
      exact ⟨rfl, Below.refl _ _⟩
    · skip
      have W0 := Lib.hid (show a0.size ≤ 1048576 by omega)
      have W1 := Lib.hid (show a1.size ≤ 1048576 by omega)
      obtain ⟨v, hv⟩ : ∃ v, gfR a0 a1 a2 a3 = v := ⟨_, rfl⟩
      have HV := Lib.hid hv
      clear hv
      have HBW := Lib.hid (Below.refl w.heap.size w)
      go_enter Try.func6, Try.ntmps6
      go_wp2_with (first
        | (go_at_call 27; ((with_reducible refine (gf_spec _ _ _ _ _ _ W0.out W1.out HV.out).mono ?_); rintro e wn ⟨rfl, hb⟩; have HBW2 := Lib.hid (HBW.out.trans (hb.mono HBW.out.size)); clear hb HBW; have HBW := HBW2; clear HBW2))
        | (go_at_call 28; ((with_reducible refine (gf_impl _ _ _ _ _ _ W0.out W1.out HV.out).mono ?_); rintro e wn ⟨rfl, hb⟩; have HBW2 := Lib.hid (HBW.out.trans (hb.mono HBW.out.size)); clear hb HBW; have HBW := HBW2; clear HBW2)))
      all_goals go_ret
      all_goals exact ⟨rfl, HBW.out⟩

end Go.Proofs.Ytkeimdobcfoplaa
