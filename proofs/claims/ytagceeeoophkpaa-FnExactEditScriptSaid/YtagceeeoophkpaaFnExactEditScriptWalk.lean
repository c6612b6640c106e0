/-
  The walk of laws.FnExactEditScript. By an AI agent.
-/
import Derived.Test.YtagceeeoophkpaaEdScr2
namespace Go.Proofs.Ytagceeeoophkpaa
open Go.RowKit
set_option linter.unusedVariables false

set_option maxRecDepth 100000 in
set_option maxHeartbeats 400000 in
theorem FnExactEditScript_walk (a0 : ByteArray) (a1 : ByteArray) (w0 : a0.size ≤ maxLen) (w1 : a1.size ≤ maxLen) (w : World) :
    Calls Try.prog 8 #[.string a0, .string a1] w fun e w' => e = .returned (.bool true) ∧ Below w.heap.size w w' := by
  by_cases hbig : 1048576 < (a0.size : Int)
  · go_enter Try.func8, Try.ntmps8
    go_wp2
    go_ret
    exact ⟨rfl, Below.refl _ _⟩
  · by_cases hbig1 : 1048576 < (a1.size : Int)
    · go_enter Try.func8, Try.ntmps8
      go_wp2
      go_ret
      exact ⟨rfl, Below.refl _ _⟩
    · have W0 := Lib.hid (show a0.size ≤ 1048576 by omega)
      have W1 := Lib.hid (show a1.size ≤ 1048576 by omega)
      obtain ⟨v, hv⟩ : ∃ v, scR a0 a1 = v := ⟨_, rfl⟩
      have HV := Lib.hid hv
      clear hv
      go_enter Try.func8, Try.ntmps8
      go_wp2_with (first
        | (go_at_call 25; ((with_reducible refine (spec_scr _ _ _ W0.out W1.out).mono ?_); rintro e w2 ⟨he, hb2⟩; rw [HV.out] at he; obtain rfl := he; have HB2 := Lib.hid hb2; clear hb2))
        | (go_at_call 23; ((with_reducible refine (impl_scr _ _ _ W0.out W1.out).mono ?_); rintro e w3 ⟨he, hb3⟩; rw [HV.out] at he; obtain rfl := he; have HB3 := Lib.hid (HB2.out.trans (hb3.mono HB2.out.size)); clear hb3)))
      all_goals go_ret
      all_goals exact ⟨rfl, HB3.out⟩

end Go.Proofs.Ytagceeeoophkpaa
