/-
  The walk of laws.FnExactApplyScript. By an AI agent.
-/
import Derived.Test.YtagceeeoophkpaaApply
namespace Go.Proofs.Ytagceeeoophkpaa
open Go.RowKit
set_option linter.unusedVariables false

set_option maxRecDepth 100000 in
set_option maxHeartbeats 400000 in
theorem FnExactApplyScript_walk (a0 : ByteArray) (a1 : ByteArray) (w0 : a0.size ≤ maxLen) (w1 : a1.size ≤ maxLen) (w : World) :
    Calls Try.prog 9 #[.string a0, .string a1] w fun e w' => e = .returned (.bool true) ∧ Below w.heap.size w w' := by
  by_cases hbig : 1048576 < (a0.size : Int)
  · go_enter Try.func9, Try.ntmps9
    go_wp2
    go_ret
    exact ⟨rfl, Below.refl _ _⟩
  · by_cases hbig1 : 1048576 < (a1.size : Int)
    · go_enter Try.func9, Try.ntmps9
      go_wp2
      go_ret
      exact ⟨rfl, Below.refl _ _⟩
    · have W0 := Lib.hid (show a0.size ≤ 1048576 by omega)
      have W1 := Lib.hid (show a1.size ≤ 1048576 by omega)
      obtain ⟨x, b, hx⟩ : ∃ x b, apR (app a0.data.toList a1.data.toList) = .returned (.tuple #[.string x, .bool b]) := ⟨_, _, rfl⟩
      have HX := Lib.hid hx
      clear hx
      go_enter Try.func9, Try.ntmps9
      go_wp2_with (first
        | (go_at_call 26; (refine (spec_ap _ _ _ W0.out W1.out _ rfl).mono ?_); rintro e w1 ⟨he, rfl⟩; rw [HX.out] at he; obtain rfl := he)
        | (go_at_call 24; (refine (impl_ap _ _ _ W0.out W1.out _ rfl).mono ?_); rintro e w2 ⟨he, hb2⟩; rw [HX.out] at he; obtain rfl := he; have HB2 := Lib.hid hb2; clear hb2))
      all_goals go_ret
      all_goals exact ⟨rfl, HB2.out⟩

end Go.Proofs.Ytagceeeoophkpaa
