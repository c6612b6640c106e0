/-
  What spec's IsValidRules, TestHolds, RuleHolds, FirstRule and RulesHold answer. By an AI agent.
-/
import Derived.Test.YtookcggmapldeaaRuC
import Derived.Test.YtookcggmapldeaaRuV
namespace Go.Proofs.Ytookcggmapldeaa
open Go.RowKit
set_option linter.unusedVariables false

theorem fv_specF (a : Option Addr) (cap : Nat) (l : List Int) (r : Bool) (w : World) (hl : l.length ≤ 4000000) (hin : InI w a l) (hr : fvB l = r) :
    Calls Try.prog 59 #[.slice a l.length cap] w fun e w' => e = .returned (.bool r) ∧ w' = w :=
  (fv_spec a cap l r w hl hin hr).mono fun e w' ⟨he, hw⟩ => ⟨he, hw.symm⟩
theorem cond_nofeat {f t : Int} {u : Bool} {l : List Int} (h : ¬ (0 ≤ f ∧ f ≤ 5)) : condT ((f, t), u) l = false := by unfold condT featB; rw [decide_eq_false h]; rfl

end Go.Proofs.Ytookcggmapldeaa
