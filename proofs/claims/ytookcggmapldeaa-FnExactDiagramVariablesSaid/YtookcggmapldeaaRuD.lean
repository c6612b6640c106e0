/-
  The conditions of tests and of rules are made: impl's Test.condition, Rule.condition; TestHolds and RuleHolds. By an AI agent.
-/
import Derived.Test.YtookcggmapldeaaRuC
namespace Go.Proofs.Ytookcggmapldeaa
open Go.RowKit
set_option linter.unusedVariables false

end Go.Proofs.Ytookcggmapldeaa
