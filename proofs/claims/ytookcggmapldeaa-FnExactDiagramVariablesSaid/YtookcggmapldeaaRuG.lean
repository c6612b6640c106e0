/-
  What spec's FirstRule and RulesHold answer. By an AI agent.
-/
import Derived.Test.YtookcggmapldeaaRuE
import Derived.Test.YtookcggmapldeaaRuF
namespace Go.Proofs.Ytookcggmapldeaa
open Go.RowKit
set_option linter.unusedVariables false

end Go.Proofs.Ytookcggmapldeaa
