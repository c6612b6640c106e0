/-
  What the laws' own heldStringS does at a list of marks. By an AI agent.
-/
import Derived.Test.YtkeimdobcfoplaaMarks
namespace Go.Proofs.Ytkeimdobcfoplaa
open Go.RowKit
set_option linter.unusedVariables false

end Go.Proofs.Ytkeimdobcfoplaa
