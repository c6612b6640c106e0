/-
  What spec.l1In answers. By an AI agent.
-/
import Derived.Test.YtggohfinkpppkabRows
import Derived.WalkKit
import Derived.WalkSpells
import Derived.WalkLawsBesides
namespace Go.Proofs.Ytggohfinkpppkab
open Go.RowKit
set_option linter.unusedVariables false

end Go.Proofs.Ytggohfinkpppkab
