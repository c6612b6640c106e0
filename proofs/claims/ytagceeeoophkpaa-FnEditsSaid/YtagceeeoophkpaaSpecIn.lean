/-
  What spec.l1In answers. By an AI agent.
-/
import Derived.Test.YtagceeeoophkpaaRows
import Derived.WalkKit
import Derived.WalkSpells
import Derived.WalkLawsBesides
namespace Go.Proofs.Ytagceeeoophkpaa
open Go.RowKit
set_option linter.unusedVariables false

end Go.Proofs.Ytagceeeoophkpaa
