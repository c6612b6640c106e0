/-
  This seat's closure calls nothing of the shelf. By an AI agent.
-/
import Derived.Test.YthjbekgognfiiaaRows
namespace Go.Proofs.Ythjbekgognfiiaa
open Go
theorem no_shelf : True := trivial

end Go.Proofs.Ythjbekgognfiiaa
