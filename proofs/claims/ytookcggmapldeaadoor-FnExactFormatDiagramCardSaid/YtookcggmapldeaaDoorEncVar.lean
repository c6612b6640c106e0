/-
  What spec.EncodeVarint and impl.EncodeVarint answer, for every integer. By an AI agent.
-/
import Derived.Test.YtookcggmapldeaaDoorOwnBytes
import Derived.Test.YtookcggmapldeaaDoorPlainVarint
import Derived.Test.YtookcggmapldeaaDoorSpecIn
namespace Go.Proofs.YtookcggmapldeaaDoor
open Go.RowKit
set_option linter.unusedVariables false

def strOf (l : List UInt8) : ByteArray := ⟨l.toArray⟩

theorem ret_str {a b : ByteArray} (h : a = b) : Ending.returned (.string a) = .returned (.string b) := by rw [h]

theorem strOf_append (l r : List UInt8) : strOf l ++ strOf r = strOf (l ++ r) := by
  apply ByteArray.ext
  simp [strOf]

theorem strOf_size (l : List UInt8) : (strOf l).size = l.length := by simp [strOf, ByteArray.size]

end Go.Proofs.YtookcggmapldeaaDoor
