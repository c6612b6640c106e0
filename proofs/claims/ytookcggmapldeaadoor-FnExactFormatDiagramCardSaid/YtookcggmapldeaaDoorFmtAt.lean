/-
  FormatInt on both sides with its answer under a name. By an AI agent.
-/
import Derived.Test.YtookcggmapldeaaDoorFmtInt
namespace Go.Proofs.YtookcggmapldeaaDoor
open Go.RowKit
set_option linter.unusedVariables false

theorem str_of_list (t : ByteArray) : strOf t.data.toList = t := by
  unfold strOf
  simp

theorem spec_fi_at (n : Int) (t : ByteArray) (w : World) (h0 : -9223372036854775808 ≤ n) (h1 : n ≤ 9223372036854775807) (hn : strOf (Lib.itoa n) = t) :
    Calls Tryd.prog 11 #[.int .i64 n] w fun e w' => e = .returned (.string t) ∧ Below w.heap.size w w' := by
  rw [← hn]
  exact spec_fi n w h0 h1

theorem impl_fi_at (n : Int) (t : ByteArray) (w : World) (h0 : -9223372036854775808 ≤ n) (h1 : n ≤ 9223372036854775807) (ht : TabAt w) (hn : strOf (Lib.itoa n) = t) :
    Calls Tryd.prog 16 #[.int .i64 n] w fun e w' => e = .returned (.string t) ∧ Below w.heap.size w w' := by
  rw [← hn]
  exact impl_fi n w h0 h1 ht

end Go.Proofs.YtookcggmapldeaaDoor
