/-
  What impl.isFeature answers. By an AI agent.
-/
import Derived.Test.YtookcggmapldeaaDoorInts
import Derived.Test.YtookcggmapldeaaDoorBounds
namespace Go.Proofs.YtookcggmapldeaaDoor
open Go.RowKit
set_option linter.unusedVariables false
set_option linter.unusedSimpArgs false
set_option linter.unnecessarySimpa false

theorem dwithin (lo hi x : Int) (r : Bool) (w : World) (hr : decide (lo ≤ x ∧ x ≤ hi) = r) :
    Calls Tryd.prog 30 #[.int .i64 lo, .int .i64 hi, .slice (some ⟨w.heap.size, 0, none⟩) 1 1] (w.alloc (.cells #[.int .i64 x] 3)) fun e w' => e = .returned (.bool r) ∧ w' = w.alloc (.cells #[.int .i64 x] 3) := by
  refine within_is lo hi _ 1 [x] r _ (by simp) ?_ (by rw [← hr]; simp [withinB])
  exact InI.new w [x]
set_option maxRecDepth 100000 in
theorem dfeat_is (x : Int) (r : Bool) (w : World) (hr : decide (0 ≤ x ∧ x ≤ 5) = r) :
    Calls Tryd.prog 31 #[.int .i64 x] w fun e w' => e = .returned (.bool r) ∧ Below w.heap.size w w' := by
  have HR := Lib.hid hr
  clear hr
  go_enter Tryd.func31, Tryd.ntmps31
  go_wp2_with (go_at_call 30; ((with_reducible refine (dwithin _ _ _ _ _ HR.out).mono ?_); rintro e w' ⟨rfl, rfl⟩))
  go_ret
  exact ⟨rfl, (Below.refl _ _).alloc (Nat.le_refl _) _⟩

end Go.Proofs.YtookcggmapldeaaDoor
