/-
  cmp.Compare at int. By an AI agent.
-/
import Derived.Test.YtookcggmapldeaaOwnBytes
namespace Go.Proofs.Ytookcggmapldeaa
open Go.RowKit
set_option linter.unusedVariables false

def cmpI (x y : Int) : Int := if x < y then -1 else if y < x then 1 else 0

set_option maxRecDepth 100000 in
theorem nanI_is (x : Int) (w : World) :
    Calls Try.prog 94 #[.int .i64 x] w fun e w' => e = .returned (.bool false) ∧ w' = w := by
  go_enter Try.func94, Try.ntmps94
  go_wp2
  go_ret
  exact ⟨by first | rfl | simp, rfl⟩

set_option maxRecDepth 100000 in
theorem cmpI_is (x y r : Int) (w : World) (h : cmpI x y = r) :
    Calls Try.prog 70 #[.int .i64 x, .int .i64 y] w fun e w' => e = .returned (.int .i64 r) ∧ w' = w := by
  by_cases h1 : x < y
  · obtain rfl : -1 = r := by rw [← h, cmpI, if_pos h1]
    clear h
    go_enter Try.func70, Try.ntmps70
    go_wp2_with (go_at_call 94; refine (nanI_is _ _).mono ?_; rintro e w' ⟨rfl, rfl⟩)
    go_ret
    exact ⟨rfl, rfl⟩
  · by_cases h2 : y < x
    · obtain rfl : 1 = r := by rw [← h, cmpI, if_neg h1, if_pos h2]
      clear h
      go_enter Try.func70, Try.ntmps70
      go_wp2_with (go_at_call 94; refine (nanI_is _ _).mono ?_; rintro e w' ⟨rfl, rfl⟩)
      go_ret
      exact ⟨rfl, rfl⟩
    · obtain rfl : 0 = r := by rw [← h, cmpI, if_neg h1, if_neg h2]
      clear h
      go_enter Try.func70, Try.ntmps70
      go_wp2_with (go_at_call 94; refine (nanI_is _ _).mono ?_; rintro e w' ⟨rfl, rfl⟩)
      go_ret
      exact ⟨rfl, rfl⟩

end Go.Proofs.Ytookcggmapldeaa
