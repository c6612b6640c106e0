/-
  spec.l1In under a decided test. By an AI agent.
-/
import Derived.Test.YtookcggmapldeaaSpecIn
namespace Go.Proofs.Ytookcggmapldeaa
open Go.RowKit

theorem cl1In (x a b : Int) (r : Bool) (w : World) (h : decide (a ≤ x ∧ x ≤ b) = r) :
    Calls Try.prog 54 #[.int .i64 x, .int .i64 a, .int .i64 b] w fun e w' => e = .returned (.bool r) ∧ w' = w := by
  cases r with
  | true =>
    have h1 := of_decide_eq_true h
    exact (l1In_yes x a b w h1.1 h1.2).mono fun e w' k => ⟨k.1, k.2.symm⟩
  | false => exact (l1In_no x a b w (of_decide_eq_false h)).mono fun e w' k => ⟨k.1, k.2.symm⟩

end Go.Proofs.Ytookcggmapldeaa
