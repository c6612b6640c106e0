/-
  Chapter 5's numbers: spec.l5Good, MinOverlap and LengthBounds on both sides, the quotients in thousandths. By an AI agent.
-/
import Derived.Test.YtookcggmapldeaaSpecIn
import Derived.BigQuiet
import Derived.Deep.QuietTactic
import Derived.Lib.Hide
import Derived.Below
namespace Go.Proofs.Ytookcggmapldeaa
open Go.RowKit
set_option linter.unusedVariables false

/-- a size from 0 to 1000, a threshold from 1 to 1000 -/
def okS (x : Int) : Bool := decide (0 ≤ x) && decide (x ≤ 1000)
def okT (x : Int) : Bool := decide (1 ≤ x) && decide (x ≤ 1000)
theorem okS_yes {x : Int} (h : okS x = true) : 0 ≤ x ∧ x ≤ 1000 := by simpa [okS] using h
theorem okS_no {x : Int} (h : okS x = false) : ¬ (0 ≤ x ∧ x ≤ 1000) := fun k => by simp [okS, k.1, k.2] at h
theorem okT_yes {x : Int} (h : okT x = true) : 1 ≤ x ∧ x ≤ 1000 := by simpa [okT] using h
theorem okT_no {x : Int} (h : okT x = false) : ¬ (1 ≤ x ∧ x ≤ 1000) := fun k => by simp [okT, k.1, k.2] at h
theorem sret_bool {a b : Bool} (h : a = b) : Ending.returned (.bool a) = .returned (.bool b) := by rw [h]
theorem sret_int {k : IntKind} {a b : Int} (h : a = b) : Ending.returned (.int k a) = .returned (.int k b) := by rw [h]

set_option maxRecDepth 100000 in
theorem threshold_is (x : Int) (b : Bool) (w : World) (hb : okT x = b) :
    Calls Try.prog 78 #[.int .i64 x] w fun e w' => e = .returned (.bool b) ∧ w' = w := by
  have HB := Lib.hid hb
  clear hb
  by_cases h1 : 1 ≤ x
  · by_cases h2 : x ≤ 1000
    · go_enter Try.func78, Try.ntmps78
      go_wp2
      go_ret
      exact ⟨sret_bool (by rw [← HB.out]; simp [okT, h1, h2]), rfl⟩
    · go_enter Try.func78, Try.ntmps78
      go_wp2
      go_ret
      exact ⟨sret_bool (by rw [← HB.out]; simp [okT, h1, h2]), rfl⟩
  · go_enter Try.func78, Try.ntmps78
    go_wp2
    go_ret
    exact ⟨sret_bool (by rw [← HB.out]; simp [okT]; intro _; omega), rfl⟩

theorem l1In_any (x a b : Int) (r : Bool) (w : World) (h : decide (a ≤ x ∧ x ≤ b) = r) :
    Calls Try.prog 54 #[.int .i64 x, .int .i64 a, .int .i64 b] w fun e w' => e = .returned (.bool r) ∧ w' = w := by
  cases r with
  | true =>
    have h1 := of_decide_eq_true h
    exact (l1In_yes x a b w h1.1 h1.2).mono fun e w' k => ⟨k.1, k.2.symm⟩
  | false => exact (l1In_no x a b w (of_decide_eq_false h)).mono fun e w' k => ⟨k.1, k.2.symm⟩
theorem okS_dec (x : Int) : decide (0 ≤ x ∧ x ≤ 1000) = okS x := by unfold okS; by_cases h1 : 0 ≤ x <;> by_cases h2 : x ≤ 1000 <;> simp [h1, h2]
theorem okT_dec (x : Int) : decide (1 ≤ x ∧ x ≤ 1000) = okT x := by unfold okT; by_cases h1 : 1 ≤ x <;> by_cases h2 : x ≤ 1000 <;> simp [h1, h2]

def goodR (x y t : Int) : Bool := okS x && (okS y && okT t)

/-- the least overlap -/
def moR (x y t : Int) : Int := (t * (x + y) + 999 + t) / (1000 + t)

theorem mul_range {a b m n : Int} (h1 : 0 ≤ a) (h2 : a ≤ m) (h3 : 0 ≤ b) (h4 : b ≤ n) : 0 ≤ a * b ∧ a * b ≤ m * n := by
  refine ⟨Int.mul_nonneg h1 h3, ?_⟩
  calc a * b ≤ m * b := Int.mul_le_mul_of_nonneg_right h2 h3
    _ ≤ m * n := Int.mul_le_mul_of_nonneg_left h4 (by omega)
theorem wrap_of {p : Int} (h1 : 0 ≤ p) (h2 : p ≤ 3000000) : IntKind.i64.wrap p = p := IntWalk.i64_in p (by omega)
theorem sret_two {a b c d : Int} (h1 : a = c) (h2 : b = d) : Ending.returned (.tuple #[.int .i64 a, .int .i64 b]) = .returned (.tuple #[.int .i64 c, .int .i64 d]) := by rw [h1, h2]
theorem quo_range {m d : Int} (h1 : 0 ≤ m) (h2 : 1 ≤ d) : 0 ≤ m / d ∧ m / d ≤ m := ⟨Int.ediv_nonneg h1 (by omega), Int.ediv_le_self d h1⟩

/-- the bounds of a size -/
def lbLo (x t : Int) : Int := (x * t + 999) / 1000
def lbHi (x t : Int) : Int := x * 1000 / t

end Go.Proofs.Ytookcggmapldeaa
