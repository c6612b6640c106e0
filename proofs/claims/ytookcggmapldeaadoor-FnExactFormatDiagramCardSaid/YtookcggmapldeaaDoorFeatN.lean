/-
  What FeatureName answers, on both sides, for every integer. By an AI agent.
-/
import Derived.Test.YtookcggmapldeaaDoorSpecIn
import Derived.Test.YtookcggmapldeaaDoorInts
import Derived.Test.YtookcggmapldeaaDoorLIn
namespace Go.Proofs.YtookcggmapldeaaDoor
open Go.RowKit
set_option linter.unusedVariables false

/-- the name's bytes -/
def fnL (n : Int) : List UInt8 :=
  if n = 0 then [110, 97, 109, 101] else if n = 1 then [116, 111, 107, 101, 110, 115] else if n = 2 then [115, 111, 117, 110, 100]
  else if n = 3 then [99, 105, 116, 121] else if n = 4 then [121, 101, 97, 114] else if n = 5 then [112, 104, 111, 110, 101] else []
def fnR (n : Int) : ByteArray := ⟨(fnL n).toArray⟩
theorem fn_no {n : Int} (h : ¬ (0 ≤ n ∧ n ≤ 5)) : fnR n = ⟨#[]⟩ := by
  unfold fnR fnL
  rw [if_neg (by omega), if_neg (by omega), if_neg (by omega), if_neg (by omega), if_neg (by omega), if_neg (by omega)]
theorem fret_str {a b : ByteArray} (h : a = b) : Ending.returned (.string a) = .returned (.string b) := by rw [h]

set_option maxRecDepth 100000 in
set_option maxHeartbeats 800000 in
theorem fn_spec (n : Int) (r : ByteArray) (w : World) (hr : fnR n = r) :
    Calls Tryd.prog 12 #[.int .i64 n] w fun e w' => e = .returned (.string r) ∧ Below w.heap.size w w' := by
  have HR := Lib.hid hr
  clear hr
  obtain ⟨bx, hbx⟩ : ∃ b, decide (0 ≤ n ∧ n ≤ 5) = b := ⟨_, rfl⟩
  have HBX := Lib.hid hbx
  cases bx
  · obtain rfl : ⟨#[]⟩ = r := by rw [← HR.out, fn_no (of_decide_eq_false HBX.out)]
    clear hbx
    go_enter Tryd.func12, Tryd.ntmps12
    go_wp2_with (go_at_call 20; ((with_reducible refine (cl1In _ _ _ _ _ HBX.out).mono ?_); rintro e w' ⟨rfl, rfl⟩))
    go_ret
    exact ⟨rfl, Below.refl _ _⟩
  · have hc := of_decide_eq_true hbx
    clear hbx
    have hc2 : n = 0 ∨ n = 1 ∨ n = 2 ∨ n = 3 ∨ n = 4 ∨ n = 5 := by omega
    clear hc
    rcases hc2 with rfl | rfl | rfl | rfl | rfl | rfl <;> obtain rfl := HR.out
    all_goals
      go_enter Tryd.func12, Tryd.ntmps12
      go_wp2_with (go_at_call 20; ((with_reducible refine (cl1In _ _ _ _ _ HBX.out).mono ?_); rintro e w' ⟨rfl, rfl⟩))
      go_ret
      exact ⟨rfl, (Below.refl _ _).alloc (Nat.le_refl _) _⟩

set_option maxRecDepth 100000 in
set_option maxHeartbeats 800000 in
theorem fn_impl (n : Int) (r : ByteArray) (w : World) (hr : fnR n = r) :
    Calls Tryd.prog 37 #[.int .i64 n] w fun e w' => e = .returned (.string r) ∧ w = w' := by
  have HR := Lib.hid hr
  clear hr
  by_cases hc : 0 ≤ n ∧ n ≤ 5
  · have hc2 : n = 0 ∨ n = 1 ∨ n = 2 ∨ n = 3 ∨ n = 4 ∨ n = 5 := by omega
    clear hc
    rcases hc2 with rfl | rfl | rfl | rfl | rfl | rfl <;> obtain rfl := HR.out
    all_goals
      go_enter Tryd.func37, Tryd.ntmps37
      go_wp2
      go_ret
      exact ⟨rfl, rfl⟩
  · obtain rfl : ⟨#[]⟩ = r := by rw [← HR.out, fn_no hc]
    have e0 : (n == 0) = false := by simp; omega
    have e1 : (n == 1) = false := by simp; omega
    have e2 : (n == 2) = false := by simp; omega
    have e3 : (n == 3) = false := by simp; omega
    have e4 : (n == 4) = false := by simp; omega
    have e5 : (n == 5) = false := by simp; omega
    clear hc
    go_enter Tryd.func37, Tryd.ntmps37
    go_wp2
    go_ret
    exact ⟨rfl, rfl⟩

end Go.Proofs.YtookcggmapldeaaDoor
