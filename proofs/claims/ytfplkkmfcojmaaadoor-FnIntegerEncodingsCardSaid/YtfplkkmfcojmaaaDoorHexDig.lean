/-
  What spec.l1Digit, spec.l1FromHex and impl.hexValue answer. By an AI agent.
-/
import Derived.Test.YtfplkkmfcojmaaaDoorOwnBytes
import Derived.Test.YtfplkkmfcojmaaaDoorPlainHex
namespace Go.Proofs.YtfplkkmfcojmaaaDoor
open Go.RowKit
set_option linter.unusedVariables false

theorem ret_u8 {a b : Int} (h : a = b) : Ending.returned (.int .u8 a) = .returned (.int .u8 b) := by rw [h]
theorem ret_i64 {a b : Int} (h : a = b) : Ending.returned (.int .i64 a) = .returned (.int .i64 b) := by rw [h]

def SomeHv (x : Int) (w : World) (e : Ending) (w' : World) : Prop := e = .returned (.int .i64 (hv x)) ∧ w = w'

set_option maxRecDepth 100000 in
theorem hexValue_any (r : Int) (w : World) :
    Calls Tryd.prog 31 #[.int .i32 r] w fun e w' => e = .returned (.int .i64 (hv r)) ∧ w = w' := by
  by_cases h1 : 48 ≤ r ∧ r ≤ 57
  · obtain ⟨h2, h3⟩ := h1
    have e : hv r = r - 48 := by unfold hv; rw [if_pos ⟨h2, h3⟩]
    rw [e]
    clear e
    go_enter Tryd.func31, Tryd.ntmps31
    go_wp2
    go_ret
    exact ⟨rfl, rfl⟩
  · by_cases h2 : 97 ≤ r ∧ r ≤ 102
    · obtain ⟨h3, h4⟩ := h2
      have e : hv r = r - 97 + 10 := by unfold hv; rw [if_neg h1, if_pos ⟨h3, h4⟩]; omega
      rw [e]
      clear e h1
      have h5 : ¬ r ≤ 57 := by omega
      go_enter Tryd.func31, Tryd.ntmps31
      go_wp2
      go_ret
      exact ⟨rfl, rfl⟩
    · have e : hv r = -1 := by unfold hv; rw [if_neg h1, if_neg h2]
      rw [e]
      clear e
      have c1 : ¬ 48 ≤ r ∨ 48 ≤ r ∧ ¬ r ≤ 57 := by omega
      have c2 : ¬ 97 ≤ r ∨ 97 ≤ r ∧ ¬ r ≤ 102 := by omega
      clear h1 h2
      rcases c1 with h1 | ⟨h1, h1'⟩ <;> rcases c2 with h2 | ⟨h2, h2'⟩
      all_goals first
        | (exfalso; omega)
        | (go_enter Tryd.func31, Tryd.ntmps31
           go_wp2
           go_ret
           exact ⟨rfl, rfl⟩)

end Go.Proofs.YtfplkkmfcojmaaaDoor
