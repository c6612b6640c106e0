/-
  The conditions of tests and rules, as closures: what impl's condition and decision hand back, and what they answer. By an AI agent.
-/
import Derived.Test.YtookcggmapldeaaRuI
import Derived.Test.YtookcggmapldeaaRuT
import Derived.Laws.EntriesVeiled
namespace Go.Proofs.Ytookcggmapldeaa
open Go.RowKit
set_option linter.unusedVariables false

theorem feat_nat {t : TS} (h : featB t = true) : ∃ j : Nat, t.1.1 = j ∧ j ≤ 5 := by
  have h := of_decide_eq_true h
  exact ⟨t.1.1.toNat, by omega, by omega⟩
theorem cond_lt {f : Nat} {t : Int} {l : List Int} (hf : f ≤ 5) : condT (((f : Int), t), true) l = decide (l.getD f 0 < t) := by
  unfold condT cmpT featB
  have : decide ((0 : Int) ≤ (f : Int) ∧ (f : Int) ≤ 5) = true := decide_eq_true (by omega)
  simp only [this]
  simp
theorem cond_ge {f : Nat} {t : Int} {l : List Int} (hf : f ≤ 5) : condT (((f : Int), t), false) l = decide (t ≤ l.getD f 0) := by
  unfold condT cmpT featB
  have : decide ((0 : Int) ≤ (f : Int) ∧ (f : Int) ≤ 5) = true := decide_eq_true (by omega)
  simp only [this]
  simp

end Go.Proofs.Ytookcggmapldeaa
