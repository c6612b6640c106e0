/-
  The decision of a rule set is made and asked: impl's decision, slices.IndexFunc at conditions, FirstRule, RulesHold. By an AI agent.
-/
import Derived.Test.YtookcggmapldeaaRuD
namespace Go.Proofs.Ytookcggmapldeaa
open Go.RowKit
set_option linter.unusedVariables false

/-- the answer of a decision -/
def idxR (R : List (List TS)) (l : List Int) : Int := if firstU R l < R.length then (firstU R l : Int) else -1
theorem first_at {R : List (List TS)} {l : List Int} {k : Nat} {r : List TS} (h : k ≤ firstU R l) (hk : R[k]? = some r) (hr : (r.all fun t => condT t l) = true) : idxR R l = k := by
  obtain ⟨hlt, he⟩ := List.getElem?_eq_some_iff.1 hk
  have h1 : ¬ k < firstU R l := fun e => by
    have := List.not_of_lt_findIdx e
    simp only [he] at this
    rw [hr] at this
    cases this
  have h2 : firstU R l = k := by omega
  unfold idxR
  rw [h2, if_pos hlt]
theorem first_next {R : List (List TS)} {l : List Int} {k : Nat} {r : List TS} (h : k ≤ firstU R l) (hk : R[k]? = some r) (hr : (r.all fun t => condT t l) = false) : k + 1 ≤ firstU R l := by
  obtain ⟨hlt, he⟩ := List.getElem?_eq_some_iff.1 hk
  rcases Nat.lt_or_ge k (firstU R l) with h1 | h1
  · exact h1
  · have h2 : firstU R l = k := by omega
    have h3 := List.findIdx_getElem (xs := R) (p := fun r => r.all fun t => condT t l) (w := by show firstU R l < _; omega)
    have h4 : R[firstU R l]? = some r := by rw [h2]; exact hk
    obtain ⟨h5, h6⟩ := List.getElem?_eq_some_iff.1 h4
    have h7 : ((R[firstU R l]'h5).all fun t => condT t l) = true := h3
    rw [h6, hr] at h7
    cases h7
theorem first_end {R : List (List TS)} {l : List Int} (h : R.length ≤ firstU R l) : idxR R l = -1 := by
  unfold idxR
  rw [if_neg (by omega)]

theorem fr_bad1 {R : List (List TS)} {l : List Int} (h : vsB R = false) : frR R l = -1 := by unfold frR; rw [h]; rfl
theorem fr_bad2 {R : List (List TS)} {l : List Int} (h : fvB l = false) : frR R l = -1 := by unfold frR; rw [h, Bool.and_false]; rfl
theorem fr_ok {R : List (List TS)} {l : List Int} (h1 : vsB R = true) (h2 : fvB l = true) : frR R l = idxR R l := by unfold frR idxR; rw [h1, h2]; simp
theorem fr_range {R : List (List TS)} {l : List Int} (hR : R.length ≤ 4000000) : -1 ≤ frR R l ∧ frR R l ≤ 4000000 := by
  unfold frR
  split
  · rename_i h
    simp at h
    omega
  · omega

theorem rhB_of {R : List (List TS)} {l : List Int} {z : Int} (hz : frR R l = z) : rhB R l = decide (0 ≤ z) := by rw [← hz]; rfl

end Go.Proofs.Ytookcggmapldeaa
