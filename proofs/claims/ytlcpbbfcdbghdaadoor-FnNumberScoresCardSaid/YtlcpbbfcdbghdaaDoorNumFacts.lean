/-
  Scores of numbers are symmetric and lie within 0 to 1000; a combination lies between the least and the greatest score. By an AI agent.
-/
import Derived.Test.YtlcpbbfcdbghdaaDoorNumS
import Derived.Test.YtlcpbbfcdbghdaaDoorComb
namespace Go.Proofs.YtlcpbbfcdbghdaaDoor
open Go.RowKit
set_option linter.unusedVariables false

theorem difI_symm (a b : Int) : difI a b = difI b a := by
  unfold difI
  (repeat' split) <;> omega
theorem difI_nonneg (a b : Int) : 0 ≤ difI a b := by
  unfold difI
  split <;> omega
theorem nsR_symm (a b s : Int) : nsR a b s = nsR b a s := by
  unfold nsR
  rw [difI_symm a b, show (okN a && (okN b && okC s)) = (okN b && (okN a && okC s)) by cases okN a <;> cases okN b <;> rfl]
theorem nsR_range (a b s : Int) : 0 ≤ nsR a b s ∧ nsR a b s ≤ 1000 := by
  unfold nsR
  split
  · rename_i h
    rw [Bool.and_eq_true, Bool.and_eq_true] at h
    obtain ⟨s0, s1⟩ := okC_yes h.2.2
    split
    · omega
    · rename_i h2
      have hd := difI_nonneg a b
      refine ⟨Int.ediv_nonneg (by omega) (by omega), ?_⟩
      have h3 : 1000 * (s - difI a b) / s ≤ 1000 * s / s := Int.ediv_le_ediv (by omega) (by omega)
      rw [Int.mul_ediv_cancel _ (by omega)] at h3
      exact h3
  · omega

theorem dot_bounds {l m : List Int} {LO HI : Int} : ∀ k : Nat, k ≤ l.length → k ≤ m.length → withinB 0 1000 (m.take k) = true → (∀ j, j < k → LO ≤ l.getD j 0 ∧ l.getD j 0 ≤ HI) →
    LO * sumT m k ≤ dotT l m k ∧ dotT l m k ≤ HI * sumT m k
  | 0, _, _, _, _ => by simp [dotT, sumT]
  | k + 1, hk, hk2, g, h => by
    have h1 := dot_bounds k (by omega) (by omega) (within_less g) (fun j hj => h j (by omega))
    have h2 := h k (by omega)
    have h3 := within_at g (by omega)
    have e1 := Int.mul_le_mul_of_nonneg_right h2.1 h3.1
    have e2 := Int.mul_le_mul_of_nonneg_right h2.2 h3.1
    unfold dotT sumT
    rw [Int.mul_add, Int.mul_add]
    omega

theorem co_between {l m : List Int} {C LO HI : Int} (hc : coR l m = C) (h0 : C ≠ 0) (h : ∀ j, j < l.length → LO ≤ l.getD j 0 ∧ l.getD j 0 ≤ HI) : LO ≤ C ∧ C ≤ HI := by
  subst hc
  unfold coR at h0 ⊢
  by_cases h1 : l.length = m.length
  · rw [if_pos h1] at h0 ⊢
    by_cases h2 : (withinB 0 1000 l && withinB 0 1000 m) = true
    · rw [if_pos h2] at h0 ⊢
      rw [Bool.and_eq_true] at h2
      by_cases h3 : sumT m m.length = 0
      · rw [if_pos h3] at h0
        exact absurd rfl h0
      · rw [if_neg h3]
        have h4 := sum_range m.length (Nat.le_refl _) (within_take h2.2)
        have h5 := dot_bounds (l := l) m.length (by omega) (Nat.le_refl _) (within_take h2.2) (fun j hj => h j (by omega))
        have h6 : 0 < sumT m m.length := by omega
        exact ⟨Int.le_ediv_of_mul_le h6 h5.1, Int.ediv_le_of_le_mul h6 h5.2⟩
    · rw [if_neg h2] at h0
      exact absurd rfl h0
  · rw [if_neg h1] at h0
    exact absurd rfl h0

/-- the least and the greatest so far -/
theorem lo_step {l : List Int} {k : Nat} {x LO HI LO' HI' : Int} (h : ∀ j, j < k → LO ≤ l.getD j 0 ∧ l.getD j 0 ≤ HI) (hx : l[k]? = some x) (h1 : LO' ≤ LO) (h2 : LO' ≤ x) (h3 : HI ≤ HI') (h4 : x ≤ HI') :
    ∀ j, j < k + 1 → LO' ≤ l.getD j 0 ∧ l.getD j 0 ≤ HI' := by
  intro j hj
  by_cases e : j = k
  · subst e
    rw [getD_at hx]
    exact ⟨h2, h4⟩
  · have := h j (by omega)
    omega

end Go.Proofs.YtlcpbbfcdbghdaaDoor
