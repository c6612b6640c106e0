/-
  The length of a prefix: plain facts. By an AI agent.
-/
import Derived.Test.YtggohfinkpppkaaBounds
namespace Go.Proofs.Ytggohfinkpppkaa
open Go

/-- the length of a prefix -/
def plR (n t : Int) : Int := if okS n && okT t then (if n = 0 then 0 else n - lbLo n t + 1) else -1
theorem pl_no {n t : Int} (h : (okS n && okT t) = false) : plR n t = -1 := by unfold plR; rw [h]; rfl
theorem pl_zero {t : Int} (h : (okS 0 && okT t) = true) : plR 0 t = 0 := by unfold plR; rw [h]; rfl
theorem pl_some {n t : Int} (h : (okS n && okT t) = true) (h0 : n ≠ 0) : plR n t = n - lbLo n t + 1 := by unfold plR; rw [h, if_pos rfl, if_neg h0]
theorem ok_two {n t : Int} (h : (okS n && okT t) = true) : 0 ≤ n ∧ n ≤ 1000 ∧ 1 ≤ t ∧ t ≤ 1000 := by
  rw [Bool.and_eq_true] at h
  have h1 := okS_yes h.1
  have h2 := okT_yes h.2
  omega
theorem lo_range {n t : Int} (h : (okS n && okT t) = true) : 0 ≤ lbLo n t ∧ lbLo n t ≤ n ∧ (1 ≤ n → 1 ≤ lbLo n t) := by
  obtain ⟨h1, h2, h3, h4⟩ := ok_two h
  have hp : 0 ≤ n * t := Int.mul_nonneg h1 (by omega)
  have hq : n * t ≤ n * 1000 := Int.mul_le_mul_of_nonneg_left h4 h1
  unfold lbLo
  refine ⟨Int.ediv_nonneg (by omega) (by omega), ?_, fun hn => ?_⟩
  · have : (n * t + 999) / 1000 < n + 1 := (Int.ediv_lt_iff_lt_mul (by omega)).2 (by omega)
    omega
  · have hr : n * 1 ≤ n * t := Int.mul_le_mul_of_nonneg_left h3 h1
    exact (Int.le_ediv_iff_mul_le (by omega)).2 (by omega)
theorem pl_range {n : Nat} {t : Int} (h : (okS n && okT t) = true) : 0 ≤ plR n t ∧ plR n t ≤ (n : Int) := by
  obtain ⟨h1, h2, h3⟩ := lo_range h
  by_cases h0 : n = 0
  · subst h0
    rw [show plR ((0 : Nat) : Int) t = 0 from pl_zero h]
    omega
  · rw [pl_some h (by omega)]
    have := h3 (by omega)
    omega
theorem pl_neg {n t : Int} (h : plR n t < 0) : (okS n && okT t) = false := by
  cases hb : (okS n && okT t)
  · rfl
  · obtain ⟨h1, h2, h3⟩ := lo_range hb
    by_cases h0 : n = 0
    · subst h0
      rw [pl_zero hb] at h
      omega
    · rw [pl_some hb h0] at h
      omega

end Go.Proofs.Ytggohfinkpppkaa
