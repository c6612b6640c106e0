/-
  Facts of the similarities of two lists: symmetric, ordered, 1000 for equal sets alone. By an AI agent.
-/
import Derived.Test.YtggohfinkpppkabSim
import Derived.Test.YtggohfinkpppkabEqTokS
namespace Go.Proofs.Ytggohfinkpppkab
open Go.RowKit
set_option linter.unusedVariables false

theorem sim_comm (a b : List Str) : (tsB a && tsB b) = (tsB b && tsB a) := Bool.and_comm _ _
theorem uni_comm {a b : List Str} : (uniteR a b).length = (uniteR b a).length := by
  have : uniteR a b = uniteR b a := setL_congr fun x => by rw [List.mem_append, List.mem_append]; exact or_comm
  rw [this]
theorem jac_comm (a b : List Str) : jacR b a = jacR a b := by
  unfold jacR
  rw [sim_comm b a]
  cases h : tsB a && tsB b
  · rfl
  · obtain ⟨ha, hb⟩ := pair_yes h
    rw [cc_comm hb ha, uni_comm]
theorem dice_comm (a b : List Str) : diceR b a = diceR a b := by
  unfold diceR
  rw [sim_comm b a]
  cases h : tsB a && tsB b
  · rfl
  · obtain ⟨ha, hb⟩ := pair_yes h
    rw [cc_comm hb ha, Int.add_comm]
theorem cont_comm (a b : List Str) : contR b a = contR a b := by
  unfold contR
  rw [sim_comm b a]
  cases h : tsB a && tsB b
  · rfl
  · obtain ⟨ha, hb⟩ := pair_yes h
    rw [cc_comm hb ha, Int.min_comm]

theorem rat_le {n d m e : Int} (hn : 0 ≤ n) (hd : 0 < d) (he : 0 < e) (h : n * e ≤ m * d) : ratI n d ≤ ratI m e := by
  rw [ratI_some (by omega), ratI_some (by omega), Int.le_ediv_iff_mul_le he]
  have h1 : 1000 * n / d * d ≤ 1000 * n := Int.ediv_mul_le _ (by omega)
  have h2 : 1000 * n / d * d * e ≤ 1000 * n * e := Int.mul_le_mul_of_nonneg_right h1 (by omega)
  have h3 : 1000 * n * e ≤ 1000 * m * d := by rw [Int.mul_assoc, Int.mul_assoc]; omega
  have h4 : 1000 * n / d * e * d ≤ 1000 * m * d := by
    rw [Int.mul_right_comm]
    exact Int.le_trans h2 h3
  exact Int.le_of_mul_le_mul_right h4 hd

theorem jac_dice (a b : List Str) : jacR a b ≤ diceR a b := by
  unfold jacR diceR
  cases h : tsB a && tsB b
  · exact Int.le_refl _
  · obtain ⟨ha, hb⟩ := pair_yes h
    rw [if_pos rfl, if_pos rfl]
    have h1 := unite_count ha hb
    have h2 := cc_le a b
    have h3 := cc_le' ha hb
    obtain ⟨n, hn⟩ : ∃ n, ccN a b = n := ⟨_, rfl⟩
    obtain ⟨u, hu⟩ : ∃ u, (uniteR a b).length = u := ⟨_, rfl⟩
    rw [show (setL (a ++ b)).length = u from hu] at h1
    rw [hn] at h1 h2 h3 ⊢
    rw [hu]
    by_cases h0 : u = 0
    · rw [ratI_zero (by omega), ratI_zero (by omega)]
      exact Int.le_refl _
    · refine rat_le (by omega) (by omega) (by omega) ?_
      have e1 : (a.length : Int) + (b.length : Int) = (u : Int) + (n : Int) := by omega
      rw [e1, Int.mul_add, Int.mul_assoc, Int.two_mul]
      have h5 : (n : Int) * (n : Int) ≤ (n : Int) * (u : Int) := Int.mul_le_mul_of_nonneg_left (by omega) (by omega)
      omega
theorem dice_cont (a b : List Str) : diceR a b ≤ contR a b := by
  unfold diceR contR
  cases h : tsB a && tsB b
  · exact Int.le_refl _
  · obtain ⟨ha, hb⟩ := pair_yes h
    rw [if_pos rfl, if_pos rfl]
    have h2 := cc_le a b
    have h3 := cc_le' ha hb
    obtain ⟨n, hn⟩ : ∃ n, ccN a b = n := ⟨_, rfl⟩
    obtain ⟨m, hm⟩ : ∃ m : Int, min (a.length : Int) (b.length : Int) = m := ⟨_, rfl⟩
    rw [hn] at h2 h3 ⊢
    rw [hm]
    by_cases h0 : m = 0
    · rw [ratI_zero h0]
      by_cases h1 : (a.length : Int) + (b.length : Int) = 0
      · rw [ratI_zero h1]; exact Int.le_refl _
      · obtain rfl : n = 0 := by omega
        rw [ratI_some h1]
        simp
    · refine rat_le (by omega) (by omega) (by omega) ?_
      have h5 : 2 * m ≤ (a.length : Int) + (b.length : Int) := by omega
      have h6 : (n : Int) * (2 * m) ≤ (n : Int) * ((a.length : Int) + (b.length : Int)) := Int.mul_le_mul_of_nonneg_left h5 (by omega)
      rw [show 2 * (n : Int) * m = (n : Int) * (2 * m) by rw [Int.mul_comm 2 (n : Int), Int.mul_assoc]]
      exact h6
theorem ratI_nonneg {n d : Int} (hn : 0 ≤ n) (hd : 0 ≤ d) : 0 ≤ ratI n d := by
  unfold ratI
  split
  · omega
  · exact Int.ediv_nonneg (by omega) hd

theorem cc_full {a b : List Str} (h : ccN a b = a.length) : ∀ x ∈ a, x ∈ b := by
  have h2 := List.length_filter_eq_length_iff.1 h
  intro x hx
  simpa using h2 x hx
theorem cc_self (a : List Str) : ccN a a = a.length := by
  unfold ccN
  rw [List.length_filter_eq_length_iff.2 (fun x hx => by simpa using hx)]
theorem jac_same {a b : List Str} (h : (tsB a && tsB b) = true) : (jacR a b == 1000) = eqB a b := by
  obtain ⟨ha, hb⟩ := pair_yes h
  unfold jacR eqB
  rw [h, if_pos rfl, Bool.eq_iff_iff, beq_iff_eq, decide_eq_true_iff]
  have h1 := unite_count ha hb
  have h2 := cc_le a b
  have h3 := cc_le' ha hb
  obtain ⟨u, hu⟩ : ∃ u, (uniteR a b).length = u := ⟨_, rfl⟩
  rw [show (setL (a ++ b)).length = u from hu] at h1
  rw [hu]
  constructor
  · intro e
    have hn : ccN a b = a.length ∧ ccN a b = b.length := by
      by_cases h0 : u = 0
      · omega
      · rw [ratI_some (by omega)] at e
        have h4 : (1000 : Int) * (u : Int) ≤ 1000 * (ccN a b : Int) := (Int.le_ediv_iff_mul_le (by omega)).1 (Int.le_of_eq e.symm)
        omega
    refine asc_ext ha hb fun x => ⟨fun hx => cc_full hn.1 x hx, fun hx => cc_full (by rw [← cc_comm ha hb]; exact hn.2) x hx⟩
  · rintro rfl
    rw [cc_self] at h1 ⊢
    have hu2 : u = a.length := by omega
    rw [hu2]
    by_cases h0 : (a.length : Int) = 0
    · rw [ratI_zero h0]
    · rw [ratI_some h0, Int.mul_ediv_cancel _ h0]
theorem tok_common {a b : List Str} (h : (tsB a && tsB b) = true) : tsB (commonR a b) = true := by
  rw [Bool.and_eq_true] at h
  refine tsB_yes ⟨fun x hx => ?_, setL_asc _⟩
  have h2 := (setL_mem _ x).1 hx
  exact (tsB_true h.1).1 x (List.mem_filter.1 h2).1
theorem tok_unite {a b : List Str} (h : (tsB a && tsB b) = true) : tsB (uniteR a b) = true := by
  rw [Bool.and_eq_true] at h
  refine tsB_yes ⟨fun x hx => ?_, setL_asc _⟩
  have h2 := (setL_mem _ x).1 hx
  rcases List.mem_append.1 h2 with h2 | h2
  · exact (tsB_true h.1).1 x h2
  · exact (tsB_true h.2).1 x h2
theorem both_lens {a b : List Str} (h : (tsB a && tsB b) = true) : (commonR a b).length + (uniteR a b).length = a.length + b.length := by
  obtain ⟨ha, hb⟩ := pair_yes h
  have h1 := unite_count ha hb
  have h2 := common_count (b := b) ha
  show (setL (a.filter fun x => decide (x ∈ b))).length + (setL (a ++ b)).length = a.length + b.length
  omega
theorem jac_no {a b : List Str} (h : (tsB a && tsB b) = false) : jacR a b = 0 := by unfold jacR; rw [h]; rfl
theorem dice_no {a b : List Str} (h : (tsB a && tsB b) = false) : diceR a b = 0 := by unfold diceR; rw [h]; rfl
theorem cont_no {a b : List Str} (h : (tsB a && tsB b) = false) : contR a b = 0 := by unfold contR; rw [h]; rfl
theorem eqB_refl (a : List Str) : eqB a a = true := by unfold eqB; simp

end Go.Proofs.Ytggohfinkpppkab
