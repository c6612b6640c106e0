/-
  The order of pairs by count and token: plain facts. By an AI agent.
-/
import Derived.Test.YtggohfinkpppkaaOrdC
namespace Go.Proofs.Ytggohfinkpppkaa
open Go.RowKit Go.Sort Go.Shelf
set_option linter.unusedVariables false

theorem cf_neg (x y : TC) : cfR x y < 0 ↔ x.2 < y.2 ∨ (x.2 = y.2 ∧ x.1 < y.1) := by
  unfold cfR orI cmpI cmpR
  by_cases h1 : x.2 < y.2
  · rw [if_pos h1]
    simp [h1]
  · rw [if_neg h1]
    by_cases h2 : y.2 < x.2
    · rw [if_pos h2]
      simp
      omega
    · rw [if_neg h2]
      have e : x.2 = y.2 := by omega
      simp only [if_true, e, Int.lt_irrefl, true_and, false_or]
      by_cases h3 : x.1 = y.1
      · rw [if_pos h3, h3]
        exact ⟨fun h => absurd h (by omega), fun h => absurd h (List.lt_irrefl _)⟩
      · rw [if_neg h3]
        by_cases h4 : x.1 < y.1
        · rw [if_pos h4]
          exact ⟨fun _ => h4, fun _ => by omega⟩
        · rw [if_neg h4]
          exact ⟨fun h => absurd h (by omega), fun h => absurd h h4⟩
theorem lt_cf (x y : TC) : ltOf cfR x y = true ↔ x.2 < y.2 ∨ (x.2 = y.2 ∧ x.1 < y.1) := by
  unfold ltOf
  rw [decide_eq_true_eq]
  exact cf_neg x y
theorem lt_cf_no (x y : TC) : ltOf cfR x y = false ↔ y.2 < x.2 ∨ (y.2 = x.2 ∧ y.1 ≤ x.1) := by
  rw [← Bool.not_eq_true, lt_cf]
  constructor
  · intro h
    rcases Int.lt_trichotomy x.2 y.2 with h1 | h1 | h1
    · exact absurd (.inl h1) h
    · exact .inr ⟨h1.symm, List.not_lt.1 fun h2 => h (.inr ⟨h1, h2⟩)⟩
    · exact .inl h1
  · rintro (h | ⟨h1, h2⟩)
    · rintro (k | ⟨k1, k2⟩) <;> omega
    · rintro (k | ⟨k1, k2⟩)
      · omega
      · exact List.not_lt.2 h2 k2
theorem cf_swo : SWO (ltOf cfR) where
  irrefl x := (lt_cf_no x x).2 (.inr ⟨rfl, List.le_refl _⟩)
  trans x y z h1 h2 := by
    rw [lt_cf] at *
    rcases h1 with h1 | ⟨h1, h3⟩
    · rcases h2 with h2 | ⟨h2, h4⟩ <;> exact .inl (by omega)
    · rcases h2 with h2 | ⟨h2, h4⟩
      · exact .inl (by omega)
      · exact .inr ⟨by omega, str_lt_trans h3 h4⟩
  ntrans x y z h1 h2 := by
    rw [lt_cf_no] at *
    rcases h1 with h1 | ⟨h1, h3⟩
    · rcases h2 with h2 | ⟨h2, h4⟩ <;> exact .inl (by omega)
    · rcases h2 with h2 | ⟨h2, h4⟩
      · exact .inl (by omega)
      · exact .inr ⟨by omega, str_le_trans h4 h3⟩

/-- the tokens with their frequencies -/
def prsL (tab : List TC) (l : List Str) : List TC := l.map fun x => (x, frqL tab x)
theorem prs_len (tab : List TC) (l : List Str) : (prsL tab l).length = l.length := by simp [prsL]
theorem prs_at {tab : List TC} {l : List Str} {k : Nat} {x : Str} (h : l[k]? = some x) : (prsL tab l)[k]? = some (x, frqL tab x) := by simp [prsL, h]
theorem prs_fst (tab : List TC) (l : List Str) : (prsL tab l).map (·.1) = l := by
  unfold prsL
  rw [List.map_map]
  exact List.map_id' _

/-- a sorted permutation of the pairs has the tokens in order -/
theorem prs_sorted {tab : List TC} {l : List Str} {d : Array TC} (hp : PermIn 0 (prsL tab l).toArray.size (prsL tab l).toArray d) (hs : SortedIn (ltOf cfR) 0 (prsL tab l).toArray.size d) : d.size = l.length ∧ d.toList.map (·.1) = ordR tab l := by
  obtain ⟨hsz, _, hperm⟩ := hp
  have e1 : d.extract 0 (prsL tab l).toArray.size = d := by rw [← hsz]; exact Array.extract_size
  rw [e1, Array.extract_size] at hperm
  have hn : d.size = l.length := by rw [hsz]; simp [prsL]
  refine ⟨hn, ord_unique ?_ ?_⟩
  · have h := hperm.map (·.1)
    rwa [prs_fst] at h
  · rw [List.pairwise_map, List.pairwise_iff_getElem]
    intro i j hi hj hij
    have h1 := hs i j (Nat.zero_le _) hij (by rw [← hsz]; simpa using hj)
    rw [getElem!_pos d j (by simpa using hj), getElem!_pos d i (by simpa using hi)] at h1
    have m1 : d.toList[i] ∈ prsL tab l := hperm.mem_iff.1 (List.getElem_mem hi)
    have m2 : d.toList[j] ∈ prsL tab l := hperm.mem_iff.1 (List.getElem_mem hj)
    obtain ⟨x, hx, ex⟩ := List.mem_map.1 m1
    obtain ⟨y, hy, ey⟩ := List.mem_map.1 m2
    rw [lt_cf_no] at h1
    rw [show d[i]'(by simpa using hi) = d.toList[i] from rfl, show d[j]'(by simpa using hj) = d.toList[j] from rfl, ← ex, ← ey] at h1
    rw [← ex, ← ey]
    exact kle_iff.2 h1

end Go.Proofs.Ytggohfinkpppkaa
