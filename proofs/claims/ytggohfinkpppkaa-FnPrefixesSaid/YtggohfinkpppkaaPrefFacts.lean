/-
  Prefixes: plain facts. By an AI agent.
-/
import Derived.Test.YtggohfinkpppkaaPlainFreq
import Derived.Test.YtggohfinkpppkaaPlainSim
import Derived.Test.YtggohfinkpppkaaMeet
import Derived.Test.YtggohfinkpppkaaPlR
namespace Go.Proofs.Ytggohfinkpppkaa
open Go

/-- the tokens of a prefix -/
noncomputable def ptR (tab : List TC) (l : List Str) (t : Int) : List Str := if tsB l && (okS l.length && okT t) then (ordR tab l).take (plR l.length t).toNat else []
theorem pt_no {tab : List TC} {l : List Str} {t : Int} (h : tsB l = false ∨ (okS l.length && okT t) = false) : ptR tab l t = [] := by
  unfold ptR
  rcases h with h | h <;> rw [h] <;> simp
theorem pt_yes {tab : List TC} {l : List Str} {t : Int} (h1 : tsB l = true) (h2 : (okS l.length && okT t) = true) : ptR tab l t = (ordR tab l).take (plR l.length t).toNat := by
  unfold ptR
  rw [h1, h2]
  rfl
theorem pt_mem {tab : List TC} {l : List Str} {t : Int} {x : Str} (h : x ∈ ptR tab l t) : x ∈ l := by
  unfold ptR at h
  split at h
  · exact (ord_perm tab l).mem_iff.1 (List.mem_of_mem_take h)
  · cases h
theorem pt_len {tab : List TC} {l : List Str} {t : Int} : (ptR tab l t).length ≤ l.length := by
  unfold ptR
  split
  · rw [List.length_take, ord_len]; omega
  · simp
theorem pt_full {tab : List TC} {l : List Str} {t : Int} (h1 : tsB l = true) (h2 : (okS l.length && okT t) = true) : ((ptR tab l t).length : Int) = plR l.length t := by
  obtain ⟨h3, h4⟩ := pl_range h2
  rw [pt_yes h1 h2, List.length_take, ord_len]
  omega

/-- two sets meet a threshold: the least overlap, the bounds, and a token of both prefixes -/
theorem meets_parts {a b : List Str} {t : Int} (h : meetR a b t = true) : tsB a = true ∧ tsB b = true ∧ goodR a.length b.length t = true ∧ t * ((uniteR a b).length : Int) ≤ 1000 * (ccN a b : Int) := by
  unfold meetR at h
  split at h
  · rename_i hg
    rw [Bool.and_eq_true, Bool.and_eq_true] at hg
    exact ⟨hg.1.1, hg.1.2, hg.2, by simpa using h⟩
  · cases h
theorem unite_le {a b : List Str} (ha : Asc a) (hb : Asc b) : (uniteR a b).length + ccN a b = a.length + b.length := unite_count ha hb
theorem mo_iff {x y t c u : Int} (ht : 1 ≤ t) (hu : u + c = x + y) : t * u ≤ 1000 * c ↔ moR x y t ≤ c := by
  have e : t * u = t * (x + y) - t * c := by rw [← hu, Int.mul_add]; omega
  have e2 : (c + 1) * (1000 + t) = 1000 * c + t * c + 1000 + t := by rw [Int.add_mul, Int.mul_add, Int.mul_comm c t]; omega
  obtain ⟨p, hp⟩ : ∃ p, t * (x + y) = p := ⟨_, rfl⟩
  obtain ⟨q, hq⟩ : ∃ q, t * c = q := ⟨_, rfl⟩
  have key : moR x y t < c + 1 ↔ p + 999 + t < (c + 1) * (1000 + t) := by
    unfold moR
    rw [hp]
    exact Int.ediv_lt_iff_lt_mul (by omega)
  rw [e, hp, hq]
  rw [e2, hq] at key
  constructor
  · intro h
    have := key.2 (by omega)
    omega
  · intro h
    have := key.1 (by omega)
    omega
theorem meets_mo {a b : List Str} {t : Int} (ha : tsB a = true) (hb : tsB b = true) (hg : goodR a.length b.length t = true) : meetR a b t = decide (moR a.length b.length t ≤ (ccN a b : Int)) := by
  have h1 := tsB_asc ha
  have h2 := tsB_asc hb
  have hu := unite_le h1 h2
  obtain ⟨_, _, gt⟩ := good_parts hg
  have := okT_yes gt
  unfold meetR
  rw [ha, hb, hg]
  simp only [Bool.and_self, if_true]
  exact decide_eq_decide.2 (mo_iff (by omega) (by omega))
theorem meets_low {a b : List Str} {t : Int} (h : meetR a b t = true) : lbLo a.length t ≤ (ccN a b : Int) ∧ lbLo b.length t ≤ (ccN a b : Int) ∧ lbLo a.length t ≤ (b.length : Int) ∧ (b.length : Int) ≤ lbHi a.length t := by
  obtain ⟨ha, hb, hg, hm⟩ := meets_parts h
  have h1 := tsB_asc ha
  have h2 := tsB_asc hb
  have hu := unite_le h1 h2
  have hc1 := cc_le a b
  have hc2 := cc_le' h1 h2
  obtain ⟨_, _, gt⟩ := good_parts hg
  have ht := okT_yes gt
  have la : (a.length : Int) * t ≤ ((uniteR a b).length : Int) * t := Int.mul_le_mul_of_nonneg_right (by omega) (by omega)
  have lb : (b.length : Int) * t ≤ ((uniteR a b).length : Int) * t := Int.mul_le_mul_of_nonneg_right (by omega) (by omega)
  rw [Int.mul_comm t] at hm
  have k1 : ((a.length : Int) * t + 999) / 1000 < (ccN a b : Int) + 1 := (Int.ediv_lt_iff_lt_mul (by omega)).2 (by omega)
  have k2 : ((b.length : Int) * t + 999) / 1000 < (ccN a b : Int) + 1 := (Int.ediv_lt_iff_lt_mul (by omega)).2 (by omega)
  have k3 : (b.length : Int) ≤ (a.length : Int) * 1000 / t := (Int.le_ediv_iff_mul_le (by omega)).2 (by omega)
  unfold lbLo lbHi
  omega
theorem meets_some {a b : List Str} {t : Int} (h : meetR a b t = true) (h0 : a.length + b.length ≠ 0) : 1 ≤ ccN a b := by
  obtain ⟨ha, hb, hg, hm⟩ := meets_parts h
  have h1 := tsB_asc ha
  have h2 := tsB_asc hb
  have hu := unite_le h1 h2
  have hc1 := cc_le a b
  have hc2 := cc_le' h1 h2
  obtain ⟨_, _, gt⟩ := good_parts hg
  have ht := okT_yes gt
  have hl : t * 1 ≤ t * ((uniteR a b).length : Int) := Int.mul_le_mul_of_nonneg_left (by omega) (by omega)
  omega
theorem share_one {tab : List TC} {a b : List Str} {t : Int} (h : meetR a b t = true) (h0 : a.length + b.length ≠ 0) : ∃ z, z ∈ ptR tab a t ∧ z ∈ ptR tab b t := by
  obtain ⟨ha, hb, hg, hm⟩ := meets_parts h
  have h1 := tsB_asc ha
  have h2 := tsB_asc hb
  have hc := meets_some h h0
  obtain ⟨k1, k2, _, _⟩ := meets_low h
  obtain ⟨ga, gb, gt⟩ := good_parts hg
  have oka : (okS a.length && okT t) = true := by rw [ga, gt]; rfl
  have okb : (okS b.length && okT t) = true := by rw [gb, gt]; rfl
  have na : a.Nodup := h1.imp fun h => str_ne_of h
  have nb : b.Nodup := h2.imp fun h => str_ne_of h
  have hcl : (a.filter fun x => decide (x ∈ b)).length = ccN a b := rfl
  obtain ⟨z, hz, hmin⟩ := least_common tab a b (by rw [hcl]; omega)
  have hz2 := List.mem_filter.1 hz
  have hb1 : 1 ≤ b.length := List.length_pos_of_mem (by simpa using hz2.2)
  have ha1 : 1 ≤ a.length := List.length_pos_of_mem hz2.1
  have nc : (a.filter fun x => decide (x ∈ b)).Nodup := na.filter _
  refine ⟨z, ?_, ?_⟩
  · rw [pt_yes ha oka]
    refine share_take na nc (fun y hy => (List.mem_filter.1 hy).1) hz hmin ?_
    rw [hcl, pl_some oka (by omega)]
    omega
  · rw [pt_yes hb okb]
    refine share_take nb nc (fun y hy => by simpa using (List.mem_filter.1 hy).2) hz hmin ?_
    rw [hcl, pl_some okb (by omega)]
    omega

end Go.Proofs.Ytggohfinkpppkaa
