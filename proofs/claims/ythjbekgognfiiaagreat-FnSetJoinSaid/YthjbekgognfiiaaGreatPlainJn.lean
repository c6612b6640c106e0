/-
  Plain facts on indexes of sets: what is found is a candidate, pairs ascend, a set that is inserted is found, and removing it undoes the insertion. By an AI agent.
-/
import Derived.Test.YthjbekgognfiiaaGreatJ8
import Derived.Test.YthjbekgognfiiaaGreatIxI
namespace Go.Proofs.YthjbekgognfiiaaGreat
open Go
set_option linter.unusedVariables false

theorem okS_low {n : Nat} (h : okS (n : Int) = true) : n ≤ 1000 := by
  unfold okS at h
  rw [Bool.and_eq_true, decide_eq_true_eq, decide_eq_true_eq] at h
  omega
theorem sear_cand {t : Int} {T : List TC} {S : List IS} {l : List Str} {z : Int} (h : z ∈ searR t T S l) : z ∈ candR t T S l := by
  unfold searR at h
  split at h
  · rename_i hi
    obtain ⟨x, hx, rfl⟩ := List.mem_map.1 h
    obtain ⟨hxS, hm⟩ := List.mem_filter.1 hx
    have hm2 : meetR l x.2 t = true := by rw [meet_comm]; exact hm
    obtain ⟨h1, h2, h3, h4⟩ := meets_parts hm2
    obtain ⟨g1, g2, g3⟩ := good_parts h3
    have hcd := (cd_iff (T := T) g3).2 (meet_cand hm2)
    unfold candR
    rw [if_pos (by rw [hi, h1, decide_eq_true (okS_low g1)]; rfl)]
    exact List.mem_map.2 ⟨x, List.mem_filter.2 ⟨hxS, hcd⟩, rfl⟩
  · cases h
theorem joinL_asc {t : Int} : ∀ {S : List IS}, AscX S → ∀ p ∈ joinL t S, p.1 < p.2
  | [], _, p, h => by simp [joinL] at h
  | x :: S, ha, p, h => by
    unfold AscX at ha
    rw [List.pairwise_cons] at ha
    simp only [joinL] at h
    rcases List.mem_append.1 h with h1 | h1
    · obtain ⟨y, hy, rfl⟩ := List.mem_map.1 h1
      exact ha.1 y (List.mem_filter.1 hy).1
    · exact joinL_asc (S := S) ha.2 p h1
theorem joinR_asc {t : Int} {T : List TC} {S : List IS} : ∀ p ∈ joinR t T S, p.1 < p.2 := by
  intro p h
  unfold joinR at h
  split at h
  · rename_i hi
    exact joinL_asc (ixB_parts hi).2.2.2.2 p h
  · cases h

theorem pl_take : ∀ (S : List IS) (id : Int), ∀ x ∈ S.take (plX S id), x.1 < id
  | [], _, x, h => by simp at h
  | y :: S, id, x, h => by
    by_cases hy : y.1 < id
    · have e : plX (y :: S) id = plX S id + 1 := by unfold plX; rw [List.takeWhile_cons, if_pos (by simpa using hy), List.length_cons]
      rw [e, List.take_succ_cons] at h
      rcases List.mem_cons.1 h with rfl | h1
      · exact hy
      · exact pl_take S id x h1
    · have e : plX (y :: S) id = 0 := by unfold plX; rw [List.takeWhile_cons, if_neg (by simpa using hy)]; rfl
      rw [e] at h
      cases h
theorem pl_drop : ∀ {S : List IS} {id : Int}, AscX S → ∀ x ∈ S.drop (plX S id), id ≤ x.1
  | [], _, _, x, h => by simp at h
  | y :: S, id, ha, x, h => by
    unfold AscX at ha
    rw [List.pairwise_cons] at ha
    by_cases hy : y.1 < id
    · have e : plX (y :: S) id = plX S id + 1 := by unfold plX; rw [List.takeWhile_cons, if_pos (by simpa using hy), List.length_cons]
      rw [e, List.drop_succ_cons] at h
      exact pl_drop (S := S) ha.2 x h
    · have e : plX (y :: S) id = 0 := by unfold plX; rw [List.takeWhile_cons, if_neg (by simpa using hy)]; rfl
      rw [e, List.drop_zero] at h
      rcases List.mem_cons.1 h with rfl | h1
      · omega
      · have := ha.1 x h1; omega

theorem ok_ins_parts {t : Int} {T : List TC} {S : List IS} {id : Int} {l : List Str} (h : okIns t T S id l = true) : ixB t T S = true ∧ okX (id, l) = true ∧ hasId S id = false ∧ S.length ≠ 12 := by
  unfold okIns at h
  rw [Bool.and_eq_true, Bool.and_eq_true, Bool.and_eq_true, decide_eq_true_eq] at h
  exact ⟨h.1, h.2.1, by simpa using h.2.2.1, h.2.2.2⟩
theorem ins_at (S : List IS) (id : Int) (l : List Str) : (insX S id l)[plX S id]? = some (id, l) := by
  unfold insX
  have h := pl_le S id
  rw [List.getElem?_append_right (by rw [List.length_take]; omega), List.length_take, Nat.min_eq_left h, Nat.sub_self]
  rfl
theorem ins_pl (S : List IS) (id : Int) (l : List Str) : plX (insX S id l) id = plX S id := by
  refine pl_at (fun j y hj hy => ?_) (by rw [insX_len]; have := pl_le S id; omega) (fun x hx => by rw [ins_at] at hx; rw [← Option.some.inj hx]; simp)
  unfold insX at hy
  rw [List.getElem?_append_left (by rw [List.length_take]; have := pl_le S id; omega)] at hy
  exact pl_take S id y (List.mem_of_getElem? hy)
theorem ins_rem (S : List IS) (id : Int) (l : List Str) : remX (insX S id l) id = S := by
  unfold remX
  rw [ins_pl, List.eraseIdx_eq_take_drop_succ]
  unfold insX
  have h := pl_le S id
  have h1 : (S.take (plX S id)).length = plX S id := by rw [List.length_take]; omega
  rw [List.take_left' h1, show S.take (plX S id) ++ (id, l) :: S.drop (plX S id) = (S.take (plX S id) ++ [(id, l)]) ++ S.drop (plX S id) by simp, List.drop_left' (by simp; omega), List.take_append_drop]
theorem ins_ix {t : Int} {T : List TC} {S : List IS} {id : Int} {l : List Str} (h : okIns t T S id l = true) : ixB t T (insX S id l) = true := by
  obtain ⟨h1, h2, h3, h4⟩ := ok_ins_parts h
  obtain ⟨g1, g2, g3, g4⟩ := ixB_parts h1
  refine ix_true g1 g2 (by rw [insX_len]; omega) ⟨fun x hx => ?_, ?_⟩
  · unfold insX at hx
    rcases List.mem_append.1 hx with h5 | h5
    · exact g4.1 x (List.mem_of_mem_take h5)
    · rcases List.mem_cons.1 h5 with rfl | h5
      · exact h2
      · exact g4.1 x (List.mem_of_mem_drop h5)
  · unfold AscX insX
    rw [List.pairwise_append]
    have hasc := g4.2
    have hd : ∀ x ∈ S.drop (plX S id), id < x.1 := fun x hx => by
      have h6 := pl_drop hasc x hx
      have h7 : x.1 ≠ id := fun e => by
        obtain ⟨j, hj⟩ := List.getElem?_of_mem (List.mem_of_mem_drop hx)
        rw [hasid_yes hj e] at h3
        cases h3
      omega
    refine ⟨List.Pairwise.sublist (List.take_sublist _ _) hasc, List.Pairwise.cons hd (List.Pairwise.sublist (List.drop_sublist _ _) hasc), fun x hx y hy => ?_⟩
    have h8 := pl_take S id x hx
    rcases List.mem_cons.1 hy with rfl | h9
    · exact h8
    · have := hd y h9; omega
theorem ins_okrem {t : Int} {T : List TC} {S : List IS} {id : Int} {l : List Str} (h : okIns t T S id l = true) : okRem t T (insX S id l) id = true := by
  unfold okRem
  rw [ins_ix h, hasid_yes (ins_at S id l) rfl]
  rfl
theorem cc_same (a : List Str) : ccN a a = a.length := by
  unfold ccN
  rw [List.filter_eq_self.2 (fun x hx => by simpa using hx)]
theorem meet_self {l : List Str} {t : Int} (h : tsB l = true) (hl : l.length ≤ 1000) (ht : okT t = true) : meetR l l t = true := by
  have hs : okS (l.length : Int) = true := by unfold okS; rw [Bool.and_eq_true, decide_eq_true_eq, decide_eq_true_eq]; omega
  have h1 := unite_le (tsB_asc h) (tsB_asc h)
  rw [cc_same] at h1
  have h2 : t ≤ 1000 := by
    unfold okT at ht
    rw [Bool.and_eq_true, decide_eq_true_eq, decide_eq_true_eq] at ht
    exact ht.2
  unfold meetR
  rw [if_pos (by unfold goodR; rw [h, hs, ht]; rfl), cc_same, decide_eq_true_eq, show (uniteR l l).length = l.length by omega]
  exact Int.mul_le_mul_of_nonneg_right h2 (by omega)
theorem ins_found {t : Int} {T : List TC} {S : List IS} {id : Int} {l : List Str} (h : okIns t T S id l = true) (hl : l.length ≤ 1000) : id ∈ searR t T (insX S id l) l := by
  obtain ⟨h1, h2, h3, h4⟩ := ok_ins_parts h
  unfold searR
  rw [if_pos (ins_ix h)]
  exact List.mem_map.2 ⟨(id, l), List.mem_filter.2 ⟨List.mem_of_getElem? (ins_at S id l), meet_self (okX_parts h2).2.2 hl (ixB_parts h1).2.1⟩, rfl⟩

end Go.Proofs.YthjbekgognfiiaaGreat
