/-
  Normalization twice, and the tokens of a text made of tokens: plain facts without the program. By an AI agent.
-/
import Derived.Test.YtggohfinkpppkabDoorPlainTok
namespace Go.Proofs.YtggohfinkpppkabDoor
open Go

theorem fold_id {l : Str} (h : NoUp l) : foldL l = l := by
  unfold foldL
  refine (List.map_congr_left fun c hc => foldB_no (h c hc)).trans (List.map_id _)
theorem strip_id {l : Str} (h : AllWS l) : stripL l = l := by
  induction l with
  | nil => rfl
  | cons c l ih =>
    have e : stripL (c :: l) = stripB c ++ stripL l := by simp [stripL]
    rw [e, ih fun x hx => h x (by simp [hx])]
    rcases h c (by simp) with hw | hw
    · rw [stripB_word hw]; rfl
    · subst hw
      rw [stripB_other (by decide) (by decide)]; rfl
theorem fold_noUp (l : Str) : NoUp (foldL l) := by
  intro c hc
  unfold foldL at hc
  rw [List.mem_map] at hc
  obtain ⟨x, _, rfl⟩ := hc
  exact fold_low x
theorem fold_twice (l : Str) : foldL (foldL l) = foldL l := fold_id (fold_noUp l)
theorem strip_twice (l : Str) : stripL (stripL l) = stripL l := strip_id (strip_ws l)

/-- a text without doubled or leading spaces stays, up to the space at its end -/
theorem coll_id_inv (l : Str) (h : Good l) : collL l = if l.getLast? = some 32 then l.dropLast else l := by
  induction l using snoc_ind with
  | h0 => rfl
  | h1 l c ih =>
    have ih' := ih h.snoc
    by_cases hc : c = 32
    · subst hc
      have hg := h l.length (by simp)
      have hl : l ≠ [] := List.length_pos_iff.1 hg.1
      have hn : l.getLast? ≠ some 32 := by
        have h5 := hg.2
        rwa [List.getElem?_append_left (by omega), ← List.getLast?_eq_getElem?] at h5
      rw [collL_space, ih', if_neg hn]
      simp
    · rw [if_neg (by simp [List.getLast?_append, hc])]
      by_cases hl : l.getLast? = some 32
      · rw [if_pos hl] at ih'
        obtain ⟨r, rfl⟩ : ∃ r, l = r ++ [32] := by
          rcases List.eq_nil_or_concat l with rfl | ⟨r, d, rfl⟩
          · cases hl
          · rw [List.concat_eq_append] at hl
            simp at hl
            exact ⟨r, by rw [List.concat_eq_append, hl]⟩
        have hr : r ≠ [] := by
          intro e
          subst e
          have := h.snoc 0 (by simp)
          omega
        rw [List.dropLast_concat] at ih'
        rw [collL_join hc (by rw [ih']; exact hr) hl, ih']
      · rw [if_neg hl] at ih'
        rw [collL_next hc hl, ih']
theorem coll_id {l : Str} (h : Good l) (hn : l.getLast? ≠ some 32) : collL l = l := by rw [coll_id_inv l h, if_neg hn]
theorem coll_twice (l : Str) : collL (collL l) = collL l := coll_id (coll_good l) (coll_last l)
theorem norm_twice (l : Str) : normL (normL l) = normL l := by
  have e : normL (normL l) = collL (stripL (foldL (normL l))) := rfl
  rw [e, fold_id (norm_noUp l), strip_id (norm_ws l)]
  exact coll_id (norm_good l) (coll_last _)
theorem toks_norm (l : Str) : toksL (normL l) = toksL l := by unfold toksL; rw [norm_twice]

/-- collapsing leaves the words -/
theorem coll_words_inv (t : Str) : if (collS t).2 = true then (wS t).2 = [] ∧ wordsL (collL t) = (wS t).1 else wS (collL t) = wS t := by
  induction t using snoc_ind with
  | h0 => rfl
  | h1 t c ih =>
    have hcs : collS (t ++ [c]) = cStep (collS t) c := collS_snoc t c
    by_cases hc : c = 32
    · subst hc
      have e1 : (collS (t ++ [32])).2 = true := by rw [hcs]; rfl
      rw [if_pos e1, collL_space, wS_snoc]
      unfold wStep
      rw [if_pos rfl]
      by_cases hf : (collS t).2 = true
      · rw [if_pos hf] at ih
        rw [if_pos ih.1]
        exact ih
      · rw [if_neg hf] at ih
        by_cases h0 : (wS t).2 = []
        · rw [if_pos h0]
          refine ⟨h0, ?_⟩
          unfold wordsL
          rw [ih, if_pos h0]
        · rw [if_neg h0]
          refine ⟨rfl, ?_⟩
          unfold wordsL
          rw [ih, if_neg h0]
    · have e1 : (collS (t ++ [c])).2 = false := by rw [hcs]; unfold cStep; rw [if_neg hc]
      rw [if_neg (by rw [e1]; decide)]
      have hw : wS (t ++ [c]) = ((wS t).1, (wS t).2 ++ [c]) := by rw [wS_snoc]; unfold wStep; rw [if_neg hc]
      rw [hw]
      by_cases hf : (collS t).2 = true
      · rw [if_pos hf] at ih
        obtain ⟨h1, h2⟩ := ih
        rw [h1]
        by_cases hn : collL t = []
        · rw [collL_first hc hn, List.nil_append]
          rw [hn] at h2
          have h3 : (wS t).1 = [] := by rw [← h2]; rfl
          rw [h3]
          simp [wS, wStep, hc]
        · have hl : t.getLast? = some 32 := by
            have := collS_snd t
            rw [hf] at this
            simpa using this.symm
          rw [collL_join hc hn hl, wS_snoc, wS_snoc]
          have h4 : wStep (wS (collL t)) 32 = (wordsL (collL t), []) := by
            unfold wStep wordsL
            rw [if_pos rfl]
            split
            · rename_i h5; rw [← h5]
            · rfl
          rw [h4, h2]
          unfold wStep
          rw [if_neg hc]
      · rw [if_neg hf] at ih
        have hl : t.getLast? ≠ some 32 := by
          intro e
          apply hf
          rw [collS_snd, e]
          rfl
        rw [collL_next hc hl, wS_snoc, ih]
        unfold wStep
        rw [if_neg hc]
theorem coll_words (t : Str) : wordsL (collL t) = wordsL t := by
  have h := coll_words_inv t
  by_cases hf : (collS t).2 = true
  · rw [if_pos hf] at h
    rw [h.2]
    unfold wordsL
    rw [if_pos h.1]
  · rw [if_neg hf] at h
    unfold wordsL
    rw [h]

/-- a text of tokens, a space ahead of each -/
def joinL (xs : List Str) : Str := xs.foldl (fun t x => t ++ [32] ++ x) []
theorem joinL_snoc (xs : List Str) (x : Str) : joinL (xs ++ [x]) = joinL xs ++ [32] ++ x := by simp [joinL]
theorem foldl_word (x : Str) : ∀ (p : List Str × Str), (∀ c ∈ x, c ≠ 32) → x.foldl wStep p = (p.1, p.2 ++ x) := by
  induction x with
  | nil => intro p _; simp
  | cons c x ih =>
    intro p h
    rw [List.foldl_cons]
    have e : wStep p c = (p.1, p.2 ++ [c]) := by unfold wStep; rw [if_neg (h c (by simp))]
    rw [e, ih _ (fun d hd => h d (by simp [hd]))]
    simp
theorem words_space (t : Str) : wS (t ++ [32]) = (wordsL t, []) := by
  rw [wS_snoc]
  unfold wStep wordsL
  rw [if_pos rfl]
  split
  · rename_i h5; rw [← h5]
  · rfl
theorem words_join (xs : List Str) (h : ∀ x ∈ xs, x ≠ [] ∧ ∀ c ∈ x, c ≠ 32) : wordsL (joinL xs) = xs := by
  induction xs using snoc_ind2 with
  | h0 => rfl
  | h1 xs x ih =>
    have hx := h x (by simp)
    have ih' := ih fun y hy => h y (by simp [hy])
    rw [joinL_snoc]
    have e : wS (joinL xs ++ [32] ++ x) = (wordsL (joinL xs), x) := by
      show (joinL xs ++ [32] ++ x).foldl wStep ([], []) = _
      rw [List.foldl_append]
      show x.foldl wStep (wS (joinL xs ++ [32])) = _
      rw [words_space, foldl_word x _ hx.2]
      rfl
    unfold wordsL
    rw [e, if_neg hx.1, ih']
theorem join_ws (xs : List Str) (h : ∀ x ∈ xs, ∀ c ∈ x, isWordI c.toNat = true ∧ ¬ (65 ≤ c.toNat ∧ c.toNat ≤ 90)) : AllWS (joinL xs) ∧ NoUp (joinL xs) := by
  induction xs using snoc_ind2 with
  | h0 => exact ⟨fun c hc => by simp [joinL] at hc, fun c hc => by simp [joinL] at hc⟩
  | h1 xs x ih =>
    obtain ⟨h1, h2⟩ := ih fun y hy => h y (by simp [hy])
    have hx := h x (by simp)
    rw [joinL_snoc]
    constructor
    · intro c hc
      rcases List.mem_append.1 hc with hc | hc
      · rcases List.mem_append.1 hc with hc | hc
        · exact h1 c hc
        · exact .inr (by simpa using hc)
      · exact .inl (hx c hc).1
    · intro c hc
      rcases List.mem_append.1 hc with hc | hc
      · rcases List.mem_append.1 hc with hc | hc
        · exact h2 c hc
        · have : c = 32 := by simpa using hc
          subst this
          decide
      · exact (hx c hc).2

theorem tok_bytes {x : Str} (h : tokB x = true) : x ≠ [] ∧ (∀ c ∈ x, isWordI c.toNat = true ∧ ¬ (65 ≤ c.toNat ∧ c.toNat ≤ 90)) ∧ ∀ c ∈ x, c ≠ 32 := by
  unfold tokB at h
  rw [Bool.and_eq_true, List.all_eq_true] at h
  have h2 : ∀ c ∈ x, isWordI c.toNat = true ∧ ¬ (65 ≤ c.toNat ∧ c.toNat ≤ 90) := fun c hc => by
    have := h.2 c hc
    unfold lowB at this
    rw [Bool.and_eq_true] at this
    exact ⟨this.1, fun e => by have h9 := this.2; simp at h9; omega⟩
  refine ⟨fun e => ?_, h2, fun c hc e => ?_⟩
  · rw [e] at h; exact absurd h.1 (by decide)
  · have := (h2 c hc).1
    subst e
    exact absurd this (by decide)

theorem toks_join {l : List Str} (h : TokSet l) : toksL (joinL l.reverse) = l := by
  have hb : ∀ x ∈ l.reverse, tokB x = true := fun x hx => h.1 x (List.mem_reverse.1 hx)
  obtain ⟨h1, h2⟩ := join_ws l.reverse fun x hx => (tok_bytes (hb x hx)).2.1
  unfold toksL normL
  rw [fold_id h2, strip_id h1, coll_words, words_join _ fun x hx => ⟨(tok_bytes (hb x hx)).1, (tok_bytes (hb x hx)).2.2⟩]
  refine (setL_congr fun x => List.mem_reverse).trans (setL_of_asc h.2)

theorem joinL_len (xs : List Str) (m : Nat) (h : ∀ x ∈ xs, x.length ≤ m) : (joinL xs).length ≤ xs.length * (m + 1) := by
  induction xs using snoc_ind2 with
  | h0 => simp [joinL]
  | h1 xs x ih =>
    have h1 := ih fun y hy => h y (by simp [hy])
    have h2 := h x (by simp)
    rw [joinL_snoc]
    simp only [List.length_append, List.length_cons, List.length_nil]
    rw [Nat.add_mul]
    omega

end Go.Proofs.YtggohfinkpppkabDoor
