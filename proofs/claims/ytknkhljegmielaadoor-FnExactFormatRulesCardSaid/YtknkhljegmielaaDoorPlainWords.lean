/-
  Words and their first bytes: plain facts without the program. By an AI agent.
-/
import Derived.Test.YtknkhljegmielaaDoorPlainNorm
namespace Go.Proofs.YtknkhljegmielaaDoor

/-- one byte more: the words that have ended and the one under way -/
def wStep (p : List (List UInt8) × List UInt8) (c : UInt8) : List (List UInt8) × List UInt8 :=
  if c = 32 then (if p.2 = [] then p else (p.1 ++ [p.2], [])) else (p.1, p.2 ++ [c])
def wS (l : List UInt8) : List (List UInt8) × List UInt8 := l.foldl wStep ([], [])
def wordsL (l : List UInt8) : List (List UInt8) := if (wS l).2 = [] then (wS l).1 else (wS l).1 ++ [(wS l).2]

theorem wS_snoc (l : List UInt8) (c : UInt8) : wS (l ++ [c]) = wStep (wS l) c := by simp [wS]

/-- the bytes behind a space, and the first one -/
def iStep (p : List UInt8 × Bool) (c : UInt8) : List UInt8 × Bool := (if p.2 = true then p.1 ++ [c] else p.1, c == 32)
def iS (l : List UInt8) : List UInt8 × Bool := l.foldl iStep ([], true)
theorem iS_snoc (l : List UInt8) (c : UInt8) : iS (l ++ [c]) = iStep (iS l) c := by simp [iS]

/-- no space at the head, no two spaces in a row -/
def Good (l : List UInt8) : Prop := ∀ k : Nat, l[k]? = some 32 → 0 < k ∧ l[k - 1]? ≠ some 32

theorem Good.snoc {l : List UInt8} {c : UInt8} (h : Good (l ++ [c])) : Good l := by
  intro k hk
  have hlt : k < l.length := (List.getElem?_eq_some_iff.1 hk).1
  have := h k (by rw [List.getElem?_append_left hlt]; exact hk)
  refine ⟨this.1, ?_⟩
  have h2 := this.2
  rw [List.getElem?_append_left (by omega)] at h2
  exact h2

theorem Good.nil : Good [] := by intro k hk; simp at hk

theorem Good.add {l : List UInt8} {c : UInt8} (h : Good l) (hc : c = 32 → l ≠ [] ∧ l.getLast? ≠ some 32) : Good (l ++ [c]) := by
  intro k hk
  have hlt : k < (l ++ [c]).length := (List.getElem?_eq_some_iff.1 hk).1
  rw [List.length_append, List.length_singleton] at hlt
  rcases Nat.lt_or_ge k l.length with h1 | h1
  · rw [List.getElem?_append_left h1] at hk
    have := h k hk
    exact ⟨this.1, by rw [List.getElem?_append_left (by omega)]; exact this.2⟩
  · obtain rfl : k = l.length := by omega
    simp at hk
    obtain ⟨h2, h3⟩ := hc hk
    have h4 : 0 < l.length := List.length_pos_iff.2 h2
    refine ⟨h4, ?_⟩
    rw [List.getElem?_append_left (by omega), ← List.getLast?_eq_getElem?]
    exact h3

/-- what is collapsed ends with no space -/
theorem coll_last (l : List UInt8) : (collL l).getLast? ≠ some 32 := by
  induction l using snoc_ind with
  | h0 => simp [collL, collS]
  | h1 l c ih =>
    by_cases hc : c = 32
    · subst hc; rw [collL_space]; exact ih
    · unfold collL at ih ⊢
      rw [collS_snoc]
      unfold cStep
      rw [if_neg hc]
      simp [List.getLast?_append, hc]

theorem coll_good (l : List UInt8) : Good (collL l) := by
  induction l using snoc_ind with
  | h0 => simpa [collL, collS] using Good.nil
  | h1 l c ih =>
    by_cases hc : c = 32
    · subst hc; rw [collL_space]; exact ih
    · have hl := coll_last l
      unfold collL at ih hl ⊢
      rw [collS_snoc]
      unfold cStep
      rw [if_neg hc]
      refine Good.add ?_ (fun e => absurd e hc)
      split
      · rename_i h
        exact Good.add ih (fun _ => ⟨h.1, hl⟩)
      · exact ih

theorem norm_good (l : List UInt8) : Good (normL l) := coll_good _

/-- every byte is a letter, a digit or a space -/
def AllWS (l : List UInt8) : Prop := ∀ c ∈ l, isWordI c.toNat = true ∨ c = 32

theorem strip_ws (l : List UInt8) : AllWS (stripL l) := by
  intro c hc
  unfold stripL at hc
  rw [List.mem_flatMap] at hc
  obtain ⟨x, _, hx⟩ := hc
  unfold stripB at hx
  split at hx
  · rename_i h
    simp at hx
    subst hx
    exact .inl h
  · split at hx
    · simp at hx
    · simp at hx
      exact .inr hx

theorem coll_mem {l : List UInt8} {c : UInt8} (h : c ∈ collL l) : c ∈ l ∨ c = 32 := by
  induction l using snoc_ind with
  | h0 => simp [collL, collS] at h
  | h1 l x ih =>
    by_cases hx : x = 32
    · subst hx
      rw [collL_space] at h
      rcases ih h with h | h
      · exact .inl (by simp [h])
      · exact .inr h
    · unfold collL at h ih
      rw [collS_snoc] at h
      unfold cStep at h
      rw [if_neg hx] at h
      simp only [List.mem_append, List.mem_singleton] at h
      rcases h with h | h
      · split at h
        · simp only [List.mem_append, List.mem_singleton] at h
          rcases h with h | h
          · rcases ih h with h | h
            · exact .inl (by simp [h])
            · exact .inr h
          · exact .inr h
        · rcases ih h with h | h
          · exact .inl (by simp [h])
          · exact .inr h
      · exact .inl (by simp [h])

theorem norm_ws (l : List UInt8) : AllWS (normL l) := by
  intro c hc
  rcases coll_mem hc with h | h
  · exact strip_ws _ c h
  · exact .inr h

/-- the first byte of each word -/
def headsL (ws : List (List UInt8)) : List UInt8 := ws.filterMap List.head?

theorem heads_snoc (ws : List (List UInt8)) (c : UInt8) (r : List UInt8) : headsL (ws ++ [c :: r]) = headsL ws ++ [c] := by simp [headsL]

theorem last_snd (l : List UInt8) : (iS l).2 = (decide (l = []) || (l.getLast? == some 32)) := by
  rcases List.eq_nil_or_concat l with rfl | ⟨r, c, rfl⟩
  · rfl
  · rw [List.concat_eq_append, iS_snoc, List.getLast?_append]
    unfold iStep
    simp

theorem words_inv (l : List UInt8) (h : Good l) : (iS l).1 = headsL (wordsL l) ∧ (iS l).2 = decide ((wS l).2 = []) := by
  induction l using snoc_ind with
  | h0 => simp [iS, wS, wordsL, headsL]
  | h1 l c ih =>
    obtain ⟨h1, h2⟩ := ih h.snoc
    have hp := last_snd l
    by_cases hc : c = 32
    · subst hc
      have hg := h l.length (by simp)
      have hp2 : (iS l).2 = false := by
        rw [hp]
        have h4 : l ≠ [] := List.length_pos_iff.1 hg.1
        have h5 := hg.2
        rw [List.getElem?_append_left (by omega), ← List.getLast?_eq_getElem?] at h5
        simp [h4, h5]
      have hw : (wS l).2 ≠ [] := by
        intro e
        rw [h2] at hp2
        simp [e] at hp2
      unfold wordsL at h1 ⊢
      rw [iS_snoc, wS_snoc]
      unfold iStep wStep
      rw [if_neg hw] at h1
      simp [hp2, hw, h1]
    · unfold wordsL at h1 ⊢
      rw [iS_snoc, wS_snoc]
      unfold iStep wStep
      rw [if_neg hc]
      simp only [List.append_ne_nil_of_right_ne_nil _ (List.cons_ne_nil c []), if_false, decide_false]
      refine ⟨?_, by simp [hc]⟩
      by_cases hw : (wS l).2 = []
      · rw [h2, hw]
        rw [if_pos hw] at h1
        simp only [List.nil_append, heads_snoc, decide_true, if_true]
        rw [h1]
      · rw [h2]
        rw [if_neg hw] at h1
        obtain ⟨x, r, hx⟩ := List.exists_cons_of_ne_nil hw
        rw [hx] at h1 ⊢
        rw [heads_snoc] at h1
        rw [List.cons_append, heads_snoc]
        simpa using h1

theorem initials_same (l : List UInt8) (h : Good l) : (iS l).1 = headsL (wordsL l) := (words_inv l h).1

end Go.Proofs.YtknkhljegmielaaDoor
