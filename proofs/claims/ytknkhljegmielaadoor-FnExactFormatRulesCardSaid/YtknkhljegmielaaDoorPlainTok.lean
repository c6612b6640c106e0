/-
  Tokens and grams: plain facts without the program. By an AI agent.
-/
import Derived.Test.YtknkhljegmielaaDoorPlainSet
import Derived.Test.YtknkhljegmielaaDoorPlainWords
namespace Go.Proofs.YtknkhljegmielaaDoor
open Go

/-- a text cut at a byte: the parts that have ended and the one under way -/
def kStep (sep : UInt8) (p : List Str × Str) (c : UInt8) : List Str × Str := if c = sep then (p.1 ++ [p.2], []) else (p.1, p.2 ++ [c])
def kS (sep : UInt8) (l : Str) : List Str × Str := l.foldl (kStep sep) ([], [])
def cutL (sep : UInt8) (l : Str) : List Str := (kS sep l).1 ++ [(kS sep l).2]
theorem kS_snoc (sep : UInt8) (l : Str) (c : UInt8) : kS sep (l ++ [c]) = kStep sep (kS sep l) c := by simp [kS]
theorem kS_len (sep : UInt8) (l : Str) : (kS sep l).1.length ≤ l.length := by
  induction l using snoc_ind with
  | h0 => simp [kS]
  | h1 l c ih =>
    rw [kS_snoc]
    unfold kStep
    split <;> simp <;> omega
theorem kS_at (sep : UInt8) (l : Str) (c : UInt8) (h : c = sep) : kS sep (l ++ [c]) = ((kS sep l).1 ++ [(kS sep l).2], []) := by
  rw [kS_snoc]; unfold kStep; rw [if_pos h]
theorem kS_off (sep : UInt8) (l : Str) (c : UInt8) (h : c ≠ sep) : kS sep (l ++ [c]) = ((kS sep l).1, (kS sep l).2 ++ [c]) := by
  rw [kS_snoc]; unfold kStep; rw [if_neg h]

def ne0 (x : Str) : Bool := !x.isEmpty
theorem ne0_yes {x : Str} (h : x ≠ []) : ne0 x = true := by cases x <;> simp_all [ne0]
theorem ne0_nil : ne0 [] = false := rfl

theorem cut_words_inv (l : Str) : (kS 32 l).1.filter ne0 = (wS l).1 ∧ (kS 32 l).2 = (wS l).2 := by
  induction l using snoc_ind with
  | h0 => simp [kS, wS]
  | h1 l c ih =>
    obtain ⟨h1, h2⟩ := ih
    rw [kS_snoc, wS_snoc]
    unfold kStep wStep
    by_cases hc : c = 32
    · rw [if_pos hc, if_pos hc]
      by_cases he : (wS l).2 = []
      · rw [if_pos he]
        refine ⟨?_, by simp [he]⟩
        rw [List.filter_append, h1, h2, he]
        simp [ne0_nil]
      · rw [if_neg he]
        refine ⟨?_, rfl⟩
        rw [List.filter_append, h1, h2]
        simp [ne0_yes he]
    · rw [if_neg hc, if_neg hc]
      exact ⟨h1, by rw [h2]⟩

theorem cut_words (l : Str) : (cutL 32 l).filter ne0 = wordsL l := by
  obtain ⟨h1, h2⟩ := cut_words_inv l
  unfold cutL wordsL
  rw [List.filter_append, h1, h2]
  by_cases he : (wS l).2 = []
  · rw [if_pos he, he]; simp [ne0_nil]
  · rw [if_neg he]; simp [ne0_yes he]

theorem words_len (l : Str) : (wordsL l).length ≤ l.length + 1 := by
  have h1 := congrArg List.length (cut_words l)
  have h2 := List.length_filter_le ne0 (cutL 32 l)
  have h3 := kS_len 32 l
  unfold cutL at h2
  unfold cutL at h1
  simp only [List.length_append, List.length_singleton] at h2
  omega

/-- all bytes of the words are bytes of the text, and no spaces -/
theorem wS_bytes (l : Str) : (∀ x ∈ (wS l).1, x ≠ [] ∧ ∀ c ∈ x, c ∈ l ∧ c ≠ 32) ∧ (∀ c ∈ (wS l).2, c ∈ l ∧ c ≠ 32) := by
  induction l using snoc_ind with
  | h0 => simp [wS]
  | h1 l c ih =>
    obtain ⟨h1, h2⟩ := ih
    have m1 : ∀ x ∈ (wS l).1, x ≠ [] ∧ ∀ d ∈ x, d ∈ l ++ [c] ∧ d ≠ 32 := fun x hx => ⟨(h1 x hx).1, fun d hd => ⟨by simp [((h1 x hx).2 d hd).1], ((h1 x hx).2 d hd).2⟩⟩
    have m2 : ∀ d ∈ (wS l).2, d ∈ l ++ [c] ∧ d ≠ 32 := fun d hd => ⟨by simp [(h2 d hd).1], (h2 d hd).2⟩
    rw [wS_snoc]
    unfold wStep
    by_cases hc : c = 32
    · rw [if_pos hc]
      by_cases he : (wS l).2 = []
      · rw [if_pos he]; exact ⟨m1, m2⟩
      · rw [if_neg he]
        refine ⟨fun x hx => ?_, fun d hd => by cases hd⟩
        rcases List.mem_append.1 hx with hx | hx
        · exact m1 x hx
        · simp at hx; subst hx; exact ⟨he, m2⟩
    · rw [if_neg hc]
      refine ⟨m1, fun d hd => ?_⟩
      rcases List.mem_append.1 hd with hd | hd
      · exact m2 d hd
      · simp at hd; subst hd; exact ⟨by simp, hc⟩

theorem words_bytes (l : Str) : ∀ x ∈ wordsL l, x ≠ [] ∧ ∀ c ∈ x, c ∈ l ∧ c ≠ 32 := by
  obtain ⟨h1, h2⟩ := wS_bytes l
  intro x hx
  unfold wordsL at hx
  by_cases he : (wS l).2 = []
  · rw [if_pos he] at hx; exact h1 x hx
  · rw [if_neg he] at hx
    rcases List.mem_append.1 hx with hx | hx
    · exact h1 x hx
    · simp at hx; subst hx; exact ⟨he, h2⟩

theorem wS_short (l : Str) : (∀ x ∈ (wS l).1, x.length ≤ l.length) ∧ (wS l).2.length ≤ l.length := by
  induction l using snoc_ind with
  | h0 => simp [wS]
  | h1 l c ih =>
    obtain ⟨h1, h2⟩ := ih
    rw [wS_snoc]
    unfold wStep
    have hl : (l ++ [c]).length = l.length + 1 := by simp
    rw [hl]
    split
    · split
      · exact ⟨fun x hx => by have := h1 x hx; omega, by omega⟩
      · refine ⟨fun x hx => ?_, by simp⟩
        rcases List.mem_append.1 hx with hx | hx
        · have := h1 x hx; omega
        · simp at hx; subst hx; omega
    · refine ⟨fun x hx => by have := h1 x hx; omega, ?_⟩
      simp
      omega
theorem words_short (l : Str) : ∀ x ∈ wordsL l, x.length ≤ l.length := by
  obtain ⟨h1, h2⟩ := wS_short l
  intro x hx
  unfold wordsL at hx
  split at hx
  · exact h1 x hx
  · rcases List.mem_append.1 hx with hx | hx
    · exact h1 x hx
    · simp at hx; subst hx; exact h2

/-- the tokens of a text -/
def toksL (s : Str) : List Str := setL (wordsL (normL s))

/-- all parts of q bytes -/
def gramsL (s : Str) (q : Nat) : List Str := (List.range (s.length + 1 - q)).map fun i => (s.drop i).take q
theorem grams_len (s : Str) (q : Nat) : (gramsL s q).length = s.length + 1 - q := by simp [gramsL]
theorem grams_take (s : Str) (q k : Nat) (h : k + q ≤ s.length) : (gramsL s q).take (k + 1) = (gramsL s q).take k ++ [(s.drop k).take q] := by
  have hlt : k < (gramsL s q).length := by rw [grams_len]; omega
  rw [List.take_succ_eq_append_getElem hlt]
  simp [gramsL]
theorem grams_all (s : Str) (q k : Nat) (h : s.length + 1 - q ≤ k) : (gramsL s q).take k = gramsL s q := List.take_of_length_le (by rw [grams_len]; exact h)

/-- a letter a to z or a digit -/
def lowB (c : UInt8) : Bool := isWordI c.toNat && !(decide (65 ≤ c.toNat ∧ c.toNat ≤ 90))
def tokB (x : Str) : Bool := ne0 x && x.all lowB

theorem lowB_fold {c : UInt8} (h : isWordI c.toNat = true) : lowB c = true ↔ foldB c = c := by
  unfold lowB
  rw [h]
  by_cases hu : 65 ≤ c.toNat ∧ c.toNat ≤ 90
  · rw [foldB_yes hu.1 hu.2]
    simp only [hu, and_self, decide_true, Bool.not_true, Bool.and_false, Bool.false_eq_true, false_iff]
    intro e
    have := congrArg UInt8.toNat e
    rw [UInt8.toNat_ofNat'] at this
    omega
  · rw [foldB_no hu]
    simp [hu]

/-- every element is a token and greater than the one before it -/
def TokSet (l : List Str) : Prop := (∀ x ∈ l, tokB x = true) ∧ Asc l

theorem asc_snoc {l : List Str} {x : Str} : Asc (l ++ [x]) ↔ Asc l ∧ ∀ y, l.getLast? = some y → y < x := by
  unfold Asc
  rw [List.pairwise_append]
  constructor
  · rintro ⟨h1, -, h2⟩
    exact ⟨h1, fun y hy => h2 y (List.mem_of_getLast? hy) x (by simp)⟩
  · rintro ⟨h1, h2⟩
    refine ⟨h1, by simp, fun y hy z hz => ?_⟩
    simp at hz
    subst hz
    rcases List.eq_nil_or_concat l with rfl | ⟨r, c, rfl⟩
    · cases hy
    · rw [List.concat_eq_append] at *
      have hc := h2 c (by simp)
      rcases List.mem_append.1 hy with hy | hy
      · exact str_lt_trans ((List.pairwise_append.1 h1).2.2 y hy c (by simp)) hc
      · simp at hy; subst hy; exact hc

noncomputable def tsB (l : List Str) : Bool := @decide (TokSet l) (Classical.propDecidable _)
theorem tsB_yes {l : List Str} (h : TokSet l) : tsB l = true := by unfold tsB; exact (@decide_eq_true_iff _ (Classical.propDecidable _)).2 h
theorem tsB_no {l : List Str} (h : ¬ TokSet l) : tsB l = false := by unfold tsB; exact (@decide_eq_false_iff_not _ (Classical.propDecidable _)).2 h

theorem tok_step {l : List Str} {x : Str} (h : TokSet l) (hx : tokB x = true) (hl : ∀ y, l.getLast? = some y → y < x) : TokSet (l ++ [x]) :=
  ⟨fun y hy => by rcases List.mem_append.1 hy with hy | hy; exact h.1 y hy; simp at hy; subst hy; exact hx, asc_snoc.2 ⟨h.2, hl⟩⟩
theorem tok_bad {l : List Str} {x : Str} (hx : x ∈ l) (h : tokB x = false) : ¬ TokSet l := fun e => by rw [e.1 x hx] at h; cases h
theorem tok_order {l : List Str} {k : Nat} {x y : Str} (hy : l[k]? = some y) (hx : l[k + 1]? = some x) (h : ¬ y < x) : ¬ TokSet l := fun e => by
  obtain ⟨h1, e1⟩ := List.getElem?_eq_some_iff.1 hy
  obtain ⟨h2, e2⟩ := List.getElem?_eq_some_iff.1 hx
  have := List.pairwise_iff_getElem.1 e.2 k (k + 1) h1 h2 (by omega)
  rw [e1, e2] at this
  exact h this

theorem fold_low (c : UInt8) : ¬ (65 ≤ (foldB c).toNat ∧ (foldB c).toNat ≤ 90) := by
  by_cases h : 65 ≤ c.toNat ∧ c.toNat ≤ 90
  · rw [foldB_yes h.1 h.2, UInt8.toNat_ofNat']
    omega
  · rw [foldB_no h]; exact h

/-- no upper-case letter -/
def NoUp (l : Str) : Prop := ∀ c ∈ l, ¬ (65 ≤ c.toNat ∧ c.toNat ≤ 90)
theorem norm_noUp (s : Str) : NoUp (normL s) := by
  intro c hc
  rcases coll_mem hc with h | h
  · unfold stripL at h
    rw [List.mem_flatMap] at h
    obtain ⟨x, hx, hcx⟩ := h
    unfold foldL at hx
    rw [List.mem_map] at hx
    obtain ⟨y, _, rfl⟩ := hx
    unfold stripB at hcx
    split at hcx
    · simp at hcx; subst hcx; exact fold_low y
    · split at hcx
      · simp at hcx
      · simp at hcx; subst hcx; decide
  · subst h; decide

theorem toks_tok (s : Str) : TokSet (toksL s) := by
  refine ⟨fun x hx => ?_, setL_asc _⟩
  unfold toksL at hx
  rw [setL_mem] at hx
  obtain ⟨h1, h2⟩ := words_bytes _ x hx
  unfold tokB
  rw [ne0_yes h1, Bool.true_and, List.all_eq_true]
  intro c hc
  obtain ⟨h3, h4⟩ := h2 c hc
  have h5 : isWordI c.toNat = true := by
    rcases norm_ws s c h3 with h | h
    · exact h
    · exact absurd h h4
  unfold lowB
  rw [h5]
  have := norm_noUp s c h3
  simp [this]

end Go.Proofs.YtknkhljegmielaaDoor
