/-
  Normalization: plain facts without the program. By an AI agent.
-/
import Derived.WalkKit
namespace Go.Proofs.YtknkhljegmielaaDoor

def isTextB (l : List UInt8) : Bool := decide (l.length ≤ 40 ∧ ∀ c ∈ l, 32 ≤ c.toNat ∧ c.toNat ≤ 126)

theorem text_long {l : List UInt8} (h : 40 < l.length) : isTextB l = false := by
  unfold isTextB
  exact decide_eq_false (fun e => by omega)

theorem text_bad {l : List UInt8} {c : UInt8} (hc : c ∈ l) (h : c.toNat < 32 ∨ 126 < c.toNat) : isTextB l = false := by
  unfold isTextB
  refine decide_eq_false (fun e => ?_)
  have := e.2 c hc
  omega

theorem text_ok {l : List UInt8} (h1 : l.length ≤ 40) (h2 : ∀ c ∈ l, 32 ≤ c.toNat ∧ c.toNat ≤ 126) : isTextB l = true := by
  unfold isTextB
  exact decide_eq_true ⟨h1, h2⟩

/-- A to Z by a to z -/
def foldB (c : UInt8) : UInt8 := if 65 ≤ c.toNat ∧ c.toNat ≤ 90 then UInt8.ofNat (c.toNat + 32) else c
def foldL (l : List UInt8) : List UInt8 := l.map foldB

theorem foldB_yes {c : UInt8} (h1 : 65 ≤ c.toNat) (h2 : c.toNat ≤ 90) : foldB c = UInt8.ofNat (c.toNat + 32) := by unfold foldB; rw [if_pos ⟨h1, h2⟩]
theorem foldB_no {c : UInt8} (h : ¬ (65 ≤ c.toNat ∧ c.toNat ≤ 90)) : foldB c = c := by unfold foldB; rw [if_neg h]
theorem foldL_snoc (l : List UInt8) (c : UInt8) : foldL (l ++ [c]) = foldL l ++ [foldB c] := by simp [foldL]
theorem foldL_length (l : List UInt8) : (foldL l).length = l.length := by simp [foldL]

/-- a letter or a digit -/
def isWordI (x : Int) : Bool := decide ((97 ≤ x ∧ x ≤ 122) ∨ (65 ≤ x ∧ x ≤ 90) ∨ (48 ≤ x ∧ x ≤ 57))

theorem wordI_yes {x : Int} (h : (97 ≤ x ∧ x ≤ 122) ∨ (65 ≤ x ∧ x ≤ 90) ∨ (48 ≤ x ∧ x ≤ 57)) : isWordI x = true := decide_eq_true h
theorem wordI_no {x : Int} (h : ¬ ((97 ≤ x ∧ x ≤ 122) ∨ (65 ≤ x ∧ x ≤ 90) ∨ (48 ≤ x ∧ x ≤ 57))) : isWordI x = false := decide_eq_false h
theorem of_wordI {x : Int} (h : isWordI x = true) : (97 ≤ x ∧ x ≤ 122) ∨ (65 ≤ x ∧ x ≤ 90) ∨ (48 ≤ x ∧ x ≤ 57) := of_decide_eq_true h
theorem of_not_wordI {x : Int} (h : isWordI x = false) : ¬ ((97 ≤ x ∧ x ≤ 122) ∨ (65 ≤ x ∧ x ≤ 90) ∨ (48 ≤ x ∧ x ≤ 57)) := of_decide_eq_false h

/-- no apostrophe; any other byte that is neither a letter nor a digit by a space -/
def stripB (c : UInt8) : List UInt8 := if isWordI c.toNat = true then [c] else if c.toNat = 39 then [] else [32]
def stripL (l : List UInt8) : List UInt8 := l.flatMap stripB

theorem stripB_word {c : UInt8} (h : isWordI c.toNat = true) : stripB c = [c] := by unfold stripB; rw [if_pos h]
theorem stripB_mark {c : UInt8} (h : c.toNat = 39) : stripB c = [] := by
  unfold stripB
  rw [if_neg (by rw [h]; decide), if_pos h]
theorem stripB_other {c : UInt8} (h : isWordI c.toNat = false) (h1 : c.toNat ≠ 39) : stripB c = [32] := by
  unfold stripB
  rw [if_neg (by rw [h]; decide), if_neg h1]
theorem stripL_snoc (l : List UInt8) (c : UInt8) : stripL (l ++ [c]) = stripL l ++ stripB c := by simp [stripL]
theorem stripB_length (c : UInt8) : (stripB c).length ≤ 1 := by unfold stripB; split <;> (try split) <;> simp
theorem stripL_length (l : List UInt8) : (stripL l).length ≤ l.length := by
  induction l with
  | nil => simp [stripL]
  | cons c l ih =>
    have h1 := stripB_length c
    have e : stripL (c :: l) = stripB c ++ stripL l := by simp [stripL]
    rw [e, List.length_append, List.length_cons]
    omega

/-- one byte more, what is written and whether the byte before was a space -/
def cStep (p : List UInt8 × Bool) (c : UInt8) : List UInt8 × Bool :=
  if c = 32 then (p.1, true) else ((if p.1 ≠ [] ∧ p.2 = true then p.1 ++ [32] else p.1) ++ [c], false)
def collS (l : List UInt8) : List UInt8 × Bool := l.foldl cStep ([], false)
def collL (l : List UInt8) : List UInt8 := (collS l).1

theorem collS_snoc (l : List UInt8) (c : UInt8) : collS (l ++ [c]) = cStep (collS l) c := by simp [collS]
theorem collS_snd (l : List UInt8) : (collS l).2 = (l.getLast? == some 32) := by
  rcases List.eq_nil_or_concat l with rfl | ⟨r, c, rfl⟩
  · rfl
  · rw [List.concat_eq_append, collS_snoc, List.getLast?_append]
    unfold cStep
    by_cases h : c = 32
    · simp [h]
    · simp [h]

theorem collL_space (l : List UInt8) : collL (l ++ [32]) = collL l := by
  unfold collL; rw [collS_snoc]; rfl

theorem collL_join {l : List UInt8} {c : UInt8} (hc : c ≠ 32) (h1 : collL l ≠ []) (h2 : l.getLast? = some 32) : collL (l ++ [c]) = (collL l ++ [32]) ++ [c] := by
  have h3 : (collS l).2 = true := by rw [collS_snd, h2]; rfl
  unfold collL at h1 ⊢
  rw [collS_snoc]
  unfold cStep
  rw [if_neg hc, if_pos ⟨h1, h3⟩]

theorem collL_first {l : List UInt8} {c : UInt8} (hc : c ≠ 32) (h : collL l = []) : collL (l ++ [c]) = [] ++ [c] := by
  unfold collL at h ⊢
  rw [collS_snoc]
  unfold cStep
  rw [if_neg hc, if_neg (fun e => e.1 h), h]

theorem collL_next {l : List UInt8} {c : UInt8} (hc : c ≠ 32) (h : l.getLast? ≠ some 32) : collL (l ++ [c]) = collL l ++ [c] := by
  have h3 : (collS l).2 = false := by rw [collS_snd]; simpa using h
  unfold collL
  rw [collS_snoc]
  unfold cStep
  rw [if_neg hc, if_neg (fun e => by rw [h3] at e; exact absurd e.2 (by decide))]

theorem snoc_ind {α : Type} {P : List α → Prop} (h0 : P []) (h1 : ∀ l c, P l → P (l ++ [c])) (l : List α) : P l := by
  have h : ∀ l : List α, P l.reverse := by
    intro l
    induction l with
    | nil => exact h0
    | cons c l ih => rw [List.reverse_cons]; exact h1 _ _ ih
  simpa using h l.reverse

theorem collL_length (l : List UInt8) : (collL l).length ≤ 2 * l.length := by
  induction l using snoc_ind with
  | h0 => simp [collL, collS]
  | h1 l c ih =>
    by_cases hc : c = 32
    · subst hc; rw [collL_space]; simp; omega
    · unfold collL at ih ⊢
      rw [collS_snoc]
      unfold cStep
      rw [if_neg hc]
      simp only [List.length_append, List.length_cons, List.length_nil]
      split <;> (try simp only [List.length_append, List.length_cons, List.length_nil]) <;> omega

def normL (l : List UInt8) : List UInt8 := collL (stripL (foldL l))

theorem norm_len (l : List UInt8) : (normL l).length ≤ 2 * l.length := by
  have h1 := collL_length (stripL (foldL l))
  have h2 := stripL_length (foldL l)
  rw [foldL_length] at h2
  unfold normL
  omega

end Go.Proofs.YtknkhljegmielaaDoor
