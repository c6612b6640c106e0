/-
  Sound codes: plain facts without the program. By an AI agent.
-/
import Derived.Test.YtggohfinkpppkabDoorPlainNorm
namespace Go.Proofs.YtggohfinkpppkabDoor

/-- the code of a byte in lower case -/
def scF (y : Int) : Int :=
  if y = 97 ∨ y = 101 ∨ y = 105 ∨ y = 111 ∨ y = 117 ∨ y = 121 then 0
  else if y = 98 ∨ y = 102 ∨ y = 112 ∨ y = 118 then 1
  else if y = 99 ∨ y = 103 ∨ y = 106 ∨ y = 107 ∨ y = 113 ∨ y = 115 ∨ y = 120 ∨ y = 122 then 2
  else if y = 100 ∨ y = 116 then 3
  else if y = 108 then 4
  else if y = 109 ∨ y = 110 then 5
  else if y = 114 then 6
  else if y = 104 ∨ y = 119 then -1
  else -2

def sc (c : UInt8) : Int := scF ((foldB c).toNat : Int)

theorem scF_range (y : Int) : -2 ≤ scF y ∧ scF y ≤ 6 := by
  unfold scF
  repeat' split
  all_goals omega

theorem sc_range (c : UInt8) : -2 ≤ sc c ∧ sc c ≤ 6 := scF_range _

theorem foldB_foldB (c : UInt8) : foldB (foldB c) = foldB c := by
  by_cases h : 65 ≤ c.toNat ∧ c.toNat ≤ 90
  · rw [foldB_yes h.1 h.2]
    refine foldB_no ?_
    rw [UInt8.toNat_ofNat']
    omega
  · rw [foldB_no h, foldB_no h]

theorem sc_fold (c : UInt8) : sc (foldB c) = sc c := by unfold sc; rw [foldB_foldB]

/-- one letter more: what is written, the code that counts as previous -/
def sxStep (p : List UInt8 × Int) (c : UInt8) : List UInt8 × Int :=
  (if 0 < sc c ∧ sc c ≠ p.2 ∧ p.1.length < 4 then p.1 ++ [UInt8.ofNat (48 + sc c).toNat] else p.1, if 0 ≤ sc c then sc c else p.2)
def sxS : List UInt8 → List UInt8 × Int
  | [] => ([], 0)
  | c :: l => l.foldl sxStep ([foldB c], sc c)
def letS (l : List UInt8) : Prop := ∀ c ∈ l, sc c ≠ -2
instance (l : List UInt8) : Decidable (letS l) := by unfold letS; exact inferInstance
/-- with its missing digits -/
def sxFull (l : List UInt8) : List UInt8 := (sxS l).1 ++ List.replicate (4 - (sxS l).1.length) 48
def sxL (l : List UInt8) : List UInt8 := if l = [] ∨ ¬ letS l then [] else sxFull l

theorem sxS_one (c : UInt8) : sxS ([] ++ [c]) = ([foldB c], sc c) := rfl
theorem sxS_snoc {l : List UInt8} (h : l ≠ []) (c : UInt8) : sxS (l ++ [c]) = sxStep (sxS l) c := by
  cases l with
  | nil => exact absurd rfl h
  | cons x l => simp [sxS]

theorem step_put {p : List UInt8 × Int} {c : UInt8} (h1 : 0 < sc c) (h2 : sc c ≠ p.2) (h3 : p.1.length < 4) : sxStep p c = (p.1 ++ [UInt8.ofNat (48 + sc c).toNat], sc c) := by
  unfold sxStep
  rw [if_pos ⟨h1, h2, h3⟩, if_pos (by omega)]
theorem step_same {p : List UInt8 × Int} {c : UInt8} (h0 : 0 ≤ sc c) (h : ¬ (0 < sc c ∧ sc c ≠ p.2 ∧ p.1.length < 4)) : sxStep p c = (p.1, sc c) := by
  unfold sxStep
  rw [if_neg h, if_pos h0]
theorem step_skip {p : List UInt8 × Int} {c : UInt8} (h0 : sc c < 0) : sxStep p c = p := by
  unfold sxStep
  rw [if_neg (by omega), if_neg (by omega)]

theorem step_len (p : List UInt8 × Int) (c : UInt8) (h : p.1.length ≤ 4) : p.1.length ≤ (sxStep p c).1.length ∧ (sxStep p c).1.length ≤ 4 := by
  unfold sxStep
  split <;> simp <;> omega

theorem fold_len (l : List UInt8) : ∀ p : List UInt8 × Int, p.1.length ≤ 4 → p.1.length ≤ (l.foldl sxStep p).1.length ∧ (l.foldl sxStep p).1.length ≤ 4 := by
  induction l with
  | nil => intro p h; exact ⟨Nat.le_refl _, h⟩
  | cons c l ih =>
    intro p h
    have h1 := step_len p c h
    have h2 := ih (sxStep p c) h1.2
    rw [List.foldl_cons]
    omega

theorem sxS_len (l : List UInt8) : (sxS l).1.length ≤ 4 := by
  cases l with
  | nil => decide
  | cons c l => exact (fold_len l _ (by simp)).2

theorem sxS_pos {l : List UInt8} (h : l ≠ []) : 1 ≤ (sxS l).1.length := by
  cases l with
  | nil => exact absurd rfl h
  | cons c l => exact (fold_len l ([foldB c], sc c) (by simp)).1

theorem fold_full (l : List UInt8) : ∀ p : List UInt8 × Int, p.1.length = 4 → (l.foldl sxStep p).1 = p.1 := by
  induction l with
  | nil => intro p h; rfl
  | cons c l ih =>
    intro p h
    have e : (sxStep p c).1 = p.1 := by
      unfold sxStep
      rw [if_neg (by omega)]
    rw [List.foldl_cons, ih _ (by rw [e]; exact h), e]

/-- once there are four characters, the rest adds nothing -/
theorem sxS_full {l : List UInt8} (h : (sxS l).1.length = 4) (r : List UInt8) : (sxS (l ++ r)).1 = (sxS l).1 := by
  cases l with
  | nil => simp [sxS] at h
  | cons c l =>
    have e : sxS ((c :: l) ++ r) = r.foldl sxStep (sxS (c :: l)) := by simp [sxS]
    rw [e, fold_full r _ h]

theorem sxFull_length (l : List UInt8) : (sxFull l).length = 4 := by
  have := sxS_len l
  simp [sxFull]
  omega

theorem sxFull_ne (l : List UInt8) : sxFull l ≠ [] := by
  intro e
  have := sxFull_length l
  rw [e] at this
  simp at this

theorem sxL_bad {l : List UInt8} {c : UInt8} (hc : c ∈ l) (h : sc c = -2) : sxL l = [] := by
  unfold sxL
  rw [if_pos (.inr (fun e => e c hc h))]
theorem sxL_none {l : List UInt8} (h : ¬ letS l) : sxL l = [] := by
  unfold sxL
  rw [if_pos (.inr h)]
theorem sxL_nil : sxL [] = [] := by
  unfold sxL
  rw [if_pos (.inl rfl)]
theorem sxL_some {l : List UInt8} (h0 : l ≠ []) (h : letS l) : sxL l = sxFull l := by
  unfold sxL
  rw [if_neg (by simp [h0, h])]

theorem sxL_length (l : List UInt8) : sxL l = [] ∨ (sxL l).length = 4 := by
  unfold sxL
  split
  · exact .inl rfl
  · exact .inr (sxFull_length l)

theorem letS_snoc {l : List UInt8} {c : UInt8} (h : letS l) (hc : sc c ≠ -2) : letS (l ++ [c]) := by
  intro x hx
  rcases List.mem_append.1 hx with h1 | h1
  · exact h x h1
  · obtain rfl : x = c := by simpa using h1
    exact hc

theorem sc_some (c : UInt8) (h : sc c ≠ -2) : foldB c ≠ 0 := by
  intro e
  refine h ?_
  unfold sc
  rw [e]
  rfl

theorem sxS_head {c : UInt8} {l : List UInt8} : ∃ r, (sxS (c :: l)).1 = foldB c :: r := by
  have h : ∀ (l : List UInt8) (p : List UInt8 × Int), ∃ r, (l.foldl sxStep p).1 = p.1 ++ r := by
    intro l
    induction l with
    | nil => intro p; exact ⟨[], by simp⟩
    | cons x l ih =>
      intro p
      obtain ⟨r, hr⟩ := ih (sxStep p x)
      rw [List.foldl_cons, hr]
      unfold sxStep
      split
      · exact ⟨_, by rw [List.append_assoc]⟩
      · exact ⟨r, rfl⟩
  obtain ⟨r, hr⟩ := h l ([foldB c], sc c)
  exact ⟨r, by rw [sxS, hr]; rfl⟩

/-- the four bytes of the program's own form: four zeros where there is no code -/
def sndL (l : List UInt8) : List UInt8 := if sxL l = [] then [0, 0, 0, 0] else sxL l

theorem sndL_none {l : List UInt8} (h : sxL l = []) : sndL l = [0, 0, 0, 0] := by unfold sndL; rw [if_pos h]
theorem sndL_some {l : List UInt8} (h : sxL l ≠ []) : sndL l = sxL l := by unfold sndL; rw [if_neg h]
theorem sndL_length (l : List UInt8) : (sndL l).length = 4 := by
  rcases sxL_length l with h | h
  · rw [sndL_none h]; rfl
  · rw [sndL_some (fun e => by rw [e] at h; simp at h), h]

theorem sndL_zero (l : List UInt8) : (sndL l = [0, 0, 0, 0]) ↔ sxL l = [] := by
  constructor
  · intro h
    by_cases h1 : sxL l = []
    · exact h1
    · rw [sndL_some h1] at h
      exfalso
      have h2 : l ≠ [] := fun e => h1 (by rw [e]; exact sxL_nil)
      have h3 : letS l := Decidable.byContradiction fun e => h1 (sxL_none e)
      rw [sxL_some h2 h3] at h
      cases l with
      | nil => exact h2 rfl
      | cons c l =>
        obtain ⟨r, hr⟩ := sxS_head (c := c) (l := l)
        have h4 := sc_some c (h3 c (by simp))
        unfold sxFull at h
        rw [hr] at h
        injection h with h5 _
        exact h4 h5
  · exact sndL_none

theorem sndL_eq (a b : List UInt8) : sndL a = sndL b ↔ sxL a = sxL b := by
  constructor
  · intro h
    by_cases h1 : sxL a = []
    · rw [sndL_none h1] at h
      rw [h1, (sndL_zero b).1 h.symm]
    · by_cases h2 : sxL b = []
      · rw [sndL_none h2] at h
        exact absurd ((sndL_zero a).1 h) h1
      · rw [sndL_some h1, sndL_some h2] at h
        exact h
  · intro h
    unfold sndL
    rw [h]

def alikeB (a b : List UInt8) : Bool := decide (sxL a ≠ [] ∧ sxL a = sxL b)

theorem alike_symm (a b : List UInt8) : alikeB a b = alikeB b a := by
  unfold alikeB
  apply Bool.eq_iff_iff.2
  simp only [decide_eq_true_eq]
  constructor
  · intro h; exact ⟨fun e => h.1 (by rw [h.2, e]), h.2.symm⟩
  · intro h; exact ⟨fun e => h.1 (by rw [h.2, e]), h.2.symm⟩

theorem letS_fold (l : List UInt8) : letS (foldL l) ↔ letS l := by
  unfold letS foldL
  simp [sc_fold]

theorem step_fold (p : List UInt8 × Int) (c : UInt8) : sxStep p (foldB c) = sxStep p c := by
  unfold sxStep
  rw [sc_fold]

theorem foldl_fold (l : List UInt8) : ∀ p, (l.map foldB).foldl sxStep p = l.foldl sxStep p := by
  induction l with
  | nil => intro p; rfl
  | cons c l ih => intro p; rw [List.map_cons, List.foldl_cons, List.foldl_cons, step_fold, ih]

theorem sxS_fold (l : List UInt8) : sxS (foldL l) = sxS l := by
  cases l with
  | nil => rfl
  | cons c l =>
    show (l.map foldB).foldl sxStep ([foldB (foldB c)], sc (foldB c)) = _
    rw [foldB_foldB, sc_fold, foldl_fold]
    rfl

theorem sxL_fold (l : List UInt8) : sxL (foldL l) = sxL l := by
  have e : (foldL l = []) ↔ (l = []) := by simp [foldL]
  unfold sxL sxFull
  simp only [sxS_fold, letS_fold, e]

end Go.Proofs.YtggohfinkpppkabDoor
