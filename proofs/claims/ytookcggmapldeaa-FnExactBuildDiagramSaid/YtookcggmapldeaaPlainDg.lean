/-
  Decision diagrams in plain words: when one is valid, where following it leads. By an AI agent.
-/
import Derived.Test.YtookcggmapldeaaPlainRul
namespace Go.Proofs.Ytookcggmapldeaa
open Go.RowKit
set_option linter.unusedVariables false
set_option linter.unusedSimpArgs false
set_option linter.unnecessarySimpa false

/-- a node: feature and threshold; the references for less, and for not less -/
abbrev DN := (Int × Int) × (Int × Int)
def varLt (a b : Int × Int) : Bool := decide (a.1 < b.1 ∨ (a.1 = b.1 ∧ a.2 < b.2))
def refB (n : Nat) (r : Int) : Bool := decide (0 ≤ r ∧ r ≤ (n : Int) + 1)
/-- a variable stands before that of the node with a reference -/
def preB (v : Int × Int) (D : List DN) (r : Int) : Bool := decide (r < 2) || (D[(r - 2).toNat]?).any fun y => varLt v y.1
def numB (x : DN) (n : Nat) : Bool := ((decide (0 ≤ x.1.1 ∧ x.1.1 ≤ 5) && decide (1 ≤ x.1.2 ∧ x.1.2 ≤ 1000)) && !decide (x.2.1 = x.2.2)) && (refB n x.2.1 && refB n x.2.2)
/-- a node behind the nodes of a list -/
def dvB (x : DN) (D : List DN) : Bool := numB x D.length && ((preB x.1 D x.2.1 && preB x.1 D x.2.2) && !D.contains x)
def nodesB (D : List DN) : Bool := (List.range D.length).all fun i => (D[i]?).any fun x => dvB x (D.take i)
def dgB (r : Int) (D : List DN) : Bool := (decide (D.length ≤ 200) && refB D.length r) && nodesB D

theorem nodes_iff {D : List DN} : nodesB D = true ↔ ∀ (i : Nat) (x : DN), D[i]? = some x → dvB x (D.take i) = true := by
  unfold nodesB
  rw [List.all_eq_true]
  constructor
  · intro h i x hx
    have := h i (List.mem_range.2 (List.getElem?_eq_some_iff.1 hx).1)
    rw [hx] at this
    simpa using this
  · intro h i hi
    have hx := List.getElem?_eq_getElem (List.mem_range.1 hi)
    rw [hx]
    simpa using h i _ hx
theorem nodes_no {D : List DN} {i : Nat} {x : DN} (hx : D[i]? = some x) (h : dvB x (D.take i) = false) : nodesB D = false := by
  rw [Bool.eq_false_iff]
  intro e
  rw [nodes_iff.1 e i x hx] at h
  cases h
theorem dv_num {x : DN} {D : List DN} (h : numB x D.length = false) : dvB x D = false := by unfold dvB; rw [h, Bool.false_and]
theorem dv_low {x : DN} {D : List DN} (h : preB x.1 D x.2.1 = false) : dvB x D = false := by unfold dvB; rw [h, Bool.false_and, Bool.false_and, Bool.and_false]
theorem dv_high {x : DN} {D : List DN} (h : preB x.1 D x.2.2 = false) : dvB x D = false := by unfold dvB; rw [h, Bool.and_false, Bool.false_and, Bool.and_false]
theorem dv_mem {x : DN} {D : List DN} (h : D.contains x = true) : dvB x D = false := by unfold dvB; rw [h]; simp
theorem dv_yes {x : DN} {D : List DN} (h1 : numB x D.length = true) (h2 : preB x.1 D x.2.1 = true) (h3 : preB x.1 D x.2.2 = true) (h4 : D.contains x = false) : dvB x D = true := by unfold dvB; rw [h1, h2, h3, h4]; rfl
theorem dv_of {x : DN} {D : List DN} (h : dvB x D = true) : numB x D.length = true ∧ preB x.1 D x.2.1 = true ∧ preB x.1 D x.2.2 = true ∧ x ∉ D := by
  unfold dvB at h
  simp only [Bool.and_eq_true, Bool.not_eq_true'] at h
  exact ⟨h.1, h.2.1.1, h.2.1.2, fun hm => by have := List.contains_iff_mem.2 hm; rw [h.2.2] at this; cases this⟩
theorem num_of {x : DN} {n : Nat} (h : numB x n = true) : (0 ≤ x.1.1 ∧ x.1.1 ≤ 5) ∧ (1 ≤ x.1.2 ∧ x.1.2 ≤ 1000) ∧ x.2.1 ≠ x.2.2 ∧ (0 ≤ x.2.1 ∧ x.2.1 ≤ (n : Int) + 1) ∧ (0 ≤ x.2.2 ∧ x.2.2 ≤ (n : Int) + 1) := by
  unfold numB refB at h
  simp only [Bool.and_eq_true, decide_eq_true_eq, Bool.not_eq_true', decide_eq_false_iff_not] at h
  exact ⟨h.1.1.1, h.1.1.2, h.1.2, h.2.1, h.2.2⟩
theorem num_yes {x : DN} {n : Nat} (h1 : 0 ≤ x.1.1 ∧ x.1.1 ≤ 5) (h2 : 1 ≤ x.1.2 ∧ x.1.2 ≤ 1000) (h3 : x.2.1 ≠ x.2.2) (h4 : 0 ≤ x.2.1 ∧ x.2.1 ≤ (n : Int) + 1) (h5 : 0 ≤ x.2.2 ∧ x.2.2 ≤ (n : Int) + 1) : numB x n = true := by
  unfold numB refB
  rw [decide_eq_true h1, decide_eq_true h2, decide_eq_true h4, decide_eq_true h5, decide_eq_false h3]
  rfl
theorem num_no {x : DN} {n : Nat} (h : ¬ ((0 ≤ x.1.1 ∧ x.1.1 ≤ 5) ∧ (1 ≤ x.1.2 ∧ x.1.2 ≤ 1000) ∧ x.2.1 ≠ x.2.2 ∧ (0 ≤ x.2.1 ∧ x.2.1 ≤ (n : Int) + 1) ∧ (0 ≤ x.2.2 ∧ x.2.2 ≤ (n : Int) + 1))) : numB x n = false := by
  rw [Bool.eq_false_iff]
  exact fun e => h (num_of e)
theorem pre_small {v : Int × Int} {D : List DN} {r : Int} (h : r < 2) : preB v D r = true := by unfold preB; rw [decide_eq_true h, Bool.true_or]
theorem pre_at {v : Int × Int} {D : List DN} {r : Int} {i : Nat} {y : DN} (h : r = (i : Int) + 2) (hy : D[i]? = some y) : preB v D r = varLt v y.1 := by
  unfold preB
  rw [decide_eq_false (by omega), Bool.false_or, show (r - 2).toNat = i by omega, hy]
  rfl
theorem dg_nodes {r : Int} {D : List DN} (h : dgB r D = true) : D.length ≤ 200 ∧ (0 ≤ r ∧ r ≤ (D.length : Int) + 1) ∧ nodesB D = true := by
  unfold dgB refB at h
  simp only [Bool.and_eq_true, decide_eq_true_eq] at h
  exact ⟨h.1.1, h.1.2, h.2⟩
theorem dg_len {r : Int} {D : List DN} (h : ¬ D.length ≤ 200) : dgB r D = false := by unfold dgB; rw [decide_eq_false h, Bool.false_and, Bool.false_and]
theorem dg_root {r : Int} {D : List DN} (h : ¬ (0 ≤ r ∧ r ≤ (D.length : Int) + 1)) : dgB r D = false := by unfold dgB refB; rw [decide_eq_false h, Bool.and_false, Bool.false_and]
theorem dg_no {r : Int} {D : List DN} (h : nodesB D = false) : dgB r D = false := by unfold dgB; rw [h, Bool.and_false]
theorem dg_yes {r : Int} {D : List DN} (h1 : D.length ≤ 200) (h2 : 0 ≤ r ∧ r ≤ (D.length : Int) + 1) (h3 : nodesB D = true) : dgB r D = true := by unfold dgB refB; rw [decide_eq_true h1, decide_eq_true h2, h3]; rfl

/-! ### following a diagram -/
def goesT (x : DN) (l : List Int) : Int := if x.1.2 ≤ l.getD x.1.1.toNat 0 then x.2.2 else x.2.1
def wkF (D : List DN) (l : List Int) : Nat → Int → Int × Nat
  | 0, r => (r, 0)
  | s + 1, r => match (if r < 2 then none else D[(r - 2).toNat]?) with
    | none => (r, 0)
    | some x => ((wkF D l s (goesT x l)).1, (wkF D l s (goesT x l)).2 + 1)
theorem wkF_small {D : List DN} {l : List Int} {r : Int} (h : r < 2) : ∀ s, wkF D l s r = (r, 0)
  | 0 => rfl
  | s + 1 => by rw [wkF, if_pos h]
theorem goes_in {D : List DN} {l : List Int} {i : Nat} {x : DN} (hn : nodesB D = true) (hx : D[i]? = some x) : 0 ≤ goesT x l ∧ goesT x l ≤ (i : Int) + 1 := by
  have h := (num_of (dv_of (nodes_iff.1 hn i x hx)).1).2.2.2
  have hl : (D.take i).length = i := by rw [List.length_take]; have := (List.getElem?_eq_some_iff.1 hx).1; omega
  rw [hl] at h
  unfold goesT
  split
  · exact h.2
  · exact h.1
theorem wkF_enough {D : List DN} {l : List Int} (hn : nodesB D = true) : ∀ (s s' : Nat) (r : Int), r ≤ (s : Int) + 1 → s ≤ s' → wkF D l s' r = wkF D l s r
  | 0, s', r, h, _ => by rw [wkF_small (by omega)]; rfl
  | s + 1, 0, r, h, hs => by omega
  | s + 1, s' + 1, r, h, hs => by
    rw [wkF, wkF]
    by_cases h2 : r < 2
    · rw [if_pos h2]
    · rw [if_neg h2]
      cases hx : D[(r - 2).toNat]? with
      | none => rfl
      | some x =>
        have h1 := goes_in (l := l) hn hx
        simp only
        rw [wkF_enough hn s s' (goesT x l) (by omega) (by omega)]
/-- where following a diagram from a reference ends, and the nodes on the way -/
def wkD (D : List DN) (l : List Int) (r : Int) : Int × Nat := wkF D l r.toNat r
theorem wk_end {D : List DN} {l : List Int} {r : Int} (h : r < 2) : wkD D l r = (r, 0) := wkF_small h _
theorem wk_step {D : List DN} {l : List Int} {r : Int} {i : Nat} {x : DN} (hn : nodesB D = true) (hr : r = (i : Int) + 2) (hx : D[i]? = some x) : wkD D l r = ((wkD D l (goesT x l)).1, (wkD D l (goesT x l)).2 + 1) := by
  have h1 := goes_in (l := l) hn hx
  have e : r.toNat = (i + 1) + 1 := by omega
  have e2 : wkF D l (i + 1) (goesT x l) = wkD D l (goesT x l) := wkF_enough hn _ _ _ (by omega) (by omega)
  unfold wkD at e2 ⊢
  rw [e, wkF, if_neg (by omega), show (r - 2).toNat = i by omega, hx]
  simp only
  rw [e2]
def evR (r : Int) (D : List DN) (l : List Int) : Bool := (dgB r D && fvB l) && decide ((wkD D l r).1 = 1)
def teR (r : Int) (D : List DN) (l : List Int) : Int := if dgB r D && fvB l then ((wkD D l r).2 : Int) else 0

end Go.Proofs.Ytookcggmapldeaa
