/-
  Decision rules in plain words: tests, rules, rule sets; when one is valid, when one holds. By an AI agent.
-/
import Derived.Test.YtookcggmapldeaaFeat
namespace Go.Proofs.Ytookcggmapldeaa
open Go.RowKit
set_option linter.unusedVariables false

/-- a test: feature and threshold; whether it is a test for less -/
abbrev TS := (Int × Int) × Bool
def featB (t : TS) : Bool := decide (0 ≤ t.1.1 ∧ t.1.1 ≤ 5)
def thrB (t : TS) : Bool := decide (1 ≤ t.1.2 ∧ t.1.2 ≤ 1000)
def vtB (t : TS) : Bool := featB t && thrB t
/-- the features ascend -/
def ascB : List TS → Bool
  | [] => true
  | [_] => true
  | x :: y :: l => decide (x.1.1 < y.1.1) && ascB (y :: l)
def vrB (l : List TS) : Bool := decide (1 ≤ l.length ∧ l.length ≤ 3) && (l.all vtB && ascB l)
def vsB (R : List (List TS)) : Bool := decide (1 ≤ R.length ∧ R.length ≤ 3) && R.all vrB

/-- a test's comparison with the features -/
def cmpT (t : TS) (l : List Int) : Bool := if t.2 then decide (l.getD t.1.1.toNat 0 < t.1.2) else decide (t.1.2 ≤ l.getD t.1.1.toNat 0)
/-- the condition of a test (of a feature vector) -/
def condT (t : TS) (l : List Int) : Bool := featB t && cmpT t l
def tshB (t : TS) (l : List Int) : Bool := fvB l && condT t l
def ruB (r : List TS) (l : List Int) : Bool := fvB l && r.all fun t => condT t l
/-- the first rule that holds -/
def firstU (R : List (List TS)) (l : List Int) : Nat := R.findIdx fun r => r.all fun t => condT t l
def frR (R : List (List TS)) (l : List Int) : Int := if vsB R && fvB l && decide (firstU R l < R.length) then (firstU R l : Int) else -1
def rhB (R : List (List TS)) (l : List Int) : Bool := decide (0 ≤ frR R l)

theorem ascB_snoc : ∀ {l : List TS} {x y : TS}, ascB (l ++ [x, y]) = (ascB (l ++ [x]) && decide (x.1.1 < y.1.1))
  | [], x, y => by simp [ascB]
  | [a], x, y => by simp [ascB]
  | a :: b :: l, x, y => by
    have h := ascB_snoc (l := b :: l) (x := x) (y := y)
    simp only [List.cons_append, ascB] at h ⊢
    rw [h, Bool.and_assoc]
theorem asc_take1 (l : List TS) : ascB (l.take 1) = true := by
  cases l with
  | nil => rfl
  | cons x l => rfl
theorem take_two {l : List TS} {k : Nat} {x y : TS} (hx : l[k]? = some x) (hy : l[k + 1]? = some y) : l.take (k + 1 + 1) = l.take k ++ [x, y] := by
  obtain ⟨h1, e1⟩ := List.getElem?_eq_some_iff.1 hx
  obtain ⟨h2, e2⟩ := List.getElem?_eq_some_iff.1 hy
  rw [List.take_succ_eq_append_getElem h2, List.take_succ_eq_append_getElem h1, e1, e2]
  simp
theorem take_one {α : Type} {l : List α} {k : Nat} {x : α} (hx : l[k]? = some x) : l.take (k + 1) = l.take k ++ [x] := by
  obtain ⟨h1, e1⟩ := List.getElem?_eq_some_iff.1 hx
  rw [List.take_succ_eq_append_getElem h1, e1]
/-- one element more -/
theorem asc_step {l : List TS} {k : Nat} {x y : TS} (h : ascB (l.take (k + 1)) = true) (hx : l[k]? = some x) (hy : l[k + 1]? = some y) : ascB (l.take (k + 1 + 1)) = decide (x.1.1 < y.1.1) := by
  rw [take_two hx hy, ascB_snoc, ← take_one hx, h, Bool.true_and]
theorem asc_prefix : ∀ {l m : List TS}, ascB (l ++ m) = true → ascB l = true
  | [], m, h => rfl
  | [x], m, h => rfl
  | x :: y :: l, m, h => by
    simp only [List.cons_append, ascB, Bool.and_eq_true] at h ⊢
    exact ⟨h.1, asc_prefix (l := y :: l) (m := m) h.2⟩
theorem asc_no {l : List TS} {k : Nat} (h : ascB (l.take k) = false) : ascB l = false := by
  rw [Bool.eq_false_iff]
  intro e
  rw [← List.take_append_drop k l] at e
  rw [asc_prefix e] at h
  cases h
theorem all_take {α : Type} {p : α → Bool} {l : List α} {k : Nat} {x : α} (h : (l.take k).all p = true) (hx : l[k]? = some x) (h1 : p x = true) : (l.take (k + 1)).all p = true := by
  rw [take_one hx, List.all_append, h]
  simp [h1]
theorem all_no {α : Type} {p : α → Bool} {l : List α} {k : Nat} {x : α} (hx : l[k]? = some x) (h1 : p x = false) : l.all p = false := by
  rw [Bool.eq_false_iff]
  intro e
  rw [List.all_eq_true.1 e x (List.mem_of_getElem? hx)] at h1
  cases h1

theorem vr_len {l : List TS} (h : vrB l = true) : 1 ≤ l.length ∧ l.length ≤ 3 := by
  unfold vrB at h
  simp only [Bool.and_eq_true, decide_eq_true_eq] at h
  exact h.1
theorem vr_test {l : List TS} {t : TS} (h : vrB l = true) (ht : t ∈ l) : vtB t = true := by
  unfold vrB at h
  simp only [Bool.and_eq_true, decide_eq_true_eq] at h
  exact List.all_eq_true.1 h.2.1 t ht
theorem vs_len {R : List (List TS)} (h : vsB R = true) : 1 ≤ R.length ∧ R.length ≤ 3 := by
  unfold vsB at h
  simp only [Bool.and_eq_true, decide_eq_true_eq] at h
  exact h.1
theorem vs_rule {R : List (List TS)} {l : List TS} (h : vsB R = true) (hl : l ∈ R) : vrB l = true := by
  unfold vsB at h
  simp only [Bool.and_eq_true, decide_eq_true_eq] at h
  exact List.all_eq_true.1 h.2 l hl
theorem vr_bad {l : List TS} (h : ¬ (1 ≤ l.length ∧ l.length ≤ 3)) : vrB l = false := by unfold vrB; rw [decide_eq_false h, Bool.false_and]
theorem vr_ok {l : List TS} (h : 1 ≤ l.length ∧ l.length ≤ 3) : vrB l = (l.all vtB && ascB l) := by unfold vrB; rw [decide_eq_true h, Bool.true_and]
theorem vr_no {l : List TS} {k : Nat} {x : TS} (hx : l[k]? = some x) (h : vtB x = false) : vrB l = false := by unfold vrB; rw [all_no hx h, Bool.false_and, Bool.and_false]
theorem vr_nasc {l : List TS} {k : Nat} (h : ascB (l.take k) = false) : vrB l = false := by unfold vrB; rw [asc_no h, Bool.and_false, Bool.and_false]
theorem vs_bad {R : List (List TS)} (h : ¬ (1 ≤ R.length ∧ R.length ≤ 3)) : vsB R = false := by unfold vsB; rw [decide_eq_false h, Bool.false_and]
theorem vs_ok {R : List (List TS)} (h : 1 ≤ R.length ∧ R.length ≤ 3) : vsB R = R.all vrB := by unfold vsB; rw [decide_eq_true h, Bool.true_and]
theorem vs_no {R : List (List TS)} {k : Nat} {l : List TS} (hx : R[k]? = some l) (h : vrB l = false) : vsB R = false := by unfold vsB; rw [all_no hx h, Bool.and_false]
theorem vt_of {t : TS} (h : vtB t = true) : (0 ≤ t.1.1 ∧ t.1.1 ≤ 5) ∧ 1 ≤ t.1.2 ∧ t.1.2 ≤ 1000 := by
  unfold vtB featB thrB at h
  simp only [Bool.and_eq_true, decide_eq_true_eq] at h
  exact h
theorem vt_yes {t : TS} (h1 : 0 ≤ t.1.1 ∧ t.1.1 ≤ 5) (h2 : 1 ≤ t.1.2 ∧ t.1.2 ≤ 1000) : vtB t = true := by unfold vtB featB thrB; rw [decide_eq_true h1, decide_eq_true h2]; rfl
theorem vt_feat {t : TS} (h : ¬ (0 ≤ t.1.1 ∧ t.1.1 ≤ 5)) : vtB t = false := by unfold vtB featB; rw [decide_eq_false h, Bool.false_and]
theorem vt_thr {t : TS} (h : ¬ (1 ≤ t.1.2 ∧ t.1.2 ≤ 1000)) : vtB t = false := by unfold vtB thrB; rw [decide_eq_false h, Bool.and_false]

end Go.Proofs.Ytookcggmapldeaa
