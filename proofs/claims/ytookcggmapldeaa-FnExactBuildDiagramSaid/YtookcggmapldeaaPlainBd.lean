/-
  How a diagram is built, in plain lists. By an AI agent.
-/
import Derived.Test.YtookcggmapldeaaPlainVar
import Derived.Test.YtookcggmapldeaaPlainDg
namespace Go.Proofs.Ytookcggmapldeaa
open Go.RowKit
set_option linter.unusedVariables false
set_option linter.unusedSimpArgs false
set_option linter.unnecessarySimpa false

/-! ### values of variables as bits -/
def natOf : List Bool → Nat
  | [] => 0
  | b :: bs => (if b then 1 else 0) + 2 * natOf bs
theorem natOf_snoc (b : Bool) : ∀ bs : List Bool, natOf (bs ++ [b]) = natOf bs + (if b then 2 ^ bs.length else 0)
  | [] => by cases b <;> rfl
  | c :: bs => by
    rw [List.cons_append, natOf, natOf_snoc b bs, natOf, List.length_cons]
    cases b
    · simp
    · simp only [if_true, Nat.pow_succ]
      omega
theorem natOf_lt : ∀ bs : List Bool, natOf bs < 2 ^ bs.length
  | [] => by decide
  | c :: bs => by
    have h := natOf_lt bs
    rw [natOf, List.length_cons, Nat.pow_succ]
    split <;> omega
theorem natOf_bit : ∀ {bs : List Bool} {v : Nat} {b : Bool}, bs[v]? = some b → natOf bs / 2 ^ v % 2 = if b then 1 else 0
  | [], v, b, h => by simp at h
  | c :: bs, 0, b, h => by
    simp at h
    subst h
    rw [natOf, Nat.pow_zero, Nat.div_one]
    split <;> omega
  | c :: bs, v + 1, b, h => by
    have h1 := natOf_bit (bs := bs) (v := v) (b := b) (by simpa using h)
    rw [natOf, Nat.pow_succ, Nat.mul_comm (2 ^ v) 2, ← Nat.div_div_eq_div_mul]
    have : ((if c = true then 1 else 0) + 2 * natOf bs) / 2 = natOf bs := by split <;> omega
    rw [this]
    exact h1

/-! ### the value of the rules -/
def teB (V : List IQ) (bs : List Bool) (t : TS) : Bool := (V.zip bs).all fun q => !(q.1 == t.1 && q.2 == t.2)
def vaR (R : List (List TS)) (V : List IQ) (bs : List Bool) : Bool := R.any fun l => l.all (teB V bs)

/-! ### the nodes -/
def refD (x : DN) (D : List DN) : Int × List DN :=
  if x.2.1 = x.2.2 then (x.2.1, D) else if D.contains x then ((D.idxOf x : Int) + 2, D) else ((D.length : Int) + 2, D ++ [x])
def bldD (R : List (List TS)) (V : List IQ) : Nat → List Bool → List DN → Int × List DN
  | 0, bs, D => (if vaR R V bs then 1 else 0, D)
  | n + 1, bs, D => refD (V.getD bs.length (0, 0), ((bldD R V n (bs ++ [false]) D).1, (bldD R V n (bs ++ [true]) (bldD R V n (bs ++ [false]) D).2).1)) (bldD R V n (bs ++ [true]) (bldD R V n (bs ++ [false]) D).2).2
theorem bld_step {R : List (List TS)} {V : List IQ} {n : Nat} {bs : List Bool} {D D1 D2 : List DN} {x1 x2 : Int} (h1 : bldD R V n (bs ++ [false]) D = (x1, D1)) (h2 : bldD R V n (bs ++ [true]) D1 = (x2, D2)) : bldD R V (n + 1) bs D = refD (V.getD bs.length (0, 0), (x1, x2)) D2 := by
  rw [bldD, h1, h2]
theorem ref_same {x : DN} {D : List DN} (h : x.2.1 = x.2.2) : refD x D = (x.2.1, D) := if_pos h
theorem ref_old {x : DN} {D : List DN} {i : Nat} (h : x.2.1 ≠ x.2.2) (hi : D[i]? = some x) (hn : (D.take i).contains x = false) : refD x D = ((i : Int) + 2, D) := by
  unfold refD
  have hm := List.mem_of_getElem? hi
  rw [if_neg h, if_pos (List.contains_iff_mem.2 hm)]
  have hlt := (List.getElem?_eq_some_iff.1 hi).1
  have e : D.idxOf x = i := by
    have h1 : D = D.take i ++ x :: D.drop (i + 1) := by
      conv => lhs; rw [← List.take_append_drop i D]
      rw [List.drop_eq_getElem_cons hlt, (List.getElem?_eq_some_iff.1 hi).2]
    have h2 : x ∉ D.take i := fun hm => by rw [List.contains_iff_mem.2 hm] at hn; cases hn
    rw [h1, List.idxOf_append, if_neg h2, List.idxOf_cons_self, List.length_take]
    omega
  rw [e]
theorem ref_new {x : DN} {D : List DN} (h : x.2.1 ≠ x.2.2) (hn : D.contains x = false) : refD x D = ((D.length : Int) + 2, D ++ [x]) := by
  unfold refD
  rw [if_neg h, hn]
  rfl
theorem ref_len (x : DN) (D : List DN) : (refD x D).2.length ≤ D.length + 1 ∧ D.length ≤ (refD x D).2.length := by
  unfold refD
  split
  · simp
  · split <;> simp
theorem ref_range {x : DN} {D : List DN} (h : 0 ≤ x.2.1 ∧ x.2.1 ≤ (D.length : Int) + 1) : 0 ≤ (refD x D).1 ∧ (refD x D).1 ≤ ((refD x D).2.length : Int) + 1 := by
  unfold refD
  split
  · exact h
  · split
    · rename_i hc
      have := List.idxOf_lt_length_of_mem (List.contains_iff_mem.1 hc)
      show 0 ≤ ((D.idxOf x : Nat) : Int) + 2 ∧ ((D.idxOf x : Nat) : Int) + 2 ≤ (D.length : Int) + 1
      omega
    · show 0 ≤ (D.length : Int) + 2 ∧ (D.length : Int) + 2 ≤ ((D ++ [x]).length : Int) + 1
      simp
      omega
/-- the most nodes that are appended -/
def cst : Nat → Nat
  | 0 => 0
  | n + 1 => 2 * cst n + 1
theorem bld_len (R : List (List TS)) (V : List IQ) : ∀ (n : Nat) (bs : List Bool) (D : List DN), (bldD R V n bs D).2.length ≤ D.length + cst n ∧ D.length ≤ (bldD R V n bs D).2.length
  | 0, bs, D => by simp [bldD, cst]
  | n + 1, bs, D => by
    have h1 := bld_len R V n (bs ++ [false]) D
    have h2 := bld_len R V n (bs ++ [true]) (bldD R V n (bs ++ [false]) D).2
    have h3 := ref_len (V.getD bs.length (0, 0), ((bldD R V n (bs ++ [false]) D).1, (bldD R V n (bs ++ [true]) (bldD R V n (bs ++ [false]) D).2).1)) (bldD R V n (bs ++ [true]) (bldD R V n (bs ++ [false]) D).2).2
    rw [bldD, cst]
    omega
theorem bld_range (R : List (List TS)) (V : List IQ) : ∀ (n : Nat) (bs : List Bool) (D : List DN), 0 ≤ (bldD R V n bs D).1 ∧ (bldD R V n bs D).1 ≤ ((bldD R V n bs D).2.length : Int) + 1
  | 0, bs, D => by
    show 0 ≤ (if vaR R V bs then (1 : Int) else 0) ∧ (if vaR R V bs then (1 : Int) else 0) ≤ (D.length : Int) + 1
    split <;> omega
  | n + 1, bs, D => by
    have h1 := bld_range R V n (bs ++ [false]) D
    have h2 := (bld_len R V n (bs ++ [true]) (bldD R V n (bs ++ [false]) D).2).2
    rw [bldD]
    refine ref_range ?_
    show 0 ≤ (bldD R V n (bs ++ [false]) D).1 ∧ (bldD R V n (bs ++ [false]) D).1 ≤ _
    omega
theorem cst_le : ∀ {n : Nat}, n ≤ 9 → cst n ≤ 511
  | 0, _ => by decide
  | 1, _ => by decide
  | 2, _ => by decide
  | 3, _ => by decide
  | 4, _ => by decide
  | 5, _ => by decide
  | 6, _ => by decide
  | 7, _ => by decide
  | 8, _ => by decide
  | 9, _ => by decide
  | n + 10, h => by omega
def bdR (R : List (List TS)) : (Int × List DN) × Bool := if vsB R then (bldD R (varsL R) (varsL R).length [] [], true) else ((0, []), false)
theorem bd_len (R : List (List TS)) : (bdR R).1.2.length ≤ 511 := by
  unfold bdR
  cases h : vsB R
  · simp
  · rw [if_pos rfl]
    have h1 := (bld_len R (varsL R) (varsL R).length [] []).1
    have h2 := cst_le (vars_len9 h)
    simp only [List.length_nil] at h1
    show (bldD R (varsL R) (varsL R).length [] []).2.length ≤ 511
    omega

end Go.Proofs.Ytookcggmapldeaa
