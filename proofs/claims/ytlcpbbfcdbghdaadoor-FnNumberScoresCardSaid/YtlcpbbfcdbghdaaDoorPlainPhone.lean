/-
  The digits of a text, the longest common suffix and the score of two phones: plain facts. By an AI agent.
-/
import Derived.Test.YtlcpbbfcdbghdaaDoorPlainNorm
namespace Go.Proofs.YtlcpbbfcdbghdaaDoor

def digB (c : UInt8) : Bool := decide (48 ≤ c.toNat ∧ c.toNat ≤ 57)
def digL (l : List UInt8) : List UInt8 := l.filter digB
theorem digL_yes {l : List UInt8} {c : UInt8} (h1 : 48 ≤ c.toNat) (h2 : c.toNat ≤ 57) : digL (l ++ [c]) = digL l ++ [c] := by simp [digL, digB, h1, h2]
theorem digL_no {l : List UInt8} {c : UInt8} (h : ¬ (48 ≤ c.toNat ∧ c.toNat ≤ 57)) : digL (l ++ [c]) = digL l := by simp only [digL, List.filter_append]; simp [digB, h]
theorem digL_length (l : List UInt8) : (digL l).length ≤ l.length := List.length_filter_le _ _

/-- k is the length of the longest common suffix -/
def IsSuf (x y : List UInt8) (k : Nat) : Prop :=
  k ≤ x.length ∧ k ≤ y.length ∧ (∀ j, j < k → x.reverse[j]? = y.reverse[j]?) ∧ (k = x.length ∨ k = y.length ∨ x.reverse[k]? ≠ y.reverse[k]?)

theorem IsSuf.symm {x y : List UInt8} {k : Nat} (h : IsSuf x y k) : IsSuf y x k :=
  ⟨h.2.1, h.1, fun j hj => (h.2.2.1 j hj).symm, by rcases h.2.2.2 with e | e | e; exact .inr (.inl e); exact .inl e; exact .inr (.inr (fun c => e c.symm))⟩

/-- the common prefix -/
def comN : List UInt8 → List UInt8 → Nat
  | a :: l, b :: m => if a = b then comN l m + 1 else 0
  | _, _ => 0

theorem comN_spec : ∀ x y : List UInt8, comN x y ≤ x.length ∧ comN x y ≤ y.length ∧ (∀ j, j < comN x y → x[j]? = y[j]?) ∧ (comN x y = x.length ∨ comN x y = y.length ∨ x[comN x y]? ≠ y[comN x y]?)
  | [], y => ⟨Nat.le_refl _, Nat.zero_le _, fun j hj => absurd hj (Nat.not_lt_zero _), .inl rfl⟩
  | a :: l, [] => ⟨Nat.zero_le _, Nat.le_refl _, fun j hj => absurd hj (Nat.not_lt_zero _), .inr (.inl rfl)⟩
  | a :: l, b :: m => by
    obtain ⟨h1, h2, h3, h4⟩ := comN_spec l m
    by_cases h : a = b
    · have e : comN (a :: l) (b :: m) = comN l m + 1 := by simp [comN, h]
      rw [e]
      refine ⟨by simpa using h1, by simpa using h2, fun j hj => ?_, ?_⟩
      · cases j with
        | zero => simp [h]
        | succ j => simpa using h3 j (by omega)
      · rcases h4 with e | e | e
        · exact .inl (by simp [e])
        · exact .inr (.inl (by simp [e]))
        · exact .inr (.inr (by simpa using e))
    · have e : comN (a :: l) (b :: m) = 0 := by simp [comN, h]
      rw [e]
      exact ⟨Nat.zero_le _, Nat.zero_le _, fun j hj => absurd hj (Nat.not_lt_zero _), .inr (.inr (by simp [h]))⟩

def sufN (x y : List UInt8) : Nat := comN x.reverse y.reverse
theorem sufN_is (x y : List UInt8) : IsSuf x y (sufN x y) := by
  have h := comN_spec x.reverse y.reverse
  simpa [IsSuf, sufN] using h

theorem IsSuf.unique {x y : List UInt8} {j k : Nat} (h : IsSuf x y j) (h' : IsSuf x y k) : j = k := by
  obtain ⟨a1, a2, a3, a4⟩ := h
  obtain ⟨b1, b2, b3, b4⟩ := h'
  rcases Nat.lt_trichotomy j k with hlt | e | hlt
  · rcases a4 with e | e | e
    · omega
    · omega
    · exact absurd (b3 j hlt) e
  · exact e
  · rcases b4 with e | e | e
    · omega
    · omega
    · exact absurd (a3 k hlt) e
theorem sufN_symm (x y : List UInt8) : sufN x y = sufN y x := (sufN_is x y).unique (sufN_is y x).symm

theorem rev_at {x : List UInt8} {j : Nat} (h : j < x.length) : x.reverse[j]? = x[x.length - 1 - j]? := List.getElem?_reverse h

/-- both are wholly common: they are equal -/
theorem suf_eq {x y : List UInt8} {k : Nat} (h : IsSuf x y k) : x = y ↔ k = x.length ∧ k = y.length := by
  constructor
  · rintro rfl
    rcases h.2.2.2 with e | e | e
    · exact ⟨e, e⟩
    · exact ⟨e, e⟩
    · exact absurd rfl e
  · rintro ⟨h1, h2⟩
    have e : x.reverse = y.reverse := by
      apply List.ext_getElem?
      intro j
      by_cases hj : j < k
      · exact h.2.2.1 j hj
      · rw [List.getElem?_eq_none (by simp; omega), List.getElem?_eq_none (by simp; omega)]
    simpa using congrArg List.reverse e

/-- the score, n the length of the common suffix -/
def phN (p q n : Nat) : Int := if p < 4 ∨ q < 4 ∨ n < 4 then 0 else if n = p ∧ n = q then 1000 else if 7 ≤ n ∨ n = p ∨ n = q then 800 else 400
def phR (x y : List UInt8) : Int := phN x.length y.length (sufN x y)
theorem phN_symm (p q n : Nat) : phN p q n = phN q p n := by
  unfold phN
  (repeat' split) <;> omega
theorem phR_symm (x y : List UInt8) : phR x y = phR y x := by
  unfold phR
  rw [phN_symm, sufN_symm]

end Go.Proofs.YtlcpbbfcdbghdaaDoor
