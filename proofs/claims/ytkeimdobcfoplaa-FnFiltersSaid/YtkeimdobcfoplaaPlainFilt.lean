/-
  Plain facts on grams and edits, without the program: a list's lack in another, at most q grams are lost by one edit, greedy partners. By an AI agent.
-/
import Derived.Test.YtkeimdobcfoplaaPlainEdit
import Derived.Test.YtkeimdobcfoplaaPlainTok
namespace Go.Proofs.Ytkeimdobcfoplaa
open Go

/-! what lacks of one list in another -/

/-- all but n elements of A have partners in B -/
def Lack (A B : List Str) (n : Nat) : Prop := ∃ M : List Str, M.length ≤ n ∧ ∀ x, A.count x ≤ B.count x + M.count x

theorem Lack.same (A : List Str) : Lack A A 0 := ⟨[], by simp, fun x => by simp⟩
theorem Lack.trans {A B C : List Str} {n m : Nat} (h : Lack A B n) (k : Lack B C m) : Lack A C (n + m) := by
  obtain ⟨M, hM, h1⟩ := h
  obtain ⟨N, hN, h2⟩ := k
  refine ⟨N ++ M, by rw [List.length_append]; omega, fun x => ?_⟩
  have a := h1 x
  have b := h2 x
  rw [List.count_append]
  omega
theorem Lack.mono {A B : List Str} {n m : Nat} (h : Lack A B n) (k : n ≤ m) : Lack A B m := by
  obtain ⟨M, hM, h1⟩ := h
  exact ⟨M, Nat.le_trans hM k, h1⟩

theorem lack_len {B : List Str} (A : List Str) : ∀ n, Lack A B n → A.length ≤ cgL A B + n := by
  induction A using snoc_ind2 with
  | h0 => intro n _; simp
  | h1 A x ih =>
    rintro n ⟨M, hM, h⟩
    rw [cg_snoc, List.length_append]
    have hx := h x
    rw [count_snoc, if_pos rfl] at hx
    by_cases hlt : A.count x < B.count x
    · rw [if_pos hlt]
      have := ih n ⟨M, hM, fun y => by have := h y; rw [count_snoc] at this; omega⟩
      simp
      omega
    · rw [if_neg hlt]
      have hm : 0 < M.count x := by omega
      have hin : x ∈ M := List.count_pos_iff.1 hm
      have hl : 0 < M.length := List.length_pos_of_mem hin
      have e := List.length_erase_of_mem hin
      have := ih (n - 1) ⟨M.erase x, by omega, fun y => by
        have hy := h y
        rw [count_snoc] at hy
        rw [List.count_erase]
        by_cases e2 : x = y
        · subst e2
          rw [if_pos rfl] at hy
          simp
          omega
        · rw [if_neg e2] at hy
          have e3 : (x == y) = false := by simpa using e2
          rw [e3]
          simp
          omega⟩
      simp
      omega
theorem cg_lack (A B : List Str) : Lack A B (A.length - cgL A B) := by
  induction A using snoc_ind2 with
  | h0 => exact ⟨[], by simp, fun x => by simp⟩
  | h1 A x ih =>
    obtain ⟨M, hM, h⟩ := ih
    have hle := cg_le A B
    rw [cg_snoc, List.length_append]
    by_cases hlt : A.count x < B.count x
    · rw [if_pos hlt]
      refine ⟨M, by simp; omega, fun y => ?_⟩
      have hy := h y
      rw [count_snoc]
      by_cases e : x = y
      · subst e
        rw [if_pos rfl]
        omega
      · rw [if_neg e]
        omega
    · rw [if_neg hlt]
      refine ⟨M ++ [x], by simp; omega, fun y => ?_⟩
      have hy := h y
      rw [count_snoc, count_snoc]
      omega
theorem cg_perm_le {A A' B B' : List Str} (h : A.Perm A') (k : B.Perm B') : cgL A B ≤ cgL A' B' := by
  have h1 := cg_lack A B
  have h2 : Lack A' B' (A.length - cgL A B) := by
    obtain ⟨M, hM, hc⟩ := h1
    exact ⟨M, hM, fun x => by rw [← h.count_eq x, ← k.count_eq x]; exact hc x⟩
  have h3 := lack_len A' _ h2
  have h4 := cg_le A B
  have h5 := h.length_eq
  omega
theorem cg_perm {A A' B B' : List Str} (h : A.Perm A') (k : B.Perm B') : cgL A B = cgL A' B' := Nat.le_antisymm (cg_perm_le h k) (cg_perm_le h.symm k.symm)
theorem cg_sort (A B : List Str) : cgL (sortL A) (sortL B) = cgL A B := cg_perm (sortL_perm A) (sortL_perm B)

/-! the grams of a string that is put together -/

theorem grams_nil {q : Nat} (hq : 0 < q) : gramsL [] q = [] := by
  unfold gramsL
  rw [show ([] : Str).length + 1 - q = 0 by simp; omega]
  rfl
theorem grams_few {s : Str} {q : Nat} (h : s.length < q) : gramsL s q = [] := by
  unfold gramsL
  rw [show s.length + 1 - q = 0 by omega]
  rfl
theorem grams_cons (x : UInt8) (s : Str) {q : Nat} (h : q ≤ s.length + 1) : gramsL (x :: s) q = (x :: s).take q :: gramsL s q := by
  unfold gramsL
  rw [show (x :: s).length + 1 - q = (s.length + 1 - q) + 1 by simp; omega, List.range_succ_eq_map]
  simp [Function.comp_def]
theorem grams_count_cons (x : UInt8) (s : Str) {q : Nat} (z : Str) : (gramsL s q).count z ≤ (gramsL (x :: s) q).count z := by
  by_cases h : q ≤ s.length + 1
  · rw [grams_cons x s h, List.count_cons]
    omega
  · rw [grams_few (s := s) (by omega)]
    simp
theorem grams_parts {q : Nat} (hq : 0 < q) (z : Str) (s : Str) : ∀ p : Str, (gramsL p q).count z + (gramsL s q).count z ≤ (gramsL (p ++ s) q).count z
  | [] => by rw [grams_nil hq]; simp
  | c :: p => by
    have ih := grams_parts hq z s p
    by_cases h : q ≤ p.length + 1
    · rw [grams_cons c p h, List.cons_append, grams_cons c (p ++ s) (by rw [List.length_append]; omega), List.count_cons, List.count_cons]
      have e : (c :: (p ++ s)).take q = (c :: p).take q := by rw [← List.cons_append, List.take_append_of_le_length (by simp; omega)]
      rw [e]
      omega
    · rw [grams_few (s := c :: p) (by simp; omega), List.cons_append]
      have := grams_count_cons (q := q) c (p ++ s) z
      have e : (gramsL p q).count z + (gramsL s q).count z ≤ (gramsL (p ++ s) q).count z := ih
      simp
      omega
theorem grams_split {q : Nat} (hq : 0 < q) (x : UInt8) (s : Str) : ∀ p : Str, ∃ M : List Str, M.length ≤ min (p.length + 1) q ∧ ∀ z, (gramsL (p ++ x :: s) q).count z ≤ (gramsL p q).count z + (gramsL s q).count z + M.count z
  | [] => by
    by_cases h : q ≤ s.length + 1
    · refine ⟨[(x :: s).take q], by simp; omega, fun z => ?_⟩
      rw [List.nil_append, grams_cons x s h, grams_nil hq, List.count_cons, List.count_cons]
      simp
    · refine ⟨[], by simp, fun z => ?_⟩
      rw [List.nil_append, grams_few (s := x :: s) (by simp; omega)]
      simp
  | c :: p => by
    obtain ⟨M, hM, h⟩ := grams_split hq x s p
    by_cases hl : q ≤ p.length + 1
    · refine ⟨M, by simp; omega, fun z => ?_⟩
      have hz := h z
      rw [grams_cons c p hl, List.cons_append, grams_cons c (p ++ x :: s) (by rw [List.length_append]; omega), List.count_cons, List.count_cons]
      have e : (c :: (p ++ x :: s)).take q = (c :: p).take q := by rw [← List.cons_append, List.take_append_of_le_length (by simp; omega)]
      rw [e]
      omega
    · have hp : gramsL (c :: p) q = [] := grams_few (by simp; omega)
      have hp2 : gramsL p q = [] := grams_few (by omega)
      by_cases hb : q ≤ (p ++ x :: s).length + 1
      · refine ⟨(c :: (p ++ x :: s)).take q :: M, by simp; omega, fun z => ?_⟩
        have hz := h z
        rw [hp2] at hz
        rw [hp, List.cons_append, grams_cons c _ hb, List.count_cons, List.count_cons]
        simp at hz ⊢
        omega
      · refine ⟨[], by simp, fun z => ?_⟩
        rw [List.cons_append, grams_few (s := c :: (p ++ x :: s)) (by simp at hb ⊢; omega)]
        simp

/-- one edit loses at most q grams -/
theorem lack_put {q : Nat} (hq : 0 < q) (p s : Str) (y : UInt8) : Lack (gramsL (p ++ s) q) (gramsL (p ++ y :: s) q) q := by
  cases s with
  | nil =>
    refine ⟨[], by simp, fun z => ?_⟩
    have := grams_parts hq z [y] p
    rw [List.append_nil]
    simp
    omega
  | cons x s =>
    obtain ⟨M, hM, h⟩ := grams_split hq x s p
    refine ⟨M, by omega, fun z => ?_⟩
    have h1 := h z
    have h2 := grams_parts hq z (y :: x :: s) p
    have h3 := grams_count_cons (q := q) y (x :: s) z
    have h4 := grams_count_cons (q := q) x s z
    omega
theorem lack_drop {q : Nat} (hq : 0 < q) (p s : Str) (x : UInt8) : Lack (gramsL (p ++ x :: s) q) (gramsL (p ++ s) q) q := by
  obtain ⟨M, hM, h⟩ := grams_split hq x s p
  refine ⟨M, by omega, fun z => ?_⟩
  have h1 := h z
  have h2 := grams_parts hq z s p
  omega
theorem lack_swap {q : Nat} (hq : 0 < q) (p s : Str) (x y : UInt8) : Lack (gramsL (p ++ x :: s) q) (gramsL (p ++ y :: s) q) q := by
  obtain ⟨M, hM, h⟩ := grams_split hq x s p
  refine ⟨M, by omega, fun z => ?_⟩
  have h1 := h z
  have h2 := grams_parts hq z (y :: s) p
  have h3 := grams_count_cons (q := q) y s z
  omega

theorem lack_al {q : Nat} (hq : 0 < q) {a b : List UInt8} {n : Nat} (h : Al false a b n) : ∀ p : Str, Lack (gramsL (p ++ a) q) (gramsL (p ++ b) q) (q * n) := by
  induction h with
  | nil => intro p; exact (Lack.same _).mono (Nat.zero_le _)
  | keep x h ih =>
    intro p
    have := ih (p ++ [x])
    simpa using this
  | @rep x y a b n h ih =>
    intro p
    have h1 := lack_swap hq p a x y
    have h2 := ih (p ++ [y])
    simp only [List.append_assoc, List.singleton_append] at h2
    have h3 := h1.trans h2
    rw [Nat.mul_succ, Nat.add_comm]
    exact h3
  | @del x a b n h ih =>
    intro p
    have h3 := (lack_drop hq p a x).trans (ih p)
    rw [Nat.mul_succ, Nat.add_comm]
    exact h3
  | @ins y a b n h ih =>
    intro p
    rw [Nat.mul_succ]
    exact (ih p).trans (lack_put hq p b y)
  | exch x y e h ih => cases e

theorem lack_lev {q : Nat} (hq : 0 < q) (a b : List UInt8) : Lack (gramsL a q) (gramsL b q) (q * lev false a b) := lack_al hq (Al.of_lev false a b) []
/-- strings that are n edits apart have all but q*n grams in common -/
theorem grams_near {q : Nat} (hq : 0 < q) (a b : List UInt8) : max a.length b.length + 1 ≤ cgL (gramsL a q) (gramsL b q) + q + q * lev false a b := by
  have h1 := lack_len _ _ (lack_lev hq a b)
  have h2 := lack_len _ _ (lack_lev hq b a)
  rw [cg_comm, lev_symm] at h2
  rw [grams_len] at h1 h2
  omega

/-! partners that are found one after another -/

/-- so many partners with the value x are taken -/
def tkC : List Str → List Bool → Str → Nat
  | y :: g, b :: t, x => (if b = true ∧ y = x then 1 else 0) + tkC g t x
  | _, _, _ => 0
theorem tk_none (g : List Str) (x : Str) : ∀ n, tkC g (List.replicate n false) x = 0 := by
  induction g with
  | nil => intro n; simp [tkC]
  | cons y g ih =>
    intro n
    cases n with
    | zero => simp [tkC]
    | succ n => rw [List.replicate_succ, tkC, ih]; simp
theorem tk_le (x : Str) : ∀ (g : List Str) (t : List Bool), tkC g t x ≤ g.count x
  | [], t => by simp [tkC]
  | y :: g, [] => by simp [tkC]
  | y :: g, b :: t => by
    have := tk_le x g t
    rw [tkC, List.count_cons]
    by_cases e : y = x
    · subst e
      simp
      split <;> omega
    · have e2 : (y == x) = false := by simpa using e
      rw [e2]
      simp [e]
      exact this
theorem tk_all (x : Str) : ∀ (g : List Str) (t : List Bool), g.length ≤ t.length → (∀ j : Nat, g[j]? = some x → t[j]? = some true) → tkC g t x = g.count x
  | [], t, _, _ => by simp [tkC]
  | y :: g, [], h, _ => by simp at h
  | y :: g, b :: t, h, hj => by
    have ih := tk_all x g t (by simpa using h) (fun j e => by have := hj (j + 1) (by simpa using e); simpa using this)
    rw [tkC, List.count_cons, ih]
    by_cases e : y = x
    · have hb := hj 0 (by simp [e])
      simp at hb
      simp [e, hb]
      omega
    · have e2 : (y == x) = false := by simpa using e
      rw [e2]
      simp [e]
theorem tk_lt (x : Str) : ∀ (g : List Str) (t : List Bool) (j : Nat), g[j]? = some x → t[j]? = some false → tkC g t x < g.count x
  | [], t, j, h, _ => by simp at h
  | y :: g, [], j, _, h => by simp at h
  | y :: g, b :: t, 0, h, k => by
    simp at h k
    have := tk_le x g t
    rw [tkC, List.count_cons]
    simp [h, k]
    omega
  | y :: g, b :: t, j + 1, h, k => by
    have := tk_lt x g t j (by simpa using h) (by simpa using k)
    rw [tkC, List.count_cons]
    by_cases e : y = x
    · subst e
      simp
      split <;> omega
    · have e2 : (y == x) = false := by simpa using e
      rw [e2]
      simp [e]
      exact this
theorem tk_set (x y : Str) : ∀ (g : List Str) (t : List Bool) (j : Nat), g[j]? = some x → t[j]? = some false → tkC g (t.set j true) y = tkC g t y + if x = y then 1 else 0
  | [], t, j, h, _ => by simp at h
  | z :: g, [], j, _, h => by simp at h
  | z :: g, b :: t, 0, h, k => by
    simp at h k
    subst h k
    rw [List.set_cons_zero, tkC, tkC]
    simp
    split <;> omega
  | z :: g, b :: t, j + 1, h, k => by
    have := tk_set x y g t j (by simpa using h) (by simpa using k)
    rw [List.set_cons_succ, tkC, tkC, this]
    omega

/-- the elements of l have found the partners t in g -/
def Took (g : List Str) (t : List Bool) (l : List Str) : Prop := ∀ x, tkC g t x = min (l.count x) (g.count x)
theorem Took.start (g : List Str) (n : Nat) : Took g (List.replicate n false) [] := fun x => by rw [tk_none]; simp
theorem Took.yes {g : List Str} {t : List Bool} {l : List Str} {x : Str} {j : Nat} (h : Took g t l) (h1 : g[j]? = some x) (h2 : t[j]? = some false) : l.count x < g.count x ∧ Took g (t.set j true) (l ++ [x]) := by
  have h3 := tk_lt x g t j h1 h2
  have h4 := h x
  refine ⟨by omega, fun y => ?_⟩
  rw [tk_set x y g t j h1 h2, h y, count_snoc]
  by_cases e : x = y
  · subst e
    simp only [if_true]
    omega
  · simp only [if_neg e]
    omega
theorem Took.no {g : List Str} {t : List Bool} {l : List Str} {x : Str} (h : Took g t l) (ht : g.length ≤ t.length) (h1 : ∀ j : Nat, g[j]? = some x → t[j]? = some true) : ¬ l.count x < g.count x ∧ Took g t (l ++ [x]) := by
  have h3 := tk_all x g t ht h1
  have h4 := h x
  refine ⟨by omega, fun y => ?_⟩
  rw [h y, count_snoc]
  by_cases e : x = y
  · subst e
    simp only [if_true]
    omega
  · simp only [if_neg e]
    omega
theorem cg_rest (l r g : List Str) : cgL (l ++ r) g ≤ cgL l g + r.length := by
  induction r using snoc_ind2 with
  | h0 => simp
  | h1 r x ih =>
    rw [← List.append_assoc, cg_snoc, List.length_append]
    split <;> simp <;> omega
theorem cg_take (l g : List Str) (k : Nat) : cgL l g ≤ cgL (l.take k) g + (l.length - k) := by
  have h := cg_rest (l.take k) (l.drop k) g
  rw [List.take_append_drop, List.length_drop] at h
  exact h

end Go.Proofs.Ytkeimdobcfoplaa
