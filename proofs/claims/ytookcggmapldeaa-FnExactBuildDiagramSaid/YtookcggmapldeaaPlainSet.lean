/-
  Lists of strings in order: plain facts without the program. By an AI agent.
-/
import Derived.WalkKit
import Derived.Sort.KeysCollected
namespace Go.Proofs.Ytookcggmapldeaa
open Go

abbrev Str := List UInt8

theorem str_lt_of {x y : Str} (h : x ≤ y) (hne : x ≠ y) : x < y := by
  by_cases hl : x < y
  · exact hl
  · exact absurd (List.le_antisymm h (List.not_lt.1 hl)) hne
theorem str_le_of {x y : Str} (h : x < y) : x ≤ y := List.le_of_lt h
theorem str_ne_of {x y : Str} (h : x < y) : x ≠ y := fun e => by subst e; exact List.lt_irrefl x h
theorem str_lt_trans {x y z : Str} (h : x < y) (k : y < z) : x < z := List.lt_trans h k
theorem str_le_trans {x y z : Str} (h : x ≤ y) (k : y ≤ z) : x ≤ z := List.le_trans h k

/-- one string more in an ascending list -/
def putL (tw : Bool) : List Str → Str → List Str
  | [], s => [s]
  | x :: l, s => if x < s then x :: putL tw l s else if tw = false ∧ x = s then x :: l else s :: x :: l

theorem putL_front (tw : Bool) (s : Str) : ∀ (l : List Str) (k : Nat), (∀ j x, l[j]? = some x → j < k → x < s) → putL tw l s = l.take k ++ putL tw (l.drop k) s := by
  intro l
  induction l with
  | nil => intro k _; simp
  | cons x l ih =>
    intro k h
    cases k with
    | zero => simp
    | succ k =>
      have h0 := h 0 x (by simp) (by omega)
      have h1 := ih k (fun j y hj hlt => h (j + 1) y (by simpa using hj) (by omega))
      simp only [putL, if_pos h0, List.take_succ_cons, List.drop_succ_cons, List.cons_append, h1]

theorem putL_same {s : Str} {l : List Str} {k : Nat} (h : ∀ j x, l[j]? = some x → j < k → x < s) (hk : l[k]? = some s) : putL false l s = l := by
  obtain ⟨hlt, he⟩ := List.getElem?_eq_some_iff.1 hk
  rw [putL_front false s l k h, List.drop_eq_getElem_cons hlt, he]
  simp only [putL, if_neg (List.lt_irrefl s), and_self, if_true]
  rw [← he, ← List.drop_eq_getElem_cons hlt, List.take_append_drop]

theorem putL_new {tw : Bool} {s : Str} {l : List Str} {k : Nat} (h : ∀ j x, l[j]? = some x → j < k → x < s) (hn : ∀ x, l[k]? = some x → ¬ x < s ∧ (tw = true ∨ x ≠ s)) : putL tw l s = l.take k ++ s :: l.drop k := by
  rw [putL_front tw s l k h]
  congr 1
  rcases Nat.lt_or_ge k l.length with hlt | hge
  · rw [List.drop_eq_getElem_cons hlt]
    obtain ⟨h1, h2⟩ := hn l[k] (List.getElem?_eq_getElem hlt)
    have h3 : ¬ (tw = false ∧ l[k] = s) := by
      rintro ⟨e1, e2⟩
      rcases h2 with h2 | h2
      · rw [e1] at h2; cases h2
      · exact h2 e2
    simp only [putL, if_neg h1, if_neg h3]
  · rw [List.drop_eq_nil_of_le hge]
    rfl

def Asc (l : List Str) : Prop := l.Pairwise (· < ·)

theorem putL_mem (tw : Bool) (s y : Str) (l : List Str) : y ∈ putL tw l s ↔ y = s ∨ y ∈ l := by
  induction l with
  | nil => simp [putL]
  | cons x l ih =>
    unfold putL
    split
    · simp only [List.mem_cons, ih]
      constructor
      · rintro (h | h | h) <;> simp [h]
      · rintro (h | h | h) <;> simp [h]
    · split
      · rename_i h
        obtain ⟨_, rfl⟩ := h
        simp
      · simp

theorem putL_asc {s : Str} {l : List Str} (h : Asc l) : Asc (putL false l s) := by
  induction l with
  | nil => simp [putL, Asc]
  | cons x l ih =>
    obtain ⟨h1, h2⟩ := List.pairwise_cons.1 h
    unfold putL
    split
    · rename_i hx
      refine List.pairwise_cons.2 ⟨fun y hy => ?_, ih h2⟩
      rcases (putL_mem false s y l).1 hy with rfl | hy
      · exact hx
      · exact h1 y hy
    · rename_i hx
      split
      · exact h
      · rename_i hne
        have hsx : s < x := str_lt_of (List.not_lt.1 hx) (fun e => hne ⟨rfl, e.symm⟩)
        refine List.pairwise_cons.2 ⟨fun y hy => ?_, h⟩
        rcases List.mem_cons.1 hy with rfl | hy
        · exact hsx
        · exact str_lt_trans hsx (h1 y hy)

theorem putL_sorted {s : Str} {l : List Str} (h : l.Pairwise (· ≤ ·)) : (putL true l s).Pairwise (· ≤ ·) := by
  induction l with
  | nil => simp [putL]
  | cons x l ih =>
    obtain ⟨h1, h2⟩ := List.pairwise_cons.1 h
    unfold putL
    split
    · rename_i hx
      refine List.pairwise_cons.2 ⟨fun y hy => ?_, ih h2⟩
      rcases (putL_mem true s y l).1 hy with rfl | hy
      · exact str_le_of hx
      · exact h1 y hy
    · rename_i hx
      rw [if_neg (fun e => by cases e.1)]
      have hsx : s ≤ x := List.not_lt.1 hx
      refine List.pairwise_cons.2 ⟨fun y hy => ?_, h⟩
      rcases List.mem_cons.1 hy with rfl | hy
      · exact hsx
      · exact str_le_trans hsx (h1 y hy)

theorem putL_perm (s : Str) (l : List Str) : (putL true l s).Perm (s :: l) := by
  induction l with
  | nil => simp [putL]
  | cons x l ih =>
    unfold putL
    split
    · exact (List.Perm.cons x ih).trans (List.Perm.swap s x l)
    · rw [if_neg (fun e => by cases e.1)]

theorem putL_length (tw : Bool) (s : Str) (l : List Str) : (putL tw l s).length ≤ l.length + 1 := by
  induction l with
  | nil => simp [putL]
  | cons x l ih =>
    unfold putL
    split
    · simp only [List.length_cons]; omega
    · split <;> simp

/-- all strings of a list, each once, in order -/
def setL (l : List Str) : List Str := l.foldl (putL false) []
/-- all strings of a list in order -/
def sortL (l : List Str) : List Str := l.foldl (putL true) []

theorem setL_nil : setL [] = [] := rfl
theorem sortL_nil : sortL [] = [] := rfl
theorem setL_snoc (l : List Str) (s : Str) : setL (l ++ [s]) = putL false (setL l) s := by simp [setL]
theorem sortL_snoc (l : List Str) (s : Str) : sortL (l ++ [s]) = putL true (sortL l) s := by simp [sortL]

theorem snoc_ind2 {α : Type} {P : List α → Prop} (h0 : P []) (h1 : ∀ l c, P l → P (l ++ [c])) (l : List α) : P l := by
  have h : ∀ l : List α, P l.reverse := by
    intro l
    induction l with
    | nil => exact h0
    | cons c l ih => rw [List.reverse_cons]; exact h1 _ _ ih
  simpa using h l.reverse

theorem setL_asc (l : List Str) : Asc (setL l) := by
  induction l using snoc_ind2 with
  | h0 => simp [setL, Asc]
  | h1 l c ih => rw [setL_snoc]; exact putL_asc ih
theorem setL_mem (l : List Str) (y : Str) : y ∈ setL l ↔ y ∈ l := by
  induction l using snoc_ind2 with
  | h0 => simp [setL]
  | h1 l c ih =>
    rw [setL_snoc, putL_mem, ih]
    simp [or_comm]
theorem setL_length (l : List Str) : (setL l).length ≤ l.length := by
  induction l using snoc_ind2 with
  | h0 => simp [setL]
  | h1 l c ih =>
    rw [setL_snoc]
    have := putL_length false c (setL l)
    simp only [List.length_append, List.length_singleton]
    omega
theorem sortL_sorted (l : List Str) : (sortL l).Pairwise (· ≤ ·) := by
  induction l using snoc_ind2 with
  | h0 => simp [sortL]
  | h1 l c ih => rw [sortL_snoc]; exact putL_sorted ih
theorem sortL_perm (l : List Str) : (sortL l).Perm l := by
  induction l using snoc_ind2 with
  | h0 => simp [sortL]
  | h1 l c ih =>
    rw [sortL_snoc]
    exact (putL_perm c _).trans ((List.Perm.cons c ih).trans (List.perm_append_singleton c l).symm)
theorem sortL_length (l : List Str) : (sortL l).length = l.length := (sortL_perm l).length_eq

theorem le_sorted_eq {a b : List Str} (ha : a.Pairwise (· ≤ ·)) (hb : b.Pairwise (· ≤ ·)) (h : a.Perm b) : a = b :=
  List.Perm.eq_of_pairwise (le := fun x y : Str => x ≤ y) (fun _ _ _ _ h1 h2 => List.le_antisymm h1 h2) ha hb h

theorem ms_sorted (l : List Str) : (l.mergeSort leB).Pairwise (· ≤ ·) := by
  have tr : ∀ a b c : Str, leB a b = true → leB b c = true → leB a c = true := fun a b c h1 h2 => by simp only [leB, decide_eq_true_eq] at *; exact List.le_trans h1 h2
  have to : ∀ a b : Str, (leB a b || leB b a) = true := fun a b => by simp only [leB, Bool.or_eq_true, decide_eq_true_eq]; exact List.le_total a b
  exact (List.pairwise_mergeSort tr to l).imp fun h => by simpa [leB] using h

theorem sortL_is (l : List Str) : l.mergeSort leB = sortL l :=
  le_sorted_eq (ms_sorted l) (sortL_sorted l) ((List.mergeSort_perm l leB).trans (sortL_perm l).symm)

theorem asc_ext {a b : List Str} (ha : Asc a) (hb : Asc b) (h : ∀ x, x ∈ a ↔ x ∈ b) : a = b := by
  have na : a.Nodup := ha.imp fun h => str_ne_of h
  have nb : b.Nodup := hb.imp fun h => str_ne_of h
  exact le_sorted_eq (ha.imp fun h => str_le_of h) (hb.imp fun h => str_le_of h) ((List.perm_ext_iff_of_nodup na nb).2 h)

theorem ms_set {ss l : List Str} (hn : ss.Nodup) (h : ∀ x, x ∈ ss ↔ x ∈ l) : ss.mergeSort leB = setL l := by
  refine asc_ext ?_ (setL_asc l) fun x => ?_
  · have h1 := ms_sorted ss
    have h2 : (ss.mergeSort leB).Nodup := (List.mergeSort_perm ss leB).nodup_iff.2 hn
    exact (h1.and h2).imp fun h => str_lt_of h.1 h.2
  · rw [(List.mergeSort_perm ss leB).mem_iff, h x, setL_mem]

theorem setL_congr {a b : List Str} (h : ∀ x, x ∈ a ↔ x ∈ b) : setL a = setL b :=
  asc_ext (setL_asc a) (setL_asc b) fun x => by rw [setL_mem, setL_mem, h x]
theorem setL_of_asc {a : List Str} (h : Asc a) : setL a = a := asc_ext (setL_asc a) h fun x => setL_mem a x

/-- how many of a come while b still has more of them -/
def cgS (b : List Str) (p : List Str × Nat) (x : Str) : List Str × Nat := (p.1 ++ [x], if p.1.count x < b.count x then p.2 + 1 else p.2)
def cgL (a b : List Str) : Nat := (a.foldl (cgS b) ([], 0)).2

theorem cg_fst (a b : List Str) : (a.foldl (cgS b) ([], 0)).1 = a := by
  induction a using snoc_ind2 with
  | h0 => rfl
  | h1 l c ih => rw [List.foldl_append]; simp [cgS, ih]
theorem cg_snoc (a b : List Str) (x : Str) : cgL (a ++ [x]) b = cgL a b + if a.count x < b.count x then 1 else 0 := by
  unfold cgL
  rw [List.foldl_append]
  simp only [List.foldl_cons, List.foldl_nil]
  unfold cgS
  rw [show (a.foldl (fun p x => (p.1 ++ [x], if p.1.count x < b.count x then p.2 + 1 else p.2)) ([], 0)).1 = a from cg_fst a b]
  split <;> simp
theorem cg_nil (b : List Str) : cgL [] b = 0 := rfl
theorem cg_nil' (a : List Str) : cgL a [] = 0 := by
  induction a using snoc_ind2 with
  | h0 => rfl
  | h1 l c ih => rw [cg_snoc, ih]; simp
theorem cg_le (a b : List Str) : cgL a b ≤ a.length := by
  induction a using snoc_ind2 with
  | h0 => simp [cg_nil]
  | h1 l c ih => rw [cg_snoc]; simp only [List.length_append, List.length_singleton]; split <;> omega

theorem count_snoc (a : List Str) (x y : Str) : (a ++ [x]).count y = a.count y + if x = y then 1 else 0 := by
  rw [List.count_append, List.count_singleton]
  by_cases h : x = y
  · subst h; simp
  · have : (x == y) = false := by simpa using h
    simp [h, this]

theorem cg_snoc' (a b : List Str) (x : Str) : cgL b (a ++ [x]) = cgL b a + if a.count x < b.count x then 1 else 0 := by
  induction b using snoc_ind2 with
  | h0 => simp [cg_nil]
  | h1 b y ih =>
    rw [cg_snoc, cg_snoc, ih, count_snoc, count_snoc]
    by_cases h : x = y
    · subst h
      simp only [if_true]
      split <;> split <;> (try split) <;> (try split) <;> omega
    · have h' : ¬ y = x := fun e => h e.symm
      simp only [if_neg h, if_neg h', Nat.add_zero]
      omega

theorem cg_comm (a b : List Str) : cgL a b = cgL b a := by
  induction a using snoc_ind2 with
  | h0 => rw [cg_nil, cg_nil']
  | h1 a x ih => rw [cg_snoc, cg_snoc', ih]

theorem cg_self (a : List Str) : cgL a a = a.length := by
  have h : ∀ p q : List Str, cgL p (p ++ q) = p.length := by
    intro p
    induction p using snoc_ind2 with
    | h0 => intro q; rfl
    | h1 p x ih =>
      intro q
      rw [cg_snoc, List.append_assoc, ih ([x] ++ q), if_pos (by rw [List.count_append, List.count_append, List.count_singleton]; simp; omega)]
      simp
  have := h a []
  simpa using this

end Go.Proofs.Ytookcggmapldeaa
