/-
  Texts laid together: PlainSet, PlainBlk, PlainVar, PlainDg, PlainBd, OwnBytes. By an AI agent.
-/
import Derived.WalkKit
import Derived.Sort.KeysCollected
import Derived.Test.YtpmfabpnjacegaaGreatDoorGQ1
import Derived.Test.YtpmfabpnjacegaaGreatDoorRows
import Derived.WalkSpells
import Derived.WalkLawsBesides
import Derived.Lib.Hide
import Derived.Lib.UnsafeStr
import Derived.Laws.IdiomStrings
import Derived.Laws.BytesArg
/-
  Lists of strings in order: plain facts without the program. By an AI agent.
-/
namespace Go.Proofs.YtpmfabpnjacegaaGreatDoor
open Go

abbrev Str := List UInt8

theorem str_lt_of {x y : Str} (h : x ≤ y) (hne : x ≠ y) : x < y := by
  by_cases hl : x < y
  · exact hl
  · exact absurd (List.le_antisymm h (List.not_lt.1 hl)) hne
theorem str_le_of {x y : Str} (h : x < y) : x ≤ y := List.le_of_lt h
theorem str_ne_of {x y : Str} (h : x < y) : x ≠ y := fun e => by subst e; exact List.lt_irrefl x h
theorem str_lt_trans {x y z : Str} (h : x < y) (k : y < z) : x < z := List.lt_trans h k
theorem str_le_trans {x y z : Str} (h : x ≤ y) (k : y ≤ z) : x ≤ z := List.le_trans h k

/-- one string more in an ascending list -/
def putL (tw : Bool) : List Str → Str → List Str
  | [], s => [s]
  | x :: l, s => if x < s then x :: putL tw l s else if tw = false ∧ x = s then x :: l else s :: x :: l

theorem putL_front (tw : Bool) (s : Str) : ∀ (l : List Str) (k : Nat), (∀ j x, l[j]? = some x → j < k → x < s) → putL tw l s = l.take k ++ putL tw (l.drop k) s := by
  intro l
  induction l with
  | nil => intro k _; simp
  | cons x l ih =>
    intro k h
    cases k with
    | zero => simp
    | succ k =>
      have h0 := h 0 x (by simp) (by omega)
      have h1 := ih k (fun j y hj hlt => h (j + 1) y (by simpa using hj) (by omega))
      simp only [putL, if_pos h0, List.take_succ_cons, List.drop_succ_cons, List.cons_append, h1]

theorem putL_same {s : Str} {l : List Str} {k : Nat} (h : ∀ j x, l[j]? = some x → j < k → x < s) (hk : l[k]? = some s) : putL false l s = l := by
  obtain ⟨hlt, he⟩ := List.getElem?_eq_some_iff.1 hk
  rw [putL_front false s l k h, List.drop_eq_getElem_cons hlt, he]
  simp only [putL, if_neg (List.lt_irrefl s), and_self, if_true]
  rw [← he, ← List.drop_eq_getElem_cons hlt, List.take_append_drop]

theorem putL_new {tw : Bool} {s : Str} {l : List Str} {k : Nat} (h : ∀ j x, l[j]? = some x → j < k → x < s) (hn : ∀ x, l[k]? = some x → ¬ x < s ∧ (tw = true ∨ x ≠ s)) : putL tw l s = l.take k ++ s :: l.drop k := by
  rw [putL_front tw s l k h]
  congr 1
  rcases Nat.lt_or_ge k l.length with hlt | hge
  · rw [List.drop_eq_getElem_cons hlt]
    obtain ⟨h1, h2⟩ := hn l[k] (List.getElem?_eq_getElem hlt)
    have h3 : ¬ (tw = false ∧ l[k] = s) := by
      rintro ⟨e1, e2⟩
      rcases h2 with h2 | h2
      · rw [e1] at h2; cases h2
      · exact h2 e2
    simp only [putL, if_neg h1, if_neg h3]
  · rw [List.drop_eq_nil_of_le hge]
    rfl

def Asc (l : List Str) : Prop := l.Pairwise (· < ·)

theorem putL_mem (tw : Bool) (s y : Str) (l : List Str) : y ∈ putL tw l s ↔ y = s ∨ y ∈ l := by
  induction l with
  | nil => simp [putL]
  | cons x l ih =>
    unfold putL
    split
    · simp only [List.mem_cons, ih]
      constructor
      · rintro (h | h | h) <;> simp [h]
      · rintro (h | h | h) <;> simp [h]
    · split
      · rename_i h
        obtain ⟨_, rfl⟩ := h
        simp
      · simp

theorem putL_asc {s : Str} {l : List Str} (h : Asc l) : Asc (putL false l s) := by
  induction l with
  | nil => simp [putL, Asc]
  | cons x l ih =>
    obtain ⟨h1, h2⟩ := List.pairwise_cons.1 h
    unfold putL
    split
    · rename_i hx
      refine List.pairwise_cons.2 ⟨fun y hy => ?_, ih h2⟩
      rcases (putL_mem false s y l).1 hy with rfl | hy
      · exact hx
      · exact h1 y hy
    · rename_i hx
      split
      · exact h
      · rename_i hne
        have hsx : s < x := str_lt_of (List.not_lt.1 hx) (fun e => hne ⟨rfl, e.symm⟩)
        refine List.pairwise_cons.2 ⟨fun y hy => ?_, h⟩
        rcases List.mem_cons.1 hy with rfl | hy
        · exact hsx
        · exact str_lt_trans hsx (h1 y hy)

theorem putL_sorted {s : Str} {l : List Str} (h : l.Pairwise (· ≤ ·)) : (putL true l s).Pairwise (· ≤ ·) := by
  induction l with
  | nil => simp [putL]
  | cons x l ih =>
    obtain ⟨h1, h2⟩ := List.pairwise_cons.1 h
    unfold putL
    split
    · rename_i hx
      refine List.pairwise_cons.2 ⟨fun y hy => ?_, ih h2⟩
      rcases (putL_mem true s y l).1 hy with rfl | hy
      · exact str_le_of hx
      · exact h1 y hy
    · rename_i hx
      rw [if_neg (fun e => by cases e.1)]
      have hsx : s ≤ x := List.not_lt.1 hx
      refine List.pairwise_cons.2 ⟨fun y hy => ?_, h⟩
      rcases List.mem_cons.1 hy with rfl | hy
      · exact hsx
      · exact str_le_trans hsx (h1 y hy)

theorem putL_perm (s : Str) (l : List Str) : (putL true l s).Perm (s :: l) := by
  induction l with
  | nil => simp [putL]
  | cons x l ih =>
    unfold putL
    split
    · exact (List.Perm.cons x ih).trans (List.Perm.swap s x l)
    · rw [if_neg (fun e => by cases e.1)]

theorem putL_length (tw : Bool) (s : Str) (l : List Str) : (putL tw l s).length ≤ l.length + 1 := by
  induction l with
  | nil => simp [putL]
  | cons x l ih =>
    unfold putL
    split
    · simp only [List.length_cons]; omega
    · split <;> simp

/-- all strings of a list, each once, in order -/
def setL (l : List Str) : List Str := l.foldl (putL false) []
/-- all strings of a list in order -/
def sortL (l : List Str) : List Str := l.foldl (putL true) []

theorem setL_nil : setL [] = [] := rfl
theorem sortL_nil : sortL [] = [] := rfl
theorem setL_snoc (l : List Str) (s : Str) : setL (l ++ [s]) = putL false (setL l) s := by simp [setL]
theorem sortL_snoc (l : List Str) (s : Str) : sortL (l ++ [s]) = putL true (sortL l) s := by simp [sortL]

theorem snoc_ind2 {α : Type} {P : List α → Prop} (h0 : P []) (h1 : ∀ l c, P l → P (l ++ [c])) (l : List α) : P l := by
  have h : ∀ l : List α, P l.reverse := by
    intro l
    induction l with
    | nil => exact h0
    | cons c l ih => rw [List.reverse_cons]; exact h1 _ _ ih
  simpa using h l.reverse

theorem setL_asc (l : List Str) : Asc (setL l) := by
  induction l using snoc_ind2 with
  | h0 => simp [setL, Asc]
  | h1 l c ih => rw [setL_snoc]; exact putL_asc ih
theorem setL_mem (l : List Str) (y : Str) : y ∈ setL l ↔ y ∈ l := by
  induction l using snoc_ind2 with
  | h0 => simp [setL]
  | h1 l c ih =>
    rw [setL_snoc, putL_mem, ih]
    simp [or_comm]
theorem setL_length (l : List Str) : (setL l).length ≤ l.length := by
  induction l using snoc_ind2 with
  | h0 => simp [setL]
  | h1 l c ih =>
    rw [setL_snoc]
    have := putL_length false c (setL l)
    simp only [List.length_append, List.length_singleton]
    omega
theorem sortL_sorted (l : List Str) : (sortL l).Pairwise (· ≤ ·) := by
  induction l using snoc_ind2 with
  | h0 => simp [sortL]
  | h1 l c ih => rw [sortL_snoc]; exact putL_sorted ih
theorem sortL_perm (l : List Str) : (sortL l).Perm l := by
  induction l using snoc_ind2 with
  | h0 => simp [sortL]
  | h1 l c ih =>
    rw [sortL_snoc]
    exact (putL_perm c _).trans ((List.Perm.cons c ih).trans (List.perm_append_singleton c l).symm)
theorem sortL_length (l : List Str) : (sortL l).length = l.length := (sortL_perm l).length_eq

theorem le_sorted_eq {a b : List Str} (ha : a.Pairwise (· ≤ ·)) (hb : b.Pairwise (· ≤ ·)) (h : a.Perm b) : a = b :=
  List.Perm.eq_of_pairwise (le := fun x y : Str => x ≤ y) (fun _ _ _ _ h1 h2 => List.le_antisymm h1 h2) ha hb h

theorem ms_sorted (l : List Str) : (l.mergeSort leB).Pairwise (· ≤ ·) := by
  have tr : ∀ a b c : Str, leB a b = true → leB b c = true → leB a c = true := fun a b c h1 h2 => by simp only [leB, decide_eq_true_eq] at *; exact List.le_trans h1 h2
  have to : ∀ a b : Str, (leB a b || leB b a) = true := fun a b => by simp only [leB, Bool.or_eq_true, decide_eq_true_eq]; exact List.le_total a b
  exact (List.pairwise_mergeSort tr to l).imp fun h => by simpa [leB] using h

theorem sortL_is (l : List Str) : l.mergeSort leB = sortL l :=
  le_sorted_eq (ms_sorted l) (sortL_sorted l) ((List.mergeSort_perm l leB).trans (sortL_perm l).symm)

theorem asc_ext {a b : List Str} (ha : Asc a) (hb : Asc b) (h : ∀ x, x ∈ a ↔ x ∈ b) : a = b := by
  have na : a.Nodup := ha.imp fun h => str_ne_of h
  have nb : b.Nodup := hb.imp fun h => str_ne_of h
  exact le_sorted_eq (ha.imp fun h => str_le_of h) (hb.imp fun h => str_le_of h) ((List.perm_ext_iff_of_nodup na nb).2 h)

theorem ms_set {ss l : List Str} (hn : ss.Nodup) (h : ∀ x, x ∈ ss ↔ x ∈ l) : ss.mergeSort leB = setL l := by
  refine asc_ext ?_ (setL_asc l) fun x => ?_
  · have h1 := ms_sorted ss
    have h2 : (ss.mergeSort leB).Nodup := (List.mergeSort_perm ss leB).nodup_iff.2 hn
    exact (h1.and h2).imp fun h => str_lt_of h.1 h.2
  · rw [(List.mergeSort_perm ss leB).mem_iff, h x, setL_mem]

theorem setL_congr {a b : List Str} (h : ∀ x, x ∈ a ↔ x ∈ b) : setL a = setL b :=
  asc_ext (setL_asc a) (setL_asc b) fun x => by rw [setL_mem, setL_mem, h x]
theorem setL_of_asc {a : List Str} (h : Asc a) : setL a = a := asc_ext (setL_asc a) h fun x => setL_mem a x

/-- how many of a come while b still has more of them -/
def cgS (b : List Str) (p : List Str × Nat) (x : Str) : List Str × Nat := (p.1 ++ [x], if p.1.count x < b.count x then p.2 + 1 else p.2)
def cgL (a b : List Str) : Nat := (a.foldl (cgS b) ([], 0)).2

theorem cg_fst (a b : List Str) : (a.foldl (cgS b) ([], 0)).1 = a := by
  induction a using snoc_ind2 with
  | h0 => rfl
  | h1 l c ih => rw [List.foldl_append]; simp [cgS, ih]
theorem cg_snoc (a b : List Str) (x : Str) : cgL (a ++ [x]) b = cgL a b + if a.count x < b.count x then 1 else 0 := by
  unfold cgL
  rw [List.foldl_append]
  simp only [List.foldl_cons, List.foldl_nil]
  unfold cgS
  rw [show (a.foldl (fun p x => (p.1 ++ [x], if p.1.count x < b.count x then p.2 + 1 else p.2)) ([], 0)).1 = a from cg_fst a b]
  split <;> simp
theorem cg_nil (b : List Str) : cgL [] b = 0 := rfl
theorem cg_nil' (a : List Str) : cgL a [] = 0 := by
  induction a using snoc_ind2 with
  | h0 => rfl
  | h1 l c ih => rw [cg_snoc, ih]; simp
theorem cg_le (a b : List Str) : cgL a b ≤ a.length := by
  induction a using snoc_ind2 with
  | h0 => simp [cg_nil]
  | h1 l c ih => rw [cg_snoc]; simp only [List.length_append, List.length_singleton]; split <;> omega

theorem count_snoc (a : List Str) (x y : Str) : (a ++ [x]).count y = a.count y + if x = y then 1 else 0 := by
  rw [List.count_append, List.count_singleton]
  by_cases h : x = y
  · subst h; simp
  · have : (x == y) = false := by simpa using h
    simp [h, this]

theorem cg_snoc' (a b : List Str) (x : Str) : cgL b (a ++ [x]) = cgL b a + if a.count x < b.count x then 1 else 0 := by
  induction b using snoc_ind2 with
  | h0 => simp [cg_nil]
  | h1 b y ih =>
    rw [cg_snoc, cg_snoc, ih, count_snoc, count_snoc]
    by_cases h : x = y
    · subst h
      simp only [if_true]
      split <;> split <;> (try split) <;> (try split) <;> omega
    · have h' : ¬ y = x := fun e => h e.symm
      simp only [if_neg h, if_neg h', Nat.add_zero]
      omega

theorem cg_comm (a b : List Str) : cgL a b = cgL b a := by
  induction a using snoc_ind2 with
  | h0 => rw [cg_nil, cg_nil']
  | h1 a x ih => rw [cg_snoc, cg_snoc', ih]

theorem cg_self (a : List Str) : cgL a a = a.length := by
  have h : ∀ p q : List Str, cgL p (p ++ q) = p.length := by
    intro p
    induction p using snoc_ind2 with
    | h0 => intro q; rfl
    | h1 p x ih =>
      intro q
      rw [cg_snoc, List.append_assoc, ih ([x] ++ q), if_pos (by rw [List.count_append, List.count_append, List.count_singleton]; simp; omega)]
      simp
  have := h a []
  simpa using this

end Go.Proofs.YtpmfabpnjacegaaGreatDoor

/-
  Blocks in plain lists: the members of a key, the pairs of a block, pairs in order and each once. By an AI agent.
-/
namespace Go.Proofs.YtpmfabpnjacegaaGreatDoor
set_option linter.unusedVariables false
set_option linter.unusedSimpArgs false

/-! ### members -/
/-- the indices of the lists that hold x -/
def memN (K : List (List Str)) (x : Str) : List Int := ((List.range K.length).filter fun i : Nat => decide (x ∈ K.getD i [])).map fun i : Nat => (i : Int)
theorem memN_nil (x : Str) : memN [] x = [] := rfl
theorem memN_snoc (K : List (List Str)) (l : List Str) (x : Str) : memN (K ++ [l]) x = memN K x ++ if x ∈ l then [(K.length : Int)] else [] := by
  unfold memN
  rw [List.length_append, List.length_singleton, List.range_succ, List.filter_append, List.map_append]
  congr 1
  · congr 1
    refine List.filter_congr fun i hi => ?_
    have hlt := List.mem_range.1 hi
    rw [List.getD_eq_getElem?_getD, List.getD_eq_getElem?_getD, List.getElem?_append_left hlt]
  · have e : (K ++ [l]).getD K.length [] = l := by
      rw [List.getD_eq_getElem?_getD, List.getElem?_append_right (Nat.le_refl _), Nat.sub_self]
      rfl
    by_cases h : x ∈ l
    · simp [h, e]
    · simp [h, e]
theorem mem_memN {K : List (List Str)} {x : Str} {z : Int} : z ∈ memN K x ↔ ∃ (i : Nat) (l : List Str), K[i]? = some l ∧ x ∈ l ∧ z = (i : Int) := by
  unfold memN
  rw [List.mem_map]
  constructor
  · rintro ⟨i, hi, rfl⟩
    rw [List.mem_filter, List.mem_range] at hi
    obtain ⟨h1, h2⟩ := hi
    refine ⟨i, K[i], List.getElem?_eq_getElem h1, ?_, rfl⟩
    rw [List.getD_eq_getElem?_getD, List.getElem?_eq_getElem h1] at h2
    simpa using h2
  · rintro ⟨i, l, h1, h2, rfl⟩
    refine ⟨i, ?_, rfl⟩
    rw [List.mem_filter, List.mem_range]
    refine ⟨(List.getElem?_eq_some_iff.1 h1).1, ?_⟩
    rw [List.getD_eq_getElem?_getD, h1]
    simpa using h2
theorem memN_asc (K : List (List Str)) (x : Str) : (memN K x).Pairwise (· < ·) := by
  unfold memN
  rw [List.pairwise_map]
  exact (List.Pairwise.filter _ (List.pairwise_lt_range (n := K.length))).imp fun h => by omega
theorem memN_len (K : List (List Str)) (x : Str) : (memN K x).length ≤ K.length := by
  unfold memN
  rw [List.length_map]
  have := List.length_filter_le (fun i => decide (x ∈ K.getD i [])) (List.range K.length)
  simpa using this
theorem memN_pos {K : List (List Str)} {x : Str} : memN K x ≠ [] ↔ x ∈ K.flatten := by
  rw [List.mem_flatten]
  constructor
  · intro h
    obtain ⟨z, hz⟩ := List.exists_mem_of_ne_nil _ h
    obtain ⟨i, l, h1, h2, h3⟩ := mem_memN.1 hz
    exact ⟨l, List.mem_of_getElem? h1, h2⟩
  · rintro ⟨l, hl, hx⟩ e
    obtain ⟨i, hi⟩ := List.getElem?_of_mem hl
    have : (i : Int) ∈ memN K x := mem_memN.2 ⟨i, l, hi, hx, rfl⟩
    rw [e] at this
    cases this
theorem memN_not {K : List (List Str)} {x : Str} (h : x ∉ K.flatten) : memN K x = [] := by
  by_cases e : memN K x = []
  · exact e
  · exact absurd (memN_pos.1 e) h
/-- the blocks: each key with its members -/
def blkL (K : List (List Str)) : List (Str × List Int) := (setL K.flatten).map fun x => (x, memN K x)
theorem blkL_len (K : List (List Str)) : (blkL K).length = (setL K.flatten).length := by simp [blkL]
theorem blkL_at {K : List (List Str)} {j : Nat} {x : Str} (h : (setL K.flatten)[j]? = some x) : (blkL K)[j]? = some (x, memN K x) := by simp [blkL, h]

/-! ### pairs of a block -/
abbrev IQ := Int × Int
/-- the pairs whose first member is one of the first n -/
def prsT (m : List Int) (n : Nat) : List IQ := (List.range n).flatMap fun i => (m.drop (i + 1)).map fun y => (m.getD i 0, y)
def prsN (m : List Int) : List IQ := prsT m m.length
theorem prsT_zero (m : List Int) : prsT m 0 = [] := rfl
theorem prsT_succ {m : List Int} {n : Nat} {x : Int} (h : m[n]? = some x) : prsT m (n + 1) = prsT m n ++ (m.drop (n + 1)).map fun y => (x, y) := by
  unfold prsT
  rw [List.range_succ, List.flatMap_append]
  congr 1
  rw [List.flatMap_cons, List.flatMap_nil, List.append_nil, List.getD_eq_getElem?_getD, h]
  rfl
theorem mem_prsN {m : List Int} {p : IQ} : p ∈ prsN m ↔ ∃ (i j : Nat), i < j ∧ m[i]? = some p.1 ∧ m[j]? = some p.2 := by
  unfold prsN prsT
  rw [List.mem_flatMap]
  constructor
  · rintro ⟨i, hi, hp⟩
    have hlt := List.mem_range.1 hi
    rw [List.mem_map] at hp
    obtain ⟨y, hy, rfl⟩ := hp
    obtain ⟨j, hj⟩ := List.getElem?_of_mem hy
    rw [List.getElem?_drop] at hj
    refine ⟨i, i + 1 + j, by omega, ?_, hj⟩
    rw [List.getD_eq_getElem?_getD, List.getElem?_eq_getElem hlt]
    rfl
  · rintro ⟨i, j, hij, h1, h2⟩
    refine ⟨i, List.mem_range.2 (List.getElem?_eq_some_iff.1 h1).1, ?_⟩
    rw [List.mem_map]
    refine ⟨p.2, ?_, ?_⟩
    · refine List.mem_of_getElem? (i := j - (i + 1)) ?_
      rw [List.getElem?_drop, show i + 1 + (j - (i + 1)) = j by omega]
      exact h2
    · rw [List.getD_eq_getElem?_getD, h1]
      rfl
theorem mem_prs_asc {m : List Int} (hm : m.Pairwise (· < ·)) {p : IQ} : p ∈ prsN m ↔ p.1 ∈ m ∧ p.2 ∈ m ∧ p.1 < p.2 := by
  rw [mem_prsN]
  constructor
  · rintro ⟨i, j, hij, h1, h2⟩
    obtain ⟨l1, e1⟩ := List.getElem?_eq_some_iff.1 h1
    obtain ⟨l2, e2⟩ := List.getElem?_eq_some_iff.1 h2
    refine ⟨List.mem_of_getElem? h1, List.mem_of_getElem? h2, ?_⟩
    rw [← e1, ← e2]
    exact List.pairwise_iff_getElem.1 hm i j l1 l2 hij
  · rintro ⟨h1, h2, h3⟩
    obtain ⟨i, hi⟩ := List.getElem?_of_mem h1
    obtain ⟨j, hj⟩ := List.getElem?_of_mem h2
    obtain ⟨l1, e1⟩ := List.getElem?_eq_some_iff.1 hi
    obtain ⟨l2, e2⟩ := List.getElem?_eq_some_iff.1 hj
    refine ⟨i, j, ?_, hi, hj⟩
    rcases Nat.lt_trichotomy i j with h | h | h
    · exact h
    · subst h
      rw [← e1, ← e2] at h3
      omega
    · have := List.pairwise_iff_getElem.1 hm j i l2 l1 h
      rw [e1, e2] at this
      omega
theorem prsT_len (m : List Int) (n : Nat) (hn : n ≤ m.length) : (prsT m n).length ≤ n * m.length := by
  induction n with
  | zero => simp [prsT]
  | succ n ih =>
    rw [prsT_succ (List.getElem?_eq_getElem (show n < m.length by omega))]
    have := ih (by omega)
    simp only [List.length_append, List.length_map, List.length_drop, Nat.succ_mul]
    omega
theorem prsN_len (m : List Int) : (prsN m).length ≤ m.length * m.length := prsT_len m m.length (Nat.le_refl _)

/-! ### pairs in order -/
def plt (p q : IQ) : Prop := p.1 < q.1 ∨ (p.1 = q.1 ∧ p.2 < q.2)
instance (p q : IQ) : Decidable (plt p q) := by unfold plt; exact inferInstance
theorem plt_irr (p : IQ) : ¬ plt p p := by unfold plt; omega
theorem plt_trans {p q r : IQ} (h : plt p q) (k : plt q r) : plt p r := by unfold plt at *; omega
theorem plt_tri (p q : IQ) : plt p q ∨ p = q ∨ plt q p := by
  unfold plt
  rcases Int.lt_trichotomy p.1 q.1 with h | h | h
  · exact .inl (.inl h)
  · rcases Int.lt_trichotomy p.2 q.2 with k | k | k
    · exact .inl (.inr ⟨h, k⟩)
    · exact .inr (.inl (Prod.ext h k))
    · exact .inr (.inr (.inr ⟨h.symm, k⟩))
  · exact .inr (.inr (.inl h))
theorem plt_ne {p q : IQ} (h : plt p q) : p ≠ q := fun e => by subst e; exact plt_irr p h
def AscP (l : List IQ) : Prop := l.Pairwise plt
/-- p in its place, unless it is there -/
def putP : List IQ → IQ → List IQ
  | [], p => [p]
  | q :: l, p => if plt q p then q :: putP l p else if q = p then q :: l else p :: q :: l
theorem putP_front (p : IQ) : ∀ (l : List IQ) (k : Nat), (∀ j q, l[j]? = some q → j < k → plt q p) → putP l p = l.take k ++ putP (l.drop k) p
  | l, 0, _ => by simp
  | [], k + 1, _ => by simp
  | q :: l, k + 1, h => by
    have h0 : plt q p := h 0 q rfl (Nat.zero_lt_succ _)
    have h1 := putP_front p l k fun j x hj hk => h (j + 1) x (by simpa using hj) (by omega)
    show (if plt q p then q :: putP l p else _) = _
    rw [if_pos h0, h1]
    rfl
theorem putP_same {p : IQ} {l : List IQ} {k : Nat} (h : ∀ j q, l[j]? = some q → j < k → plt q p) (hk : l[k]? = some p) : putP l p = l := by
  rw [putP_front p l k h]
  obtain ⟨hl, he⟩ := List.getElem?_eq_some_iff.1 hk
  have e : l.drop k = p :: l.drop (k + 1) := by rw [← he, List.drop_eq_getElem_cons hl]
  rw [e]
  show l.take k ++ (if plt p p then p :: putP _ p else if p = p then p :: l.drop (k + 1) else _) = l
  rw [if_neg (plt_irr p), if_pos rfl, ← e, List.take_append_drop]
theorem putP_new {p : IQ} {l : List IQ} {k : Nat} (h : ∀ j q, l[j]? = some q → j < k → plt q p) (hn : ∀ q, l[k]? = some q → ¬ plt q p ∧ q ≠ p) : putP l p = l.take k ++ p :: l.drop k := by
  rw [putP_front p l k h]
  congr 1
  cases hd : l.drop k with
  | nil => rfl
  | cons q r =>
    have hq : l[k]? = some q := by
      have : (l.drop k)[0]? = some q := by rw [hd]; rfl
      rw [List.getElem?_drop] at this
      simpa using this
    obtain ⟨h1, h2⟩ := hn q hq
    show (if plt q p then q :: putP r p else if q = p then q :: r else p :: q :: r) = _
    rw [if_neg h1, if_neg h2]
theorem putP_mem (p q : IQ) : ∀ (l : List IQ), q ∈ putP l p ↔ q = p ∨ q ∈ l
  | [] => by simp [putP]
  | x :: l => by
    show q ∈ (if plt x p then x :: putP l p else if x = p then x :: l else p :: x :: l) ↔ _
    split
    · rw [List.mem_cons, putP_mem p q l, List.mem_cons]
      constructor
      · rintro (h | h | h)
        · exact .inr (.inl h)
        · exact .inl h
        · exact .inr (.inr h)
      · rintro (h | h | h)
        · exact .inr (.inl h)
        · exact .inl h
        · exact .inr (.inr h)
    · split
      · rename_i h1 h2
        rw [List.mem_cons]
        constructor
        · exact fun h => .inr h
        · rintro (h | h)
          · exact .inl (h.trans h2.symm)
          · exact h
      · rw [List.mem_cons]
theorem putP_asc {p : IQ} : ∀ {l : List IQ}, AscP l → AscP (putP l p)
  | [], _ => List.pairwise_singleton _ _
  | x :: l, h => by
    have hc := List.pairwise_cons.1 h
    show AscP (if plt x p then x :: putP l p else if x = p then x :: l else p :: x :: l)
    split
    · rename_i h1
      refine List.pairwise_cons.2 ⟨fun y hy => ?_, putP_asc hc.2⟩
      rcases (putP_mem p y l).1 hy with rfl | h2
      · exact h1
      · exact hc.1 y h2
    · split
      · exact h
      · rename_i h1 h2
        refine List.pairwise_cons.2 ⟨fun y hy => ?_, h⟩
        have h3 : plt p x := by
          rcases plt_tri x p with h4 | h4 | h4
          · exact absurd h4 h1
          · exact absurd h4 h2
          · exact h4
        rcases List.mem_cons.1 hy with rfl | h4
        · exact h3
        · exact plt_trans h3 (hc.1 y h4)
theorem putP_length (p : IQ) : ∀ (l : List IQ), (putP l p).length ≤ l.length + 1
  | [] => by simp [putP]
  | x :: l => by
    show (if plt x p then x :: putP l p else if x = p then x :: l else p :: x :: l).length ≤ _
    have := putP_length p l
    split
    · simp; omega
    · split <;> simp
/-- in order, each once -/
def setP (l : List IQ) : List IQ := l.foldl putP []
theorem setP_snoc (l : List IQ) (p : IQ) : setP (l ++ [p]) = putP (setP l) p := by simp [setP]
theorem setP_asc (l : List IQ) : AscP (setP l) := by
  refine snoc_ind2 (P := fun l => AscP (setP l)) List.Pairwise.nil (fun l p ih => ?_) l
  rw [setP_snoc]
  exact putP_asc ih
theorem setP_mem (l : List IQ) (p : IQ) : p ∈ setP l ↔ p ∈ l := by
  refine snoc_ind2 (P := fun l => p ∈ setP l ↔ p ∈ l) (by simp [setP]) (fun l q ih => ?_) l
  rw [setP_snoc, putP_mem, ih]
  simp [or_comm]
theorem setP_length (l : List IQ) : (setP l).length ≤ l.length := by
  refine snoc_ind2 (P := fun l => (setP l).length ≤ l.length) (by simp [setP]) (fun l q ih => ?_) l
  rw [setP_snoc]
  have := putP_length q (setP l)
  simp
  omega
theorem ascP_ext {a b : List IQ} (ha : AscP a) (hb : AscP b) (h : ∀ x, x ∈ a ↔ x ∈ b) : a = b := by
  have na : a.Nodup := ha.imp fun h => plt_ne h
  have nb : b.Nodup := hb.imp fun h => plt_ne h
  refine List.Perm.eq_of_pairwise (le := fun p q => plt p q ∨ p = q) (fun x y _ _ h1 h2 => ?_) (ha.imp .inl) (hb.imp .inl) ((List.perm_ext_iff_of_nodup na nb).2 h)
  rcases h1 with h1 | h1
  · rcases h2 with h2 | h2
    · exact absurd (plt_trans h1 h2) (plt_irr x)
    · exact h2.symm
  · exact h1
/-- equal neighbours once -/
def cmpP : List IQ → List IQ
  | [] => []
  | [p] => [p]
  | p :: q :: l => if q = p then cmpP (q :: l) else p :: cmpP (q :: l)
theorem cmpP_mem (x : IQ) : ∀ (l : List IQ), x ∈ cmpP l ↔ x ∈ l
  | [] => Iff.rfl
  | [p] => Iff.rfl
  | p :: q :: l => by
    have ih := cmpP_mem x (q :: l)
    show x ∈ (if q = p then cmpP (q :: l) else p :: cmpP (q :: l)) ↔ _
    split
    · rename_i e
      subst e
      rw [ih]
      simp
    · rw [List.mem_cons, ih, List.mem_cons (b := p)]
theorem cmpP_asc : ∀ {l : List IQ}, (l.Pairwise fun p q => ¬ plt q p) → AscP (cmpP l)
  | [], _ => List.Pairwise.nil
  | [p], _ => List.pairwise_singleton _ _
  | p :: q :: l, h => by
    have hc := List.pairwise_cons.1 h
    have ih := cmpP_asc hc.2
    show AscP (if q = p then cmpP (q :: l) else p :: cmpP (q :: l))
    split
    · exact ih
    · rename_i e
      refine List.pairwise_cons.2 ⟨fun y hy => ?_, ih⟩
      have hpq : plt p q := by
        rcases plt_tri p q with h1 | h1 | h1
        · exact h1
        · exact absurd h1.symm e
        · exact absurd h1 (hc.1 q (List.mem_cons_self ..))
      have hy2 := (cmpP_mem y (q :: l)).1 hy
      rcases List.mem_cons.1 hy2 with rfl | h2
      · exact hpq
      · have h3 := (List.pairwise_cons.1 hc.2).1 y h2
        rcases plt_tri q y with h4 | h4 | h4
        · exact plt_trans hpq h4
        · rw [← h4]; exact hpq
        · exact absurd h4 h3
/-- sorted and compacted -/
theorem cmp_set {s l : List IQ} (hs : s.Pairwise fun p q => ¬ plt q p) (h : ∀ x, x ∈ s ↔ x ∈ l) : cmpP s = setP l :=
  ascP_ext (cmpP_asc hs) (setP_asc l) fun x => by rw [cmpP_mem, setP_mem, h x]
theorem cmpP_length : ∀ (l : List IQ), (cmpP l).length ≤ l.length
  | [] => Nat.le_refl _
  | [p] => Nat.le_refl _
  | p :: q :: l => by
    have ih := cmpP_length (q :: l)
    show (if q = p then cmpP (q :: l) else p :: cmpP (q :: l)).length ≤ _
    split
    · simp at *; omega
    · simp at *; omega

/-! ### what the functions answer -/
def smallB (most : Int) (b : Str × List Int) : List IQ := if (b.2.length : Int) ≤ most then prsN b.2 else []
def rawP (K : List (List Str)) (most : Int) : List IQ := (blkL K).flatMap (smallB most)
def bpR (K : List (List Str)) (most : Int) : List IQ := setP (rawP K most)
def lbR (K : List (List Str)) : Nat := (blkL K).foldl (fun n b => max n b.2.length) 0
def osR (K : List (List Str)) (most : Int) : List Str := ((blkL K).filter fun b => decide (most < (b.2.length : Int))).map Prod.fst
theorem mem_rawP {K : List (List Str)} {most : Int} {p : IQ} : p ∈ rawP K most ↔ ∃ x, x ∈ K.flatten ∧ ((memN K x).length : Int) ≤ most ∧ p ∈ prsN (memN K x) := by
  unfold rawP smallB blkL
  rw [List.mem_flatMap]
  constructor
  · rintro ⟨b, hb, hp⟩
    obtain ⟨x, hx, rfl⟩ := List.mem_map.1 hb
    split at hp
    · rename_i h
      exact ⟨x, (setL_mem _ _).1 hx, h, hp⟩
    · cases hp
  · rintro ⟨x, hx, h1, h2⟩
    refine ⟨_, List.mem_map.2 ⟨x, (setL_mem _ _).2 hx, rfl⟩, ?_⟩
    rw [if_pos h1]
    exact h2
theorem mem_bpR {K : List (List Str)} {most : Int} {p : IQ} : p ∈ bpR K most ↔ ∃ x, x ∈ K.flatten ∧ ((memN K x).length : Int) ≤ most ∧ p.1 ∈ memN K x ∧ p.2 ∈ memN K x ∧ p.1 < p.2 := by
  unfold bpR
  rw [setP_mem, mem_rawP]
  constructor
  · rintro ⟨x, h1, h2, h3⟩
    exact ⟨x, h1, h2, (mem_prs_asc (memN_asc K x)).1 h3⟩
  · rintro ⟨x, h1, h2, h3⟩
    exact ⟨x, h1, h2, (mem_prs_asc (memN_asc K x)).2 h3⟩
theorem foldmax_le (l : List (Str × List Int)) (n : Nat) : n ≤ l.foldl (fun n b => max n b.2.length) n := by
  induction l generalizing n with
  | nil => exact Nat.le_refl _
  | cons b l ih => exact Nat.le_trans (Nat.le_max_left _ _) (ih _)
theorem foldmax_mem {l : List (Str × List Int)} {b : Str × List Int} (hb : b ∈ l) (n : Nat) : b.2.length ≤ l.foldl (fun n b => max n b.2.length) n := by
  induction l generalizing n with
  | nil => cases hb
  | cons c l ih =>
    rcases List.mem_cons.1 hb with rfl | h
    · exact Nat.le_trans (Nat.le_max_right _ _) (foldmax_le l _)
    · exact ih h _
theorem foldmax_is (l : List (Str × List Int)) (n : Nat) : l.foldl (fun n b => max n b.2.length) n = n ∨ ∃ b ∈ l, l.foldl (fun n b => max n b.2.length) n = b.2.length := by
  induction l generalizing n with
  | nil => exact .inl rfl
  | cons c l ih =>
    rw [List.foldl_cons]
    rcases ih (max n c.2.length) with h | ⟨b, hb, h⟩
    · rw [h]
      rcases Nat.le_total n c.2.length with h1 | h1
      · exact .inr ⟨c, List.mem_cons_self .., Nat.max_eq_right h1⟩
      · exact .inl (Nat.max_eq_left h1)
    · exact .inr ⟨b, List.mem_cons_of_mem _ hb, h⟩
theorem lb_of {K : List (List Str)} {n : Nat} (h1 : ∀ x, x ∈ K.flatten → (memN K x).length ≤ n) (h2 : n = 0 ∨ ∃ x, x ∈ K.flatten ∧ (memN K x).length = n) : n = lbR K := by
  have hm : ∀ x, x ∈ K.flatten → (x, memN K x) ∈ blkL K := fun x hx => List.mem_map.2 ⟨x, (setL_mem _ _).2 hx, rfl⟩
  have hle : n ≤ lbR K := by
    rcases h2 with h | ⟨x, hx, h⟩
    · omega
    · rw [← h]
      exact foldmax_mem (hm x hx) 0
  rcases foldmax_is (blkL K) 0 with h | ⟨b, hb, h⟩
  · have h3 : lbR K = 0 := h
    omega
  · obtain ⟨x, hx, rfl⟩ := List.mem_map.1 hb
    have h3 := h1 x ((setL_mem _ _).1 hx)
    have h4 : lbR K = (memN K x).length := h
    omega
theorem lb_top (K : List (List Str)) : lbR K ≤ K.length := by
  rcases foldmax_is (blkL K) 0 with h | ⟨b, hb, h⟩
  · have h3 : lbR K = 0 := h
    omega
  · obtain ⟨x, hx, rfl⟩ := List.mem_map.1 hb
    have h3 := memN_len K x
    have h4 : lbR K = (memN K x).length := h
    omega
theorem os_asc (K : List (List Str)) (most : Int) : Asc (osR K most) := by
  unfold osR Asc
  rw [List.pairwise_map]
  refine List.Pairwise.filter _ ?_
  unfold blkL
  rw [List.pairwise_map]
  exact setL_asc K.flatten
theorem mem_osR {K : List (List Str)} {most : Int} {x : Str} : x ∈ osR K most ↔ x ∈ K.flatten ∧ most < ((memN K x).length : Int) := by
  unfold osR blkL
  rw [List.mem_map]
  constructor
  · rintro ⟨b, hb, rfl⟩
    obtain ⟨h1, h2⟩ := List.mem_filter.1 hb
    obtain ⟨y, hy, rfl⟩ := List.mem_map.1 h1
    exact ⟨(setL_mem _ _).1 hy, by simpa using h2⟩
  · rintro ⟨h1, h2⟩
    exact ⟨(x, memN K x), List.mem_filter.2 ⟨List.mem_map.2 ⟨x, (setL_mem _ _).2 h1, rfl⟩, by simpa using h2⟩, rfl⟩
theorem os_of {K : List (List Str)} {most : Int} {l : List Str} (h : ∀ x, x ∈ l ↔ x ∈ K.flatten ∧ most < ((memN K x).length : Int)) : setL l = osR K most :=
  asc_ext (setL_asc l) (os_asc K most) fun x => by rw [setL_mem, mem_osR, h x]
theorem os_some {K : List (List Str)} {most : Int} (hm : 0 ≤ most) : 0 < (osR K most).length ↔ most < (lbR K : Int) := by
  constructor
  · intro h
    obtain ⟨x, hx⟩ := List.exists_mem_of_length_pos h
    obtain ⟨h1, h2⟩ := mem_osR.1 hx
    have h3 : (memN K x).length ≤ lbR K := foldmax_mem (b := (x, memN K x)) (List.mem_map.2 ⟨x, (setL_mem _ _).2 h1, rfl⟩) 0
    omega
  · intro h
    rcases foldmax_is (blkL K) 0 with h1 | ⟨b, hb, h1⟩
    · have h3 : lbR K = 0 := h1
      omega
    · obtain ⟨x, hx, rfl⟩ := List.mem_map.1 hb
      have h4 : lbR K = (memN K x).length := h1
      exact List.length_pos_of_mem (mem_osR.2 ⟨(setL_mem _ _).1 hx, by omega⟩)

end Go.Proofs.YtpmfabpnjacegaaGreatDoor

/-
  The variables of rules in plain lists. By an AI agent.
-/
namespace Go.Proofs.YtpmfabpnjacegaaGreatDoor
open Go.RowKit
set_option linter.unusedVariables false
set_option linter.unusedSimpArgs false
set_option linter.unnecessarySimpa false

/-- a variable as a test -/
def tsV (p : IQ) : TS := (p, false)
/-- the variables as they come -/
def rawV (R : List (List TS)) : List IQ := R.flatten.map Prod.fst
/-- the variables of one feature, then those of the features up to n -/
def varF (R : List (List TS)) (n : Nat) : List IQ := ((levR R (n : Int)).drop 1).map fun t => ((n : Int), t)
def varsT (R : List (List TS)) (k : Nat) : List IQ := (List.range k).flatMap (varF R)
def varsL (R : List (List TS)) : List IQ := varsT R 6
def varsR (R : List (List TS)) : List IQ := if vsB R then varsL R else []
theorem varsT_succ (R : List (List TS)) (k : Nat) : varsT R (k + 1) = varsT R k ++ varF R k := by simp [varsT, List.range_succ]

theorem flat_test {R : List (List TS)} {t : TS} (h : vsB R = true) (ht : t ∈ R.flatten) : (0 ≤ t.1.1 ∧ t.1.1 ≤ 5) ∧ 1 ≤ t.1.2 ∧ t.1.2 ≤ 1000 := by
  obtain ⟨l, hl, hx⟩ := List.mem_flatten.1 ht
  exact vt_of (vr_test (vs_rule h hl) hx)
theorem lev_split {R : List (List TS)} (h : vsB R = true) (n : Int) : ∃ r, levR R n = 0 :: r ∧ r.Pairwise (· < ·) ∧ ∀ x, x ∈ r ↔ ∃ t ∈ R.flatten, t.1 = (n, x) := by
  have ha := levR_asc R n
  have hm : ∀ x, x ∈ levR R n ↔ x ∈ rawF R.flatten n := fun x => levF_mem _ _ _
  have h0 : (0 : Int) ∈ levR R n := (hm 0).2 (by simp [rawF])
  have hge : ∀ x ∈ levR R n, x = 0 ∨ 0 < x ∧ ∃ t ∈ R.flatten, t.1 = (n, x) := fun x hx => by
    have h1 := (hm x).1 hx
    unfold rawF at h1
    rcases List.mem_cons.1 h1 with h1 | h1
    · exact .inl h1
    · obtain ⟨t, ht, rfl⟩ := List.mem_map.1 h1
      obtain ⟨ht1, ht2⟩ := List.mem_filter.1 ht
      have h2 := flat_test h ht1
      simp only [decide_eq_true_eq] at ht2
      exact .inr ⟨by omega, t, ht1, Prod.ext ht2 rfl⟩
  revert ha h0 hge hm
  generalize levR R n = L
  intro ha hm h0 hge
  cases L with
  | nil => simp at h0
  | cons y r =>
    obtain ⟨h1, h2⟩ := List.pairwise_cons.1 ha
    have hy : y = 0 := by
      rcases List.mem_cons.1 h0 with e | e
      · exact e.symm
      · have h3 := h1 0 e
        rcases hge y (List.mem_cons_self ..) with e2 | ⟨e2, _⟩
        · exact e2
        · omega
    subst hy
    refine ⟨r, rfl, h2, fun x => ⟨fun hx => ?_, fun hx => ?_⟩⟩
    · have h3 := h1 x hx
      rcases hge x (List.mem_cons_of_mem _ hx) with e | ⟨_, e⟩
      · omega
      · exact e
    · obtain ⟨t, ht, e⟩ := hx
      have h4 : x ∈ (0 : Int) :: r := (hm x).2 (by
        unfold rawF
        refine List.mem_cons_of_mem _ (List.mem_map.2 ⟨t, List.mem_filter.2 ⟨ht, by simp [e]⟩, by rw [e]⟩))
      rcases List.mem_cons.1 h4 with e2 | e2
      · have h5 := flat_test h ht
        rw [e] at h5
        simp at h5
        omega
      · exact e2
theorem varF_mem {R : List (List TS)} (h : vsB R = true) (n : Nat) (p : IQ) : p ∈ varF R n ↔ p.1 = n ∧ p ∈ rawV R := by
  obtain ⟨r, hr, _, hm⟩ := lev_split h (n : Int)
  unfold varF rawV
  rw [hr, List.drop_one, List.tail_cons, List.mem_map, List.mem_map]
  constructor
  · rintro ⟨x, hx, rfl⟩
    obtain ⟨t, ht, e⟩ := (hm x).1 hx
    exact ⟨rfl, t, ht, e⟩
  · rintro ⟨h1, t, ht, e⟩
    refine ⟨p.2, (hm _).2 ⟨t, ht, by rw [e]; exact Prod.ext h1 rfl⟩, Prod.ext h1.symm rfl⟩
theorem varF_asc {R : List (List TS)} (h : vsB R = true) (n : Nat) : AscP (varF R n) := by
  obtain ⟨r, hr, ha, _⟩ := lev_split h (n : Int)
  unfold varF AscP
  rw [hr, List.drop_one, List.tail_cons, List.pairwise_map]
  exact ha.imp fun h => .inr ⟨rfl, h⟩
theorem varsT_mem {R : List (List TS)} (h : vsB R = true) (k : Nat) (p : IQ) : p ∈ varsT R k ↔ (∃ n : Nat, n < k ∧ p.1 = n) ∧ p ∈ rawV R := by
  unfold varsT
  rw [List.mem_flatMap]
  constructor
  · rintro ⟨n, hn, hp⟩
    have h1 := (varF_mem h n p).1 hp
    exact ⟨⟨n, List.mem_range.1 hn, h1.1⟩, h1.2⟩
  · rintro ⟨⟨n, hn, h1⟩, h2⟩
    exact ⟨n, List.mem_range.2 hn, (varF_mem h n p).2 ⟨h1, h2⟩⟩
theorem varsT_asc {R : List (List TS)} (h : vsB R = true) : ∀ k, AscP (varsT R k)
  | 0 => List.Pairwise.nil
  | k + 1 => by
    rw [varsT_succ]
    unfold AscP
    rw [List.pairwise_append]
    refine ⟨varsT_asc h k, varF_asc h k, fun p hp q hq => ?_⟩
    obtain ⟨⟨n, hn, e⟩, _⟩ := (varsT_mem h k p).1 hp
    have e2 := ((varF_mem h k q).1 hq).1
    exact .inl (by rw [e, e2]; omega)
theorem raw_feat {R : List (List TS)} (h : vsB R = true) {p : IQ} (hp : p ∈ rawV R) : (0 ≤ p.1 ∧ p.1 ≤ 5) ∧ 1 ≤ p.2 ∧ p.2 ≤ 1000 := by
  obtain ⟨t, ht, rfl⟩ := List.mem_map.1 hp
  exact flat_test h ht
theorem varsL_mem {R : List (List TS)} (h : vsB R = true) (p : IQ) : p ∈ varsL R ↔ p ∈ rawV R := by
  unfold varsL
  rw [varsT_mem h 6 p]
  refine ⟨fun e => e.2, fun e => ⟨⟨p.1.toNat, ?_, ?_⟩, e⟩⟩
  · have := raw_feat h e; omega
  · have := raw_feat h e; omega
theorem varsL_asc {R : List (List TS)} (h : vsB R = true) : AscP (varsL R) := varsT_asc h 6
/-- sorting and compaction give the variables -/
theorem vars_cmp {R : List (List TS)} (h : vsB R = true) {s : List IQ} (hs : s.Pairwise fun p q => ¬ plt q p) (hm : ∀ x, x ∈ s ↔ x ∈ rawV R) : cmpP s = varsL R :=
  ascP_ext (cmpP_asc hs) (varsL_asc h) fun x => by rw [cmpP_mem, hm x, varsL_mem h x]
theorem nodup_le {α : Type} [BEq α] [LawfulBEq α] : ∀ {l m : List α}, l.Nodup → (∀ x ∈ l, x ∈ m) → l.length ≤ m.length
  | [], m, _, _ => Nat.zero_le _
  | x :: l, m, hn, h => by
    obtain ⟨h1, h2⟩ := List.nodup_cons.1 hn
    have hx := h x (List.mem_cons_self ..)
    have h3 := nodup_le (l := l) (m := m.erase x) h2 fun y hy => (List.mem_erase_of_ne (fun e => h1 (by rw [← e]; exact hy))).2 (h y (List.mem_cons_of_mem _ hy))
    rw [List.length_erase_of_mem hx] at h3
    have := List.length_pos_of_mem hx
    simp only [List.length_cons]
    omega
theorem flat_len9 {R : List (List TS)} (h : vsB R = true) : R.flatten.length ≤ 9 := by
  have h1 := vs_len h
  have h2 : ∀ l ∈ R, l.length ≤ 3 := fun l hl => (vr_len (vs_rule h hl)).2
  have : ∀ (R : List (List TS)), (∀ l ∈ R, l.length ≤ 3) → R.flatten.length ≤ 3 * R.length := by
    intro R
    induction R with
    | nil => intro _; simp
    | cons l R ih =>
      intro h
      have h3 := h l (List.mem_cons_self ..)
      have h4 := ih fun x hx => h x (List.mem_cons_of_mem _ hx)
      simp only [List.flatten_cons, List.length_append, List.length_cons]
      omega
  have := this R h2
  omega
theorem raw_len9 {R : List (List TS)} (h : vsB R = true) : (rawV R).length ≤ 9 := by unfold rawV; rw [List.length_map]; exact flat_len9 h
theorem vars_len9 {R : List (List TS)} (h : vsB R = true) : (varsL R).length ≤ 9 :=
  Nat.le_trans (nodup_le ((varsL_asc h).imp fun h => plt_ne h) fun x hx => (varsL_mem h x).1 hx) (raw_len9 h)
theorem varsR_len (R : List (List TS)) : (varsR R).length ≤ 9 := by
  unfold varsR
  cases h : vsB R
  · simp
  · rw [if_pos rfl]; exact vars_len9 h
theorem raw_pos {R : List (List TS)} (h : vsB R = true) : 0 < R.flatten.length := by
  have h1 := vs_len h
  match R, h1 with
  | l :: R, _ =>
    have h2 := vr_len (vs_rule h (List.mem_cons_self ..))
    simp only [List.flatten_cons, List.length_append]
    omega
theorem varF_len {R : List (List TS)} (h : vsB R = true) (n : Nat) : (varF R n).length ≤ 9 :=
  Nat.le_trans (nodup_le ((varF_asc h n).imp fun h => plt_ne h) fun x hx => ((varF_mem h n x).1 hx).2) (raw_len9 h)
theorem varsT_len {R : List (List TS)} (h : vsB R = true) (n : Nat) : (varsT R n).length ≤ 9 :=
  Nat.le_trans (nodup_le ((varsT_asc h n).imp fun h => plt_ne h) fun x hx => ((varsT_mem h n x).1 hx).2) (raw_len9 h)

end Go.Proofs.YtpmfabpnjacegaaGreatDoor

/-
  Decision diagrams in plain words: when one is valid, where following it leads. By an AI agent.
-/
namespace Go.Proofs.YtpmfabpnjacegaaGreatDoor
open Go.RowKit
set_option linter.unusedVariables false
set_option linter.unusedSimpArgs false
set_option linter.unnecessarySimpa false

/-- a node: feature and threshold; the references for less, and for not less -/
abbrev DN := (Int × Int) × (Int × Int)
def varLt (a b : Int × Int) : Bool := decide (a.1 < b.1 ∨ (a.1 = b.1 ∧ a.2 < b.2))
def refB (n : Nat) (r : Int) : Bool := decide (0 ≤ r ∧ r ≤ (n : Int) + 1)
/-- a variable stands before that of the node with a reference -/
def preB (v : Int × Int) (D : List DN) (r : Int) : Bool := decide (r < 2) || (D[(r - 2).toNat]?).any fun y => varLt v y.1
def numB (x : DN) (n : Nat) : Bool := ((decide (0 ≤ x.1.1 ∧ x.1.1 ≤ 5) && decide (1 ≤ x.1.2 ∧ x.1.2 ≤ 1000)) && !decide (x.2.1 = x.2.2)) && (refB n x.2.1 && refB n x.2.2)
/-- a node behind the nodes of a list -/
def dvB (x : DN) (D : List DN) : Bool := numB x D.length && ((preB x.1 D x.2.1 && preB x.1 D x.2.2) && !D.contains x)
def nodesB (D : List DN) : Bool := (List.range D.length).all fun i => (D[i]?).any fun x => dvB x (D.take i)
def dgB (r : Int) (D : List DN) : Bool := (decide (D.length ≤ 200) && refB D.length r) && nodesB D

theorem nodes_iff {D : List DN} : nodesB D = true ↔ ∀ (i : Nat) (x : DN), D[i]? = some x → dvB x (D.take i) = true := by
  unfold nodesB
  rw [List.all_eq_true]
  constructor
  · intro h i x hx
    have := h i (List.mem_range.2 (List.getElem?_eq_some_iff.1 hx).1)
    rw [hx] at this
    simpa using this
  · intro h i hi
    have hx := List.getElem?_eq_getElem (List.mem_range.1 hi)
    rw [hx]
    simpa using h i _ hx
theorem nodes_no {D : List DN} {i : Nat} {x : DN} (hx : D[i]? = some x) (h : dvB x (D.take i) = false) : nodesB D = false := by
  rw [Bool.eq_false_iff]
  intro e
  rw [nodes_iff.1 e i x hx] at h
  cases h
theorem dv_num {x : DN} {D : List DN} (h : numB x D.length = false) : dvB x D = false := by unfold dvB; rw [h, Bool.false_and]
theorem dv_low {x : DN} {D : List DN} (h : preB x.1 D x.2.1 = false) : dvB x D = false := by unfold dvB; rw [h, Bool.false_and, Bool.false_and, Bool.and_false]
theorem dv_high {x : DN} {D : List DN} (h : preB x.1 D x.2.2 = false) : dvB x D = false := by unfold dvB; rw [h, Bool.and_false, Bool.false_and, Bool.and_false]
theorem dv_mem {x : DN} {D : List DN} (h : D.contains x = true) : dvB x D = false := by unfold dvB; rw [h]; simp
theorem dv_yes {x : DN} {D : List DN} (h1 : numB x D.length = true) (h2 : preB x.1 D x.2.1 = true) (h3 : preB x.1 D x.2.2 = true) (h4 : D.contains x = false) : dvB x D = true := by unfold dvB; rw [h1, h2, h3, h4]; rfl
theorem dv_of {x : DN} {D : List DN} (h : dvB x D = true) : numB x D.length = true ∧ preB x.1 D x.2.1 = true ∧ preB x.1 D x.2.2 = true ∧ x ∉ D := by
  unfold dvB at h
  simp only [Bool.and_eq_true, Bool.not_eq_true'] at h
  exact ⟨h.1, h.2.1.1, h.2.1.2, fun hm => by have := List.contains_iff_mem.2 hm; rw [h.2.2] at this; cases this⟩
theorem num_of {x : DN} {n : Nat} (h : numB x n = true) : (0 ≤ x.1.1 ∧ x.1.1 ≤ 5) ∧ (1 ≤ x.1.2 ∧ x.1.2 ≤ 1000) ∧ x.2.1 ≠ x.2.2 ∧ (0 ≤ x.2.1 ∧ x.2.1 ≤ (n : Int) + 1) ∧ (0 ≤ x.2.2 ∧ x.2.2 ≤ (n : Int) + 1) := by
  unfold numB refB at h
  simp only [Bool.and_eq_true, decide_eq_true_eq, Bool.not_eq_true', decide_eq_false_iff_not] at h
  exact ⟨h.1.1.1, h.1.1.2, h.1.2, h.2.1, h.2.2⟩
theorem num_yes {x : DN} {n : Nat} (h1 : 0 ≤ x.1.1 ∧ x.1.1 ≤ 5) (h2 : 1 ≤ x.1.2 ∧ x.1.2 ≤ 1000) (h3 : x.2.1 ≠ x.2.2) (h4 : 0 ≤ x.2.1 ∧ x.2.1 ≤ (n : Int) + 1) (h5 : 0 ≤ x.2.2 ∧ x.2.2 ≤ (n : Int) + 1) : numB x n = true := by
  unfold numB refB
  rw [decide_eq_true h1, decide_eq_true h2, decide_eq_true h4, decide_eq_true h5, decide_eq_false h3]
  rfl
theorem num_no {x : DN} {n : Nat} (h : ¬ ((0 ≤ x.1.1 ∧ x.1.1 ≤ 5) ∧ (1 ≤ x.1.2 ∧ x.1.2 ≤ 1000) ∧ x.2.1 ≠ x.2.2 ∧ (0 ≤ x.2.1 ∧ x.2.1 ≤ (n : Int) + 1) ∧ (0 ≤ x.2.2 ∧ x.2.2 ≤ (n : Int) + 1))) : numB x n = false := by
  rw [Bool.eq_false_iff]
  exact fun e => h (num_of e)
theorem pre_small {v : Int × Int} {D : List DN} {r : Int} (h : r < 2) : preB v D r = true := by unfold preB; rw [decide_eq_true h, Bool.true_or]
theorem pre_at {v : Int × Int} {D : List DN} {r : Int} {i : Nat} {y : DN} (h : r = (i : Int) + 2) (hy : D[i]? = some y) : preB v D r = varLt v y.1 := by
  unfold preB
  rw [decide_eq_false (by omega), Bool.false_or, show (r - 2).toNat = i by omega, hy]
  rfl
theorem dg_nodes {r : Int} {D : List DN} (h : dgB r D = true) : D.length ≤ 200 ∧ (0 ≤ r ∧ r ≤ (D.length : Int) + 1) ∧ nodesB D = true := by
  unfold dgB refB at h
  simp only [Bool.and_eq_true, decide_eq_true_eq] at h
  exact ⟨h.1.1, h.1.2, h.2⟩
theorem dg_len {r : Int} {D : List DN} (h : ¬ D.length ≤ 200) : dgB r D = false := by unfold dgB; rw [decide_eq_false h, Bool.false_and, Bool.false_and]
theorem dg_root {r : Int} {D : List DN} (h : ¬ (0 ≤ r ∧ r ≤ (D.length : Int) + 1)) : dgB r D = false := by unfold dgB refB; rw [decide_eq_false h, Bool.and_false, Bool.false_and]
theorem dg_no {r : Int} {D : List DN} (h : nodesB D = false) : dgB r D = false := by unfold dgB; rw [h, Bool.and_false]
theorem dg_yes {r : Int} {D : List DN} (h1 : D.length ≤ 200) (h2 : 0 ≤ r ∧ r ≤ (D.length : Int) + 1) (h3 : nodesB D = true) : dgB r D = true := by unfold dgB refB; rw [decide_eq_true h1, decide_eq_true h2, h3]; rfl

/-! ### following a diagram -/
def goesT (x : DN) (l : List Int) : Int := if x.1.2 ≤ l.getD x.1.1.toNat 0 then x.2.2 else x.2.1
def wkF (D : List DN) (l : List Int) : Nat → Int → Int × Nat
  | 0, r => (r, 0)
  | s + 1, r => match (if r < 2 then none else D[(r - 2).toNat]?) with
    | none => (r, 0)
    | some x => ((wkF D l s (goesT x l)).1, (wkF D l s (goesT x l)).2 + 1)
theorem wkF_small {D : List DN} {l : List Int} {r : Int} (h : r < 2) : ∀ s, wkF D l s r = (r, 0)
  | 0 => rfl
  | s + 1 => by rw [wkF, if_pos h]
theorem goes_in {D : List DN} {l : List Int} {i : Nat} {x : DN} (hn : nodesB D = true) (hx : D[i]? = some x) : 0 ≤ goesT x l ∧ goesT x l ≤ (i : Int) + 1 := by
  have h := (num_of (dv_of (nodes_iff.1 hn i x hx)).1).2.2.2
  have hl : (D.take i).length = i := by rw [List.length_take]; have := (List.getElem?_eq_some_iff.1 hx).1; omega
  rw [hl] at h
  unfold goesT
  split
  · exact h.2
  · exact h.1
theorem wkF_enough {D : List DN} {l : List Int} (hn : nodesB D = true) : ∀ (s s' : Nat) (r : Int), r ≤ (s : Int) + 1 → s ≤ s' → wkF D l s' r = wkF D l s r
  | 0, s', r, h, _ => by rw [wkF_small (by omega)]; rfl
  | s + 1, 0, r, h, hs => by omega
  | s + 1, s' + 1, r, h, hs => by
    rw [wkF, wkF]
    by_cases h2 : r < 2
    · rw [if_pos h2]
    · rw [if_neg h2]
      cases hx : D[(r - 2).toNat]? with
      | none => rfl
      | some x =>
        have h1 := goes_in (l := l) hn hx
        simp only
        rw [wkF_enough hn s s' (goesT x l) (by omega) (by omega)]
/-- where following a diagram from a reference ends, and the nodes on the way -/
def wkD (D : List DN) (l : List Int) (r : Int) : Int × Nat := wkF D l r.toNat r
theorem wk_end {D : List DN} {l : List Int} {r : Int} (h : r < 2) : wkD D l r = (r, 0) := wkF_small h _
theorem wk_step {D : List DN} {l : List Int} {r : Int} {i : Nat} {x : DN} (hn : nodesB D = true) (hr : r = (i : Int) + 2) (hx : D[i]? = some x) : wkD D l r = ((wkD D l (goesT x l)).1, (wkD D l (goesT x l)).2 + 1) := by
  have h1 := goes_in (l := l) hn hx
  have e : r.toNat = (i + 1) + 1 := by omega
  have e2 : wkF D l (i + 1) (goesT x l) = wkD D l (goesT x l) := wkF_enough hn _ _ _ (by omega) (by omega)
  unfold wkD at e2 ⊢
  rw [e, wkF, if_neg (by omega), show (r - 2).toNat = i by omega, hx]
  simp only
  rw [e2]
def evR (r : Int) (D : List DN) (l : List Int) : Bool := (dgB r D && fvB l) && decide ((wkD D l r).1 = 1)
def teR (r : Int) (D : List DN) (l : List Int) : Int := if dgB r D && fvB l then ((wkD D l r).2 : Int) else 0

end Go.Proofs.YtpmfabpnjacegaaGreatDoor

/-
  How a diagram is built, in plain lists. By an AI agent.
-/
namespace Go.Proofs.YtpmfabpnjacegaaGreatDoor
open Go.RowKit
set_option linter.unusedVariables false
set_option linter.unusedSimpArgs false
set_option linter.unnecessarySimpa false

/-! ### values of variables as bits -/
def natOf : List Bool → Nat
  | [] => 0
  | b :: bs => (if b then 1 else 0) + 2 * natOf bs
theorem natOf_snoc (b : Bool) : ∀ bs : List Bool, natOf (bs ++ [b]) = natOf bs + (if b then 2 ^ bs.length else 0)
  | [] => by cases b <;> rfl
  | c :: bs => by
    rw [List.cons_append, natOf, natOf_snoc b bs, natOf, List.length_cons]
    cases b
    · simp
    · simp only [if_true, Nat.pow_succ]
      omega
theorem natOf_lt : ∀ bs : List Bool, natOf bs < 2 ^ bs.length
  | [] => by decide
  | c :: bs => by
    have h := natOf_lt bs
    rw [natOf, List.length_cons, Nat.pow_succ]
    split <;> omega
theorem natOf_bit : ∀ {bs : List Bool} {v : Nat} {b : Bool}, bs[v]? = some b → natOf bs / 2 ^ v % 2 = if b then 1 else 0
  | [], v, b, h => by simp at h
  | c :: bs, 0, b, h => by
    simp at h
    subst h
    rw [natOf, Nat.pow_zero, Nat.div_one]
    split <;> omega
  | c :: bs, v + 1, b, h => by
    have h1 := natOf_bit (bs := bs) (v := v) (b := b) (by simpa using h)
    rw [natOf, Nat.pow_succ, Nat.mul_comm (2 ^ v) 2, ← Nat.div_div_eq_div_mul]
    have : ((if c = true then 1 else 0) + 2 * natOf bs) / 2 = natOf bs := by split <;> omega
    rw [this]
    exact h1

/-! ### the value of the rules -/
def teB (V : List IQ) (bs : List Bool) (t : TS) : Bool := (V.zip bs).all fun q => !(q.1 == t.1 && q.2 == t.2)
def vaR (R : List (List TS)) (V : List IQ) (bs : List Bool) : Bool := R.any fun l => l.all (teB V bs)

/-! ### the nodes -/
def refD (x : DN) (D : List DN) : Int × List DN :=
  if x.2.1 = x.2.2 then (x.2.1, D) else if D.contains x then ((D.idxOf x : Int) + 2, D) else ((D.length : Int) + 2, D ++ [x])
def bldD (R : List (List TS)) (V : List IQ) : Nat → List Bool → List DN → Int × List DN
  | 0, bs, D => (if vaR R V bs then 1 else 0, D)
  | n + 1, bs, D => refD (V.getD bs.length (0, 0), ((bldD R V n (bs ++ [false]) D).1, (bldD R V n (bs ++ [true]) (bldD R V n (bs ++ [false]) D).2).1)) (bldD R V n (bs ++ [true]) (bldD R V n (bs ++ [false]) D).2).2
theorem bld_step {R : List (List TS)} {V : List IQ} {n : Nat} {bs : List Bool} {D D1 D2 : List DN} {x1 x2 : Int} (h1 : bldD R V n (bs ++ [false]) D = (x1, D1)) (h2 : bldD R V n (bs ++ [true]) D1 = (x2, D2)) : bldD R V (n + 1) bs D = refD (V.getD bs.length (0, 0), (x1, x2)) D2 := by
  rw [bldD, h1, h2]
theorem ref_same {x : DN} {D : List DN} (h : x.2.1 = x.2.2) : refD x D = (x.2.1, D) := if_pos h
theorem ref_old {x : DN} {D : List DN} {i : Nat} (h : x.2.1 ≠ x.2.2) (hi : D[i]? = some x) (hn : (D.take i).contains x = false) : refD x D = ((i : Int) + 2, D) := by
  unfold refD
  have hm := List.mem_of_getElem? hi
  rw [if_neg h, if_pos (List.contains_iff_mem.2 hm)]
  have hlt := (List.getElem?_eq_some_iff.1 hi).1
  have e : D.idxOf x = i := by
    have h1 : D = D.take i ++ x :: D.drop (i + 1) := by
      conv => lhs; rw [← List.take_append_drop i D]
      rw [List.drop_eq_getElem_cons hlt, (List.getElem?_eq_some_iff.1 hi).2]
    have h2 : x ∉ D.take i := fun hm => by rw [List.contains_iff_mem.2 hm] at hn; cases hn
    rw [h1, List.idxOf_append, if_neg h2, List.idxOf_cons_self, List.length_take]
    omega
  rw [e]
theorem ref_new {x : DN} {D : List DN} (h : x.2.1 ≠ x.2.2) (hn : D.contains x = false) : refD x D = ((D.length : Int) + 2, D ++ [x]) := by
  unfold refD
  rw [if_neg h, hn]
  rfl
theorem ref_len (x : DN) (D : List DN) : (refD x D).2.length ≤ D.length + 1 ∧ D.length ≤ (refD x D).2.length := by
  unfold refD
  split
  · simp
  · split <;> simp
theorem ref_range {x : DN} {D : List DN} (h : 0 ≤ x.2.1 ∧ x.2.1 ≤ (D.length : Int) + 1) : 0 ≤ (refD x D).1 ∧ (refD x D).1 ≤ ((refD x D).2.length : Int) + 1 := by
  unfold refD
  split
  · exact h
  · split
    · rename_i hc
      have := List.idxOf_lt_length_of_mem (List.contains_iff_mem.1 hc)
      show 0 ≤ ((D.idxOf x : Nat) : Int) + 2 ∧ ((D.idxOf x : Nat) : Int) + 2 ≤ (D.length : Int) + 1
      omega
    · show 0 ≤ (D.length : Int) + 2 ∧ (D.length : Int) + 2 ≤ ((D ++ [x]).length : Int) + 1
      simp
      omega
/-- the most nodes that are appended -/
def cst : Nat → Nat
  | 0 => 0
  | n + 1 => 2 * cst n + 1
theorem bld_len (R : List (List TS)) (V : List IQ) : ∀ (n : Nat) (bs : List Bool) (D : List DN), (bldD R V n bs D).2.length ≤ D.length + cst n ∧ D.length ≤ (bldD R V n bs D).2.length
  | 0, bs, D => by simp [bldD, cst]
  | n + 1, bs, D => by
    have h1 := bld_len R V n (bs ++ [false]) D
    have h2 := bld_len R V n (bs ++ [true]) (bldD R V n (bs ++ [false]) D).2
    have h3 := ref_len (V.getD bs.length (0, 0), ((bldD R V n (bs ++ [false]) D).1, (bldD R V n (bs ++ [true]) (bldD R V n (bs ++ [false]) D).2).1)) (bldD R V n (bs ++ [true]) (bldD R V n (bs ++ [false]) D).2).2
    rw [bldD, cst]
    omega
theorem bld_range (R : List (List TS)) (V : List IQ) : ∀ (n : Nat) (bs : List Bool) (D : List DN), 0 ≤ (bldD R V n bs D).1 ∧ (bldD R V n bs D).1 ≤ ((bldD R V n bs D).2.length : Int) + 1
  | 0, bs, D => by
    show 0 ≤ (if vaR R V bs then (1 : Int) else 0) ∧ (if vaR R V bs then (1 : Int) else 0) ≤ (D.length : Int) + 1
    split <;> omega
  | n + 1, bs, D => by
    have h1 := bld_range R V n (bs ++ [false]) D
    have h2 := (bld_len R V n (bs ++ [true]) (bldD R V n (bs ++ [false]) D).2).2
    rw [bldD]
    refine ref_range ?_
    show 0 ≤ (bldD R V n (bs ++ [false]) D).1 ∧ (bldD R V n (bs ++ [false]) D).1 ≤ _
    omega
theorem cst_le : ∀ {n : Nat}, n ≤ 9 → cst n ≤ 511
  | 0, _ => by decide
  | 1, _ => by decide
  | 2, _ => by decide
  | 3, _ => by decide
  | 4, _ => by decide
  | 5, _ => by decide
  | 6, _ => by decide
  | 7, _ => by decide
  | 8, _ => by decide
  | 9, _ => by decide
  | n + 10, h => by omega
def bdR (R : List (List TS)) : (Int × List DN) × Bool := if vsB R then (bldD R (varsL R) (varsL R).length [] [], true) else ((0, []), false)
theorem bd_len (R : List (List TS)) : (bdR R).1.2.length ≤ 511 := by
  unfold bdR
  cases h : vsB R
  · simp
  · rw [if_pos rfl]
    have h1 := (bld_len R (varsL R) (varsL R).length [] []).1
    have h2 := cst_le (vars_len9 h)
    simp only [List.length_nil] at h1
    show (bldD R (varsL R) (varsL R).length [] []).2.length ≤ 511
    omega

end Go.Proofs.YtpmfabpnjacegaaGreatDoor

/-
  A slice of bytes that the call made itself: what append of one byte leaves, and what string(b) gives. By an AI agent.
-/
namespace Go.Proofs.YtpmfabpnjacegaaGreatDoor
open Go.RowKit
set_option linter.unusedVariables false

def OwnB (w : World) (base : Nat) (v : Value) (l : List UInt8) : Prop := w.ownsRow base 5 1 v l.length (Lib.byteCells l)

theorem info_u8 : (Tryz.prog.info? 5).map (fun i => (i.zero, i.size, i.bytes)) = some (some (.int .u8 0), 1, 1) := by kernel_rfl

theorem OwnB.nil (w : World) (base : Nat) : OwnB w base (.slice none 0 0) [] := World.ownsRow_nil _ _ _ _

theorem OwnB.made (w : World) (base : Nat) (cur : Array Value) (cap : Nat) (hb : base ≤ w.heap.size) (hm : cap ≤ maxLen) (hs : cur.size = cap) :
    OwnB (w.alloc (.cells cur 5)) base (.slice (some ⟨w.heap.size, 0, none⟩) 0 cap) [] :=
  World.ownsRow_made w cur cap hb hm (by omega)

theorem OwnB.alloc {w : World} {base : Nat} {v : Value} {l : List UInt8} (h : OwnB w base v l) (o : Obj) : OwnB (w.alloc o) base v l := World.ownsRow.alloc h o

/-- string(b) of a slice of the call's own. -/
theorem OwnB.convert {w : World} {base : Nat} {v : Value} {l : List UInt8} (h : OwnB w base v l) :
    (convert 22 9 v).run Tryz.prog w = .ok (.string ⟨l.toArray⟩) w := by
  have h2 := h.2
  rcases h2 with ⟨rfl, h0⟩ | ⟨g, cap, cur, rfl, -, -, -, -, -, -⟩
  · obtain rfl : l = [] := List.eq_nil_of_length_eq_zero h0
    exact run_convert_bytes_nil w 22 5 Tryz.underlying22 Tryz.underlying5 _ _ _ Tryz.underlying9
  · exact run_convert_bytes_back (P := Tryz.prog) w 22 9 5 ⟨g, 0, none⟩ cap l Tryz.underlying22 Tryz.underlying5 Tryz.underlying9
      (fun j hj => World.ownsRow.cells h (g := g) rfl j _ (by simp [Lib.byteCells, hj]))

theorem ofNat_toNat_int (x : Int) (h0 : 0 ≤ x) (h1 : x ≤ 255) : ((UInt8.ofNat x.toNat).toNat : Int) = x := by
  rw [UInt8.toNat_ofNat']
  have : x.toNat < 256 := by omega
  rw [show 2 ^ 8 = 256 from rfl, Nat.mod_eq_of_lt this]
  omega

/-- append of one byte, which lies in a new block of one cell. -/
theorem append_byte {ops : Array Oper} {rest : List Oper} {o : Oper} {a : Act} {Q : Exit → Act → World → Prop} {w0 : World} (hgd : o.guard = none) (s y : Operand)
    (ho : o.op = .call { callee := .builtin .append, args := #[s, y], argTypes := #[22, 22] })
    (base : Nat) (v : Value) (l : List UInt8) (x : Int) (hown : OwnB w0 base v l) (hs : a.eval s = v)
    (hy : a.eval y = .slice (some ⟨w0.heap.size, 0, none⟩) 1 1) (h0 : 0 ≤ x) (h1 : x ≤ 255) (hlen : l.length ≤ 70368744177664) (hbase : base ≤ w0.heap.size)
    (h : ∀ v' w', OwnB w' base v' (l ++ [UInt8.ofNat x.toNat]) → Below base w0 w' → wpList Tryz.prog ops Q rest (a.put o.dst v') w') :
    wpList Tryz.prog ops Q (o :: rest) a (w0.alloc (.cells #[.int .u8 x] 5)) := by
  obtain ⟨i0, hi, hz0, hz1, hz2⟩ := info_parts info_u8
  refine wpList_append_own _ hgd s y 22 ho base 5 i0 (.int .u8 0) 1 1 Tryz.underlying22 hi hz0 hz1 hz2 rfl (by decide) v l.length (Lib.byteCells l) hs (World.ownsRow.alloc hown _)
    ⟨w0.heap.size, 0, none⟩ 1 1 [.int .u8 x] hy rfl ?_ ?_ (by unfold maxLen; omega) (by omega) (by simp; omega) ?_
  · intro j u hj
    match j, hj with
    | 0, hj => simp at hj; subst hj; simp [Addr.add, World.cell?_alloc_at _ _ _ _ rfl]
  · intro u hu
    simp at hu
    subst hu
    rfl
  · intro v' w' h2 h3 _
    refine h v' w' ?_ ?_
    · have e1 : (l ++ [UInt8.ofNat x.toNat]).length = l.length + 1 := by simp
      have e2 : Lib.byteCells (l ++ [UInt8.ofNat x.toNat]) = Lib.byteCells l ++ [.int .u8 x] := by
        simp only [Lib.byteCells, List.map_append, List.map_cons, List.map_nil, ofNat_toNat_int x h0 h1]
      unfold OwnB
      rw [e1, e2]
      exact h2
    · exact ((Below.refl base w0).alloc hbase _).grown h3 (by simp; omega) (fun k hk => (World.ownsRow.lt hown k hk).1)

/-- string([]byte{x}). -/
theorem convert_one (w0 : World) (x : Int) (h0 : 0 ≤ x) (h1 : x ≤ 255) :
    (convert 22 9 (.slice (some ⟨w0.heap.size, 0, none⟩) 1 1)).run Tryz.prog (w0.alloc (.cells #[.int .u8 x] 5)) =
      .ok (.string ⟨#[UInt8.ofNat x.toNat]⟩) (w0.alloc (.cells #[.int .u8 x] 5)) := by
  have h := run_convert_bytes_back (P := Tryz.prog) (w0.alloc (.cells #[.int .u8 x] 5)) 22 9 5 ⟨w0.heap.size, 0, none⟩ 1 [UInt8.ofNat x.toNat] Tryz.underlying22 Tryz.underlying5 Tryz.underlying9
      (fun j hj => by
        obtain rfl : j = 0 := by simpa using hj
        simp [Addr.add, World.cell?_alloc_at _ _ _ _ rfl]
        have := ofNat_toNat_int x h0 h1
        simpa using this.symm)
  exact h

/-- make([]byte, n, c). -/
theorem make_bytes (w : World) (n c : Nat) (hl : n ≤ c) (hc : c ≤ 140737488355328) :
    (Instr.makeSlice 22 (.int .i64 (n : Int)) (.int .i64 (c : Int))).run Tryz.prog w = .ok (.slice (some ⟨w.heap.size, 0, none⟩) n c) (w.alloc (.cells (madeCells #[.int .u8 0] c) 5)) := by
  obtain ⟨i0, hi, hz0, hz1, hz2⟩ := info_parts info_u8
  have h := run_make (P := Tryz.prog) w 22 5 i0 (.int .u8 0) Tryz.underlying22 hi hz0 .i64 .i64 (n : Int) (c : Int) (by omega) (by omega) (by rw [hz2]; omega) (by omega)
  simp only [Int.toNat_natCast, hz1, Nat.mul_one] at h
  exact h

theorem OwnB.made0 (w : World) (base c : Nat) (hb : base ≤ w.heap.size) (hc : c ≤ maxLen) :
    OwnB (w.alloc (.cells (madeCells #[.int .u8 0] c) 5)) base (.slice (some ⟨w.heap.size, 0, none⟩) 0 c) [] :=
  OwnB.made w base _ c hb hc (size_madeCells _ _)

end Go.Proofs.YtpmfabpnjacegaaGreatDoor

