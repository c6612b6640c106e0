/-
  Blocks in plain lists: the members of a key, the pairs of a block, pairs in order and each once. By an AI agent.
-/
import Derived.Test.YtookcggmapldeaaPlainSet
namespace Go.Proofs.Ytookcggmapldeaa
set_option linter.unusedVariables false
set_option linter.unusedSimpArgs false

/-! ### members -/
/-- the indices of the lists that hold x -/
def memN (K : List (List Str)) (x : Str) : List Int := ((List.range K.length).filter fun i : Nat => decide (x ∈ K.getD i [])).map fun i : Nat => (i : Int)
theorem memN_nil (x : Str) : memN [] x = [] := rfl
theorem memN_snoc (K : List (List Str)) (l : List Str) (x : Str) : memN (K ++ [l]) x = memN K x ++ if x ∈ l then [(K.length : Int)] else [] := by
  unfold memN
  rw [List.length_append, List.length_singleton, List.range_succ, List.filter_append, List.map_append]
  congr 1
  · congr 1
    refine List.filter_congr fun i hi => ?_
    have hlt := List.mem_range.1 hi
    rw [List.getD_eq_getElem?_getD, List.getD_eq_getElem?_getD, List.getElem?_append_left hlt]
  · have e : (K ++ [l]).getD K.length [] = l := by
      rw [List.getD_eq_getElem?_getD, List.getElem?_append_right (Nat.le_refl _), Nat.sub_self]
      rfl
    by_cases h : x ∈ l
    · simp [h, e]
    · simp [h, e]
theorem mem_memN {K : List (List Str)} {x : Str} {z : Int} : z ∈ memN K x ↔ ∃ (i : Nat) (l : List Str), K[i]? = some l ∧ x ∈ l ∧ z = (i : Int) := by
  unfold memN
  rw [List.mem_map]
  constructor
  · rintro ⟨i, hi, rfl⟩
    rw [List.mem_filter, List.mem_range] at hi
    obtain ⟨h1, h2⟩ := hi
    refine ⟨i, K[i], List.getElem?_eq_getElem h1, ?_, rfl⟩
    rw [List.getD_eq_getElem?_getD, List.getElem?_eq_getElem h1] at h2
    simpa using h2
  · rintro ⟨i, l, h1, h2, rfl⟩
    refine ⟨i, ?_, rfl⟩
    rw [List.mem_filter, List.mem_range]
    refine ⟨(List.getElem?_eq_some_iff.1 h1).1, ?_⟩
    rw [List.getD_eq_getElem?_getD, h1]
    simpa using h2
theorem memN_asc (K : List (List Str)) (x : Str) : (memN K x).Pairwise (· < ·) := by
  unfold memN
  rw [List.pairwise_map]
  exact (List.Pairwise.filter _ (List.pairwise_lt_range (n := K.length))).imp fun h => by omega
theorem memN_len (K : List (List Str)) (x : Str) : (memN K x).length ≤ K.length := by
  unfold memN
  rw [List.length_map]
  have := List.length_filter_le (fun i => decide (x ∈ K.getD i [])) (List.range K.length)
  simpa using this
theorem memN_pos {K : List (List Str)} {x : Str} : memN K x ≠ [] ↔ x ∈ K.flatten := by
  rw [List.mem_flatten]
  constructor
  · intro h
    obtain ⟨z, hz⟩ := List.exists_mem_of_ne_nil _ h
    obtain ⟨i, l, h1, h2, h3⟩ := mem_memN.1 hz
    exact ⟨l, List.mem_of_getElem? h1, h2⟩
  · rintro ⟨l, hl, hx⟩ e
    obtain ⟨i, hi⟩ := List.getElem?_of_mem hl
    have : (i : Int) ∈ memN K x := mem_memN.2 ⟨i, l, hi, hx, rfl⟩
    rw [e] at this
    cases this
theorem memN_not {K : List (List Str)} {x : Str} (h : x ∉ K.flatten) : memN K x = [] := by
  by_cases e : memN K x = []
  · exact e
  · exact absurd (memN_pos.1 e) h
/-- the blocks: each key with its members -/
def blkL (K : List (List Str)) : List (Str × List Int) := (setL K.flatten).map fun x => (x, memN K x)
theorem blkL_len (K : List (List Str)) : (blkL K).length = (setL K.flatten).length := by simp [blkL]
theorem blkL_at {K : List (List Str)} {j : Nat} {x : Str} (h : (setL K.flatten)[j]? = some x) : (blkL K)[j]? = some (x, memN K x) := by simp [blkL, h]

/-! ### pairs of a block -/
abbrev IQ := Int × Int
/-- the pairs whose first member is one of the first n -/
def prsT (m : List Int) (n : Nat) : List IQ := (List.range n).flatMap fun i => (m.drop (i + 1)).map fun y => (m.getD i 0, y)
def prsN (m : List Int) : List IQ := prsT m m.length
theorem prsT_zero (m : List Int) : prsT m 0 = [] := rfl
theorem prsT_succ {m : List Int} {n : Nat} {x : Int} (h : m[n]? = some x) : prsT m (n + 1) = prsT m n ++ (m.drop (n + 1)).map fun y => (x, y) := by
  unfold prsT
  rw [List.range_succ, List.flatMap_append]
  congr 1
  rw [List.flatMap_cons, List.flatMap_nil, List.append_nil, List.getD_eq_getElem?_getD, h]
  rfl
theorem mem_prsN {m : List Int} {p : IQ} : p ∈ prsN m ↔ ∃ (i j : Nat), i < j ∧ m[i]? = some p.1 ∧ m[j]? = some p.2 := by
  unfold prsN prsT
  rw [List.mem_flatMap]
  constructor
  · rintro ⟨i, hi, hp⟩
    have hlt := List.mem_range.1 hi
    rw [List.mem_map] at hp
    obtain ⟨y, hy, rfl⟩ := hp
    obtain ⟨j, hj⟩ := List.getElem?_of_mem hy
    rw [List.getElem?_drop] at hj
    refine ⟨i, i + 1 + j, by omega, ?_, hj⟩
    rw [List.getD_eq_getElem?_getD, List.getElem?_eq_getElem hlt]
    rfl
  · rintro ⟨i, j, hij, h1, h2⟩
    refine ⟨i, List.mem_range.2 (List.getElem?_eq_some_iff.1 h1).1, ?_⟩
    rw [List.mem_map]
    refine ⟨p.2, ?_, ?_⟩
    · refine List.mem_of_getElem? (i := j - (i + 1)) ?_
      rw [List.getElem?_drop, show i + 1 + (j - (i + 1)) = j by omega]
      exact h2
    · rw [List.getD_eq_getElem?_getD, h1]
      rfl
theorem mem_prs_asc {m : List Int} (hm : m.Pairwise (· < ·)) {p : IQ} : p ∈ prsN m ↔ p.1 ∈ m ∧ p.2 ∈ m ∧ p.1 < p.2 := by
  rw [mem_prsN]
  constructor
  · rintro ⟨i, j, hij, h1, h2⟩
    obtain ⟨l1, e1⟩ := List.getElem?_eq_some_iff.1 h1
    obtain ⟨l2, e2⟩ := List.getElem?_eq_some_iff.1 h2
    refine ⟨List.mem_of_getElem? h1, List.mem_of_getElem? h2, ?_⟩
    rw [← e1, ← e2]
    exact List.pairwise_iff_getElem.1 hm i j l1 l2 hij
  · rintro ⟨h1, h2, h3⟩
    obtain ⟨i, hi⟩ := List.getElem?_of_mem h1
    obtain ⟨j, hj⟩ := List.getElem?_of_mem h2
    obtain ⟨l1, e1⟩ := List.getElem?_eq_some_iff.1 hi
    obtain ⟨l2, e2⟩ := List.getElem?_eq_some_iff.1 hj
    refine ⟨i, j, ?_, hi, hj⟩
    rcases Nat.lt_trichotomy i j with h | h | h
    · exact h
    · subst h
      rw [← e1, ← e2] at h3
      omega
    · have := List.pairwise_iff_getElem.1 hm j i l2 l1 h
      rw [e1, e2] at this
      omega
theorem prsT_len (m : List Int) (n : Nat) (hn : n ≤ m.length) : (prsT m n).length ≤ n * m.length := by
  induction n with
  | zero => simp [prsT]
  | succ n ih =>
    rw [prsT_succ (List.getElem?_eq_getElem (show n < m.length by omega))]
    have := ih (by omega)
    simp only [List.length_append, List.length_map, List.length_drop, Nat.succ_mul]
    omega
theorem prsN_len (m : List Int) : (prsN m).length ≤ m.length * m.length := prsT_len m m.length (Nat.le_refl _)

/-! ### pairs in order -/
def plt (p q : IQ) : Prop := p.1 < q.1 ∨ (p.1 = q.1 ∧ p.2 < q.2)
instance (p q : IQ) : Decidable (plt p q) := by unfold plt; exact inferInstance
theorem plt_irr (p : IQ) : ¬ plt p p := by unfold plt; omega
theorem plt_trans {p q r : IQ} (h : plt p q) (k : plt q r) : plt p r := by unfold plt at *; omega
theorem plt_tri (p q : IQ) : plt p q ∨ p = q ∨ plt q p := by
  unfold plt
  rcases Int.lt_trichotomy p.1 q.1 with h | h | h
  · exact .inl (.inl h)
  · rcases Int.lt_trichotomy p.2 q.2 with k | k | k
    · exact .inl (.inr ⟨h, k⟩)
    · exact .inr (.inl (Prod.ext h k))
    · exact .inr (.inr (.inr ⟨h.symm, k⟩))
  · exact .inr (.inr (.inl h))
theorem plt_ne {p q : IQ} (h : plt p q) : p ≠ q := fun e => by subst e; exact plt_irr p h
def AscP (l : List IQ) : Prop := l.Pairwise plt
/-- p in its place, unless it is there -/
def putP : List IQ → IQ → List IQ
  | [], p => [p]
  | q :: l, p => if plt q p then q :: putP l p else if q = p then q :: l else p :: q :: l
theorem putP_front (p : IQ) : ∀ (l : List IQ) (k : Nat), (∀ j q, l[j]? = some q → j < k → plt q p) → putP l p = l.take k ++ putP (l.drop k) p
  | l, 0, _ => by simp
  | [], k + 1, _ => by simp
  | q :: l, k + 1, h => by
    have h0 : plt q p := h 0 q rfl (Nat.zero_lt_succ _)
    have h1 := putP_front p l k fun j x hj hk => h (j + 1) x (by simpa using hj) (by omega)
    show (if plt q p then q :: putP l p else _) = _
    rw [if_pos h0, h1]
    rfl
theorem putP_same {p : IQ} {l : List IQ} {k : Nat} (h : ∀ j q, l[j]? = some q → j < k → plt q p) (hk : l[k]? = some p) : putP l p = l := by
  rw [putP_front p l k h]
  obtain ⟨hl, he⟩ := List.getElem?_eq_some_iff.1 hk
  have e : l.drop k = p :: l.drop (k + 1) := by rw [← he, List.drop_eq_getElem_cons hl]
  rw [e]
  show l.take k ++ (if plt p p then p :: putP _ p else if p = p then p :: l.drop (k + 1) else _) = l
  rw [if_neg (plt_irr p), if_pos rfl, ← e, List.take_append_drop]
theorem putP_new {p : IQ} {l : List IQ} {k : Nat} (h : ∀ j q, l[j]? = some q → j < k → plt q p) (hn : ∀ q, l[k]? = some q → ¬ plt q p ∧ q ≠ p) : putP l p = l.take k ++ p :: l.drop k := by
  rw [putP_front p l k h]
  congr 1
  cases hd : l.drop k with
  | nil => rfl
  | cons q r =>
    have hq : l[k]? = some q := by
      have : (l.drop k)[0]? = some q := by rw [hd]; rfl
      rw [List.getElem?_drop] at this
      simpa using this
    obtain ⟨h1, h2⟩ := hn q hq
    show (if plt q p then q :: putP r p else if q = p then q :: r else p :: q :: r) = _
    rw [if_neg h1, if_neg h2]
theorem putP_mem (p q : IQ) : ∀ (l : List IQ), q ∈ putP l p ↔ q = p ∨ q ∈ l
  | [] => by simp [putP]
  | x :: l => by
    show q ∈ (if plt x p then x :: putP l p else if x = p then x :: l else p :: x :: l) ↔ _
    split
    · rw [List.mem_cons, putP_mem p q l, List.mem_cons]
      constructor
      · rintro (h | h | h)
        · exact .inr (.inl h)
        · exact .inl h
        · exact .inr (.inr h)
      · rintro (h | h | h)
        · exact .inr (.inl h)
        · exact .inl h
        · exact .inr (.inr h)
    · split
      · rename_i h1 h2
        rw [List.mem_cons]
        constructor
        · exact fun h => .inr h
        · rintro (h | h)
          · exact .inl (h.trans h2.symm)
          · exact h
      · rw [List.mem_cons]
theorem putP_asc {p : IQ} : ∀ {l : List IQ}, AscP l → AscP (putP l p)
  | [], _ => List.pairwise_singleton _ _
  | x :: l, h => by
    have hc := List.pairwise_cons.1 h
    show AscP (if plt x p then x :: putP l p else if x = p then x :: l else p :: x :: l)
    split
    · rename_i h1
      refine List.pairwise_cons.2 ⟨fun y hy => ?_, putP_asc hc.2⟩
      rcases (putP_mem p y l).1 hy with rfl | h2
      · exact h1
      · exact hc.1 y h2
    · split
      · exact h
      · rename_i h1 h2
        refine List.pairwise_cons.2 ⟨fun y hy => ?_, h⟩
        have h3 : plt p x := by
          rcases plt_tri x p with h4 | h4 | h4
          · exact absurd h4 h1
          · exact absurd h4 h2
          · exact h4
        rcases List.mem_cons.1 hy with rfl | h4
        · exact h3
        · exact plt_trans h3 (hc.1 y h4)
theorem putP_length (p : IQ) : ∀ (l : List IQ), (putP l p).length ≤ l.length + 1
  | [] => by simp [putP]
  | x :: l => by
    show (if plt x p then x :: putP l p else if x = p then x :: l else p :: x :: l).length ≤ _
    have := putP_length p l
    split
    · simp; omega
    · split <;> simp
/-- in order, each once -/
def setP (l : List IQ) : List IQ := l.foldl putP []
theorem setP_snoc (l : List IQ) (p : IQ) : setP (l ++ [p]) = putP (setP l) p := by simp [setP]
theorem setP_asc (l : List IQ) : AscP (setP l) := by
  refine snoc_ind2 (P := fun l => AscP (setP l)) List.Pairwise.nil (fun l p ih => ?_) l
  rw [setP_snoc]
  exact putP_asc ih
theorem setP_mem (l : List IQ) (p : IQ) : p ∈ setP l ↔ p ∈ l := by
  refine snoc_ind2 (P := fun l => p ∈ setP l ↔ p ∈ l) (by simp [setP]) (fun l q ih => ?_) l
  rw [setP_snoc, putP_mem, ih]
  simp [or_comm]
theorem setP_length (l : List IQ) : (setP l).length ≤ l.length := by
  refine snoc_ind2 (P := fun l => (setP l).length ≤ l.length) (by simp [setP]) (fun l q ih => ?_) l
  rw [setP_snoc]
  have := putP_length q (setP l)
  simp
  omega
theorem ascP_ext {a b : List IQ} (ha : AscP a) (hb : AscP b) (h : ∀ x, x ∈ a ↔ x ∈ b) : a = b := by
  have na : a.Nodup := ha.imp fun h => plt_ne h
  have nb : b.Nodup := hb.imp fun h => plt_ne h
  refine List.Perm.eq_of_pairwise (le := fun p q => plt p q ∨ p = q) (fun x y _ _ h1 h2 => ?_) (ha.imp .inl) (hb.imp .inl) ((List.perm_ext_iff_of_nodup na nb).2 h)
  rcases h1 with h1 | h1
  · rcases h2 with h2 | h2
    · exact absurd (plt_trans h1 h2) (plt_irr x)
    · exact h2.symm
  · exact h1
/-- equal neighbours once -/
def cmpP : List IQ → List IQ
  | [] => []
  | [p] => [p]
  | p :: q :: l => if q = p then cmpP (q :: l) else p :: cmpP (q :: l)
theorem cmpP_mem (x : IQ) : ∀ (l : List IQ), x ∈ cmpP l ↔ x ∈ l
  | [] => Iff.rfl
  | [p] => Iff.rfl
  | p :: q :: l => by
    have ih := cmpP_mem x (q :: l)
    show x ∈ (if q = p then cmpP (q :: l) else p :: cmpP (q :: l)) ↔ _
    split
    · rename_i e
      subst e
      rw [ih]
      simp
    · rw [List.mem_cons, ih, List.mem_cons (b := p)]
theorem cmpP_asc : ∀ {l : List IQ}, (l.Pairwise fun p q => ¬ plt q p) → AscP (cmpP l)
  | [], _ => List.Pairwise.nil
  | [p], _ => List.pairwise_singleton _ _
  | p :: q :: l, h => by
    have hc := List.pairwise_cons.1 h
    have ih := cmpP_asc hc.2
    show AscP (if q = p then cmpP (q :: l) else p :: cmpP (q :: l))
    split
    · exact ih
    · rename_i e
      refine List.pairwise_cons.2 ⟨fun y hy => ?_, ih⟩
      have hpq : plt p q := by
        rcases plt_tri p q with h1 | h1 | h1
        · exact h1
        · exact absurd h1.symm e
        · exact absurd h1 (hc.1 q (List.mem_cons_self ..))
      have hy2 := (cmpP_mem y (q :: l)).1 hy
      rcases List.mem_cons.1 hy2 with rfl | h2
      · exact hpq
      · have h3 := (List.pairwise_cons.1 hc.2).1 y h2
        rcases plt_tri q y with h4 | h4 | h4
        · exact plt_trans hpq h4
        · rw [← h4]; exact hpq
        · exact absurd h4 h3
/-- sorted and compacted -/
theorem cmp_set {s l : List IQ} (hs : s.Pairwise fun p q => ¬ plt q p) (h : ∀ x, x ∈ s ↔ x ∈ l) : cmpP s = setP l :=
  ascP_ext (cmpP_asc hs) (setP_asc l) fun x => by rw [cmpP_mem, setP_mem, h x]
theorem cmpP_length : ∀ (l : List IQ), (cmpP l).length ≤ l.length
  | [] => Nat.le_refl _
  | [p] => Nat.le_refl _
  | p :: q :: l => by
    have ih := cmpP_length (q :: l)
    show (if q = p then cmpP (q :: l) else p :: cmpP (q :: l)).length ≤ _
    split
    · simp at *; omega
    · simp at *; omega

/-! ### what the functions answer -/
def smallB (most : Int) (b : Str × List Int) : List IQ := if (b.2.length : Int) ≤ most then prsN b.2 else []
def rawP (K : List (List Str)) (most : Int) : List IQ := (blkL K).flatMap (smallB most)
def bpR (K : List (List Str)) (most : Int) : List IQ := setP (rawP K most)
def lbR (K : List (List Str)) : Nat := (blkL K).foldl (fun n b => max n b.2.length) 0
def osR (K : List (List Str)) (most : Int) : List Str := ((blkL K).filter fun b => decide (most < (b.2.length : Int))).map Prod.fst
theorem mem_rawP {K : List (List Str)} {most : Int} {p : IQ} : p ∈ rawP K most ↔ ∃ x, x ∈ K.flatten ∧ ((memN K x).length : Int) ≤ most ∧ p ∈ prsN (memN K x) := by
  unfold rawP smallB blkL
  rw [List.mem_flatMap]
  constructor
  · rintro ⟨b, hb, hp⟩
    obtain ⟨x, hx, rfl⟩ := List.mem_map.1 hb
    split at hp
    · rename_i h
      exact ⟨x, (setL_mem _ _).1 hx, h, hp⟩
    · cases hp
  · rintro ⟨x, hx, h1, h2⟩
    refine ⟨_, List.mem_map.2 ⟨x, (setL_mem _ _).2 hx, rfl⟩, ?_⟩
    rw [if_pos h1]
    exact h2
theorem mem_bpR {K : List (List Str)} {most : Int} {p : IQ} : p ∈ bpR K most ↔ ∃ x, x ∈ K.flatten ∧ ((memN K x).length : Int) ≤ most ∧ p.1 ∈ memN K x ∧ p.2 ∈ memN K x ∧ p.1 < p.2 := by
  unfold bpR
  rw [setP_mem, mem_rawP]
  constructor
  · rintro ⟨x, h1, h2, h3⟩
    exact ⟨x, h1, h2, (mem_prs_asc (memN_asc K x)).1 h3⟩
  · rintro ⟨x, h1, h2, h3⟩
    exact ⟨x, h1, h2, (mem_prs_asc (memN_asc K x)).2 h3⟩
theorem foldmax_le (l : List (Str × List Int)) (n : Nat) : n ≤ l.foldl (fun n b => max n b.2.length) n := by
  induction l generalizing n with
  | nil => exact Nat.le_refl _
  | cons b l ih => exact Nat.le_trans (Nat.le_max_left _ _) (ih _)
theorem foldmax_mem {l : List (Str × List Int)} {b : Str × List Int} (hb : b ∈ l) (n : Nat) : b.2.length ≤ l.foldl (fun n b => max n b.2.length) n := by
  induction l generalizing n with
  | nil => cases hb
  | cons c l ih =>
    rcases List.mem_cons.1 hb with rfl | h
    · exact Nat.le_trans (Nat.le_max_right _ _) (foldmax_le l _)
    · exact ih h _
theorem foldmax_is (l : List (Str × List Int)) (n : Nat) : l.foldl (fun n b => max n b.2.length) n = n ∨ ∃ b ∈ l, l.foldl (fun n b => max n b.2.length) n = b.2.length := by
  induction l generalizing n with
  | nil => exact .inl rfl
  | cons c l ih =>
    rw [List.foldl_cons]
    rcases ih (max n c.2.length) with h | ⟨b, hb, h⟩
    · rw [h]
      rcases Nat.le_total n c.2.length with h1 | h1
      · exact .inr ⟨c, List.mem_cons_self .., Nat.max_eq_right h1⟩
      · exact .inl (Nat.max_eq_left h1)
    · exact .inr ⟨b, List.mem_cons_of_mem _ hb, h⟩
theorem lb_of {K : List (List Str)} {n : Nat} (h1 : ∀ x, x ∈ K.flatten → (memN K x).length ≤ n) (h2 : n = 0 ∨ ∃ x, x ∈ K.flatten ∧ (memN K x).length = n) : n = lbR K := by
  have hm : ∀ x, x ∈ K.flatten → (x, memN K x) ∈ blkL K := fun x hx => List.mem_map.2 ⟨x, (setL_mem _ _).2 hx, rfl⟩
  have hle : n ≤ lbR K := by
    rcases h2 with h | ⟨x, hx, h⟩
    · omega
    · rw [← h]
      exact foldmax_mem (hm x hx) 0
  rcases foldmax_is (blkL K) 0 with h | ⟨b, hb, h⟩
  · have h3 : lbR K = 0 := h
    omega
  · obtain ⟨x, hx, rfl⟩ := List.mem_map.1 hb
    have h3 := h1 x ((setL_mem _ _).1 hx)
    have h4 : lbR K = (memN K x).length := h
    omega
theorem lb_top (K : List (List Str)) : lbR K ≤ K.length := by
  rcases foldmax_is (blkL K) 0 with h | ⟨b, hb, h⟩
  · have h3 : lbR K = 0 := h
    omega
  · obtain ⟨x, hx, rfl⟩ := List.mem_map.1 hb
    have h3 := memN_len K x
    have h4 : lbR K = (memN K x).length := h
    omega
theorem os_asc (K : List (List Str)) (most : Int) : Asc (osR K most) := by
  unfold osR Asc
  rw [List.pairwise_map]
  refine List.Pairwise.filter _ ?_
  unfold blkL
  rw [List.pairwise_map]
  exact setL_asc K.flatten
theorem mem_osR {K : List (List Str)} {most : Int} {x : Str} : x ∈ osR K most ↔ x ∈ K.flatten ∧ most < ((memN K x).length : Int) := by
  unfold osR blkL
  rw [List.mem_map]
  constructor
  · rintro ⟨b, hb, rfl⟩
    obtain ⟨h1, h2⟩ := List.mem_filter.1 hb
    obtain ⟨y, hy, rfl⟩ := List.mem_map.1 h1
    exact ⟨(setL_mem _ _).1 hy, by simpa using h2⟩
  · rintro ⟨h1, h2⟩
    exact ⟨(x, memN K x), List.mem_filter.2 ⟨List.mem_map.2 ⟨x, (setL_mem _ _).2 h1, rfl⟩, by simpa using h2⟩, rfl⟩
theorem os_of {K : List (List Str)} {most : Int} {l : List Str} (h : ∀ x, x ∈ l ↔ x ∈ K.flatten ∧ most < ((memN K x).length : Int)) : setL l = osR K most :=
  asc_ext (setL_asc l) (os_asc K most) fun x => by rw [setL_mem, mem_osR, h x]
theorem os_some {K : List (List Str)} {most : Int} (hm : 0 ≤ most) : 0 < (osR K most).length ↔ most < (lbR K : Int) := by
  constructor
  · intro h
    obtain ⟨x, hx⟩ := List.exists_mem_of_length_pos h
    obtain ⟨h1, h2⟩ := mem_osR.1 hx
    have h3 : (memN K x).length ≤ lbR K := foldmax_mem (b := (x, memN K x)) (List.mem_map.2 ⟨x, (setL_mem _ _).2 h1, rfl⟩) 0
    omega
  · intro h
    rcases foldmax_is (blkL K) 0 with h1 | ⟨b, hb, h1⟩
    · have h3 : lbR K = 0 := h1
      omega
    · obtain ⟨x, hx, rfl⟩ := List.mem_map.1 hb
      have h4 : lbR K = (memN K x).length := h1
      exact List.length_pos_of_mem (mem_osR.2 ⟨(setL_mem _ _).1 hx, by omega⟩)

end Go.Proofs.Ytookcggmapldeaa
