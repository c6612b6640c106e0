/-
  Texts laid together: PlainSet, PlainEdit, PlainDec, PlainNorm, PlainWords, PlainTok, PlainVarint, PlainNum, SplitL, PiR. By an AI agent.
-/
import Derived.WalkKit
import Derived.Sort.KeysCollected
import Derived.Lib.ItoaLen
import Derived.Lib.ItoaMem
import Derived.Laws.BitsLemmas
import Derived.Lib.EndianBits
import Derived.Lib.Join
import Derived.Lib.Split
/-
  Lists of strings in order: plain facts without the program. By an AI agent.
-/
namespace Go.Proofs.Ytpldjihajclblaa
open Go

abbrev Str := List UInt8

theorem str_lt_of {x y : Str} (h : x ≤ y) (hne : x ≠ y) : x < y := by
  by_cases hl : x < y
  · exact hl
  · exact absurd (List.le_antisymm h (List.not_lt.1 hl)) hne
theorem str_le_of {x y : Str} (h : x < y) : x ≤ y := List.le_of_lt h
theorem str_ne_of {x y : Str} (h : x < y) : x ≠ y := fun e => by subst e; exact List.lt_irrefl x h
theorem str_lt_trans {x y z : Str} (h : x < y) (k : y < z) : x < z := List.lt_trans h k
theorem str_le_trans {x y z : Str} (h : x ≤ y) (k : y ≤ z) : x ≤ z := List.le_trans h k

/-- one string more in an ascending list -/
def putL (tw : Bool) : List Str → Str → List Str
  | [], s => [s]
  | x :: l, s => if x < s then x :: putL tw l s else if tw = false ∧ x = s then x :: l else s :: x :: l

theorem putL_front (tw : Bool) (s : Str) : ∀ (l : List Str) (k : Nat), (∀ j x, l[j]? = some x → j < k → x < s) → putL tw l s = l.take k ++ putL tw (l.drop k) s := by
  intro l
  induction l with
  | nil => intro k _; simp
  | cons x l ih =>
    intro k h
    cases k with
    | zero => simp
    | succ k =>
      have h0 := h 0 x (by simp) (by omega)
      have h1 := ih k (fun j y hj hlt => h (j + 1) y (by simpa using hj) (by omega))
      simp only [putL, if_pos h0, List.take_succ_cons, List.drop_succ_cons, List.cons_append, h1]

theorem putL_same {s : Str} {l : List Str} {k : Nat} (h : ∀ j x, l[j]? = some x → j < k → x < s) (hk : l[k]? = some s) : putL false l s = l := by
  obtain ⟨hlt, he⟩ := List.getElem?_eq_some_iff.1 hk
  rw [putL_front false s l k h, List.drop_eq_getElem_cons hlt, he]
  simp only [putL, if_neg (List.lt_irrefl s), and_self, if_true]
  rw [← he, ← List.drop_eq_getElem_cons hlt, List.take_append_drop]

theorem putL_new {tw : Bool} {s : Str} {l : List Str} {k : Nat} (h : ∀ j x, l[j]? = some x → j < k → x < s) (hn : ∀ x, l[k]? = some x → ¬ x < s ∧ (tw = true ∨ x ≠ s)) : putL tw l s = l.take k ++ s :: l.drop k := by
  rw [putL_front tw s l k h]
  congr 1
  rcases Nat.lt_or_ge k l.length with hlt | hge
  · rw [List.drop_eq_getElem_cons hlt]
    obtain ⟨h1, h2⟩ := hn l[k] (List.getElem?_eq_getElem hlt)
    have h3 : ¬ (tw = false ∧ l[k] = s) := by
      rintro ⟨e1, e2⟩
      rcases h2 with h2 | h2
      · rw [e1] at h2; cases h2
      · exact h2 e2
    simp only [putL, if_neg h1, if_neg h3]
  · rw [List.drop_eq_nil_of_le hge]
    rfl

def Asc (l : List Str) : Prop := l.Pairwise (· < ·)

theorem putL_mem (tw : Bool) (s y : Str) (l : List Str) : y ∈ putL tw l s ↔ y = s ∨ y ∈ l := by
  induction l with
  | nil => simp [putL]
  | cons x l ih =>
    unfold putL
    split
    · simp only [List.mem_cons, ih]
      constructor
      · rintro (h | h | h) <;> simp [h]
      · rintro (h | h | h) <;> simp [h]
    · split
      · rename_i h
        obtain ⟨_, rfl⟩ := h
        simp
      · simp

theorem putL_asc {s : Str} {l : List Str} (h : Asc l) : Asc (putL false l s) := by
  induction l with
  | nil => simp [putL, Asc]
  | cons x l ih =>
    obtain ⟨h1, h2⟩ := List.pairwise_cons.1 h
    unfold putL
    split
    · rename_i hx
      refine List.pairwise_cons.2 ⟨fun y hy => ?_, ih h2⟩
      rcases (putL_mem false s y l).1 hy with rfl | hy
      · exact hx
      · exact h1 y hy
    · rename_i hx
      split
      · exact h
      · rename_i hne
        have hsx : s < x := str_lt_of (List.not_lt.1 hx) (fun e => hne ⟨rfl, e.symm⟩)
        refine List.pairwise_cons.2 ⟨fun y hy => ?_, h⟩
        rcases List.mem_cons.1 hy with rfl | hy
        · exact hsx
        · exact str_lt_trans hsx (h1 y hy)

theorem putL_sorted {s : Str} {l : List Str} (h : l.Pairwise (· ≤ ·)) : (putL true l s).Pairwise (· ≤ ·) := by
  induction l with
  | nil => simp [putL]
  | cons x l ih =>
    obtain ⟨h1, h2⟩ := List.pairwise_cons.1 h
    unfold putL
    split
    · rename_i hx
      refine List.pairwise_cons.2 ⟨fun y hy => ?_, ih h2⟩
      rcases (putL_mem true s y l).1 hy with rfl | hy
      · exact str_le_of hx
      · exact h1 y hy
    · rename_i hx
      rw [if_neg (fun e => by cases e.1)]
      have hsx : s ≤ x := List.not_lt.1 hx
      refine List.pairwise_cons.2 ⟨fun y hy => ?_, h⟩
      rcases List.mem_cons.1 hy with rfl | hy
      · exact hsx
      · exact str_le_trans hsx (h1 y hy)

theorem putL_perm (s : Str) (l : List Str) : (putL true l s).Perm (s :: l) := by
  induction l with
  | nil => simp [putL]
  | cons x l ih =>
    unfold putL
    split
    · exact (List.Perm.cons x ih).trans (List.Perm.swap s x l)
    · rw [if_neg (fun e => by cases e.1)]

theorem putL_length (tw : Bool) (s : Str) (l : List Str) : (putL tw l s).length ≤ l.length + 1 := by
  induction l with
  | nil => simp [putL]
  | cons x l ih =>
    unfold putL
    split
    · simp only [List.length_cons]; omega
    · split <;> simp

/-- all strings of a list, each once, in order -/
def setL (l : List Str) : List Str := l.foldl (putL false) []
/-- all strings of a list in order -/
def sortL (l : List Str) : List Str := l.foldl (putL true) []

theorem setL_nil : setL [] = [] := rfl
theorem sortL_nil : sortL [] = [] := rfl
theorem setL_snoc (l : List Str) (s : Str) : setL (l ++ [s]) = putL false (setL l) s := by simp [setL]
theorem sortL_snoc (l : List Str) (s : Str) : sortL (l ++ [s]) = putL true (sortL l) s := by simp [sortL]

theorem snoc_ind2 {α : Type} {P : List α → Prop} (h0 : P []) (h1 : ∀ l c, P l → P (l ++ [c])) (l : List α) : P l := by
  have h : ∀ l : List α, P l.reverse := by
    intro l
    induction l with
    | nil => exact h0
    | cons c l ih => rw [List.reverse_cons]; exact h1 _ _ ih
  simpa using h l.reverse

theorem setL_asc (l : List Str) : Asc (setL l) := by
  induction l using snoc_ind2 with
  | h0 => simp [setL, Asc]
  | h1 l c ih => rw [setL_snoc]; exact putL_asc ih
theorem setL_mem (l : List Str) (y : Str) : y ∈ setL l ↔ y ∈ l := by
  induction l using snoc_ind2 with
  | h0 => simp [setL]
  | h1 l c ih =>
    rw [setL_snoc, putL_mem, ih]
    simp [or_comm]
theorem setL_length (l : List Str) : (setL l).length ≤ l.length := by
  induction l using snoc_ind2 with
  | h0 => simp [setL]
  | h1 l c ih =>
    rw [setL_snoc]
    have := putL_length false c (setL l)
    simp only [List.length_append, List.length_singleton]
    omega
theorem sortL_sorted (l : List Str) : (sortL l).Pairwise (· ≤ ·) := by
  induction l using snoc_ind2 with
  | h0 => simp [sortL]
  | h1 l c ih => rw [sortL_snoc]; exact putL_sorted ih
theorem sortL_perm (l : List Str) : (sortL l).Perm l := by
  induction l using snoc_ind2 with
  | h0 => simp [sortL]
  | h1 l c ih =>
    rw [sortL_snoc]
    exact (putL_perm c _).trans ((List.Perm.cons c ih).trans (List.perm_append_singleton c l).symm)
theorem sortL_length (l : List Str) : (sortL l).length = l.length := (sortL_perm l).length_eq

theorem le_sorted_eq {a b : List Str} (ha : a.Pairwise (· ≤ ·)) (hb : b.Pairwise (· ≤ ·)) (h : a.Perm b) : a = b :=
  List.Perm.eq_of_pairwise (le := fun x y : Str => x ≤ y) (fun _ _ _ _ h1 h2 => List.le_antisymm h1 h2) ha hb h

theorem ms_sorted (l : List Str) : (l.mergeSort leB).Pairwise (· ≤ ·) := by
  have tr : ∀ a b c : Str, leB a b = true → leB b c = true → leB a c = true := fun a b c h1 h2 => by simp only [leB, decide_eq_true_eq] at *; exact List.le_trans h1 h2
  have to : ∀ a b : Str, (leB a b || leB b a) = true := fun a b => by simp only [leB, Bool.or_eq_true, decide_eq_true_eq]; exact List.le_total a b
  exact (List.pairwise_mergeSort tr to l).imp fun h => by simpa [leB] using h

theorem sortL_is (l : List Str) : l.mergeSort leB = sortL l :=
  le_sorted_eq (ms_sorted l) (sortL_sorted l) ((List.mergeSort_perm l leB).trans (sortL_perm l).symm)

theorem asc_ext {a b : List Str} (ha : Asc a) (hb : Asc b) (h : ∀ x, x ∈ a ↔ x ∈ b) : a = b := by
  have na : a.Nodup := ha.imp fun h => str_ne_of h
  have nb : b.Nodup := hb.imp fun h => str_ne_of h
  exact le_sorted_eq (ha.imp fun h => str_le_of h) (hb.imp fun h => str_le_of h) ((List.perm_ext_iff_of_nodup na nb).2 h)

theorem ms_set {ss l : List Str} (hn : ss.Nodup) (h : ∀ x, x ∈ ss ↔ x ∈ l) : ss.mergeSort leB = setL l := by
  refine asc_ext ?_ (setL_asc l) fun x => ?_
  · have h1 := ms_sorted ss
    have h2 : (ss.mergeSort leB).Nodup := (List.mergeSort_perm ss leB).nodup_iff.2 hn
    exact (h1.and h2).imp fun h => str_lt_of h.1 h.2
  · rw [(List.mergeSort_perm ss leB).mem_iff, h x, setL_mem]

theorem setL_congr {a b : List Str} (h : ∀ x, x ∈ a ↔ x ∈ b) : setL a = setL b :=
  asc_ext (setL_asc a) (setL_asc b) fun x => by rw [setL_mem, setL_mem, h x]
theorem setL_of_asc {a : List Str} (h : Asc a) : setL a = a := asc_ext (setL_asc a) h fun x => setL_mem a x

/-- how many of a come while b still has more of them -/
def cgS (b : List Str) (p : List Str × Nat) (x : Str) : List Str × Nat := (p.1 ++ [x], if p.1.count x < b.count x then p.2 + 1 else p.2)
def cgL (a b : List Str) : Nat := (a.foldl (cgS b) ([], 0)).2

theorem cg_fst (a b : List Str) : (a.foldl (cgS b) ([], 0)).1 = a := by
  induction a using snoc_ind2 with
  | h0 => rfl
  | h1 l c ih => rw [List.foldl_append]; simp [cgS, ih]
theorem cg_snoc (a b : List Str) (x : Str) : cgL (a ++ [x]) b = cgL a b + if a.count x < b.count x then 1 else 0 := by
  unfold cgL
  rw [List.foldl_append]
  simp only [List.foldl_cons, List.foldl_nil]
  unfold cgS
  rw [show (a.foldl (fun p x => (p.1 ++ [x], if p.1.count x < b.count x then p.2 + 1 else p.2)) ([], 0)).1 = a from cg_fst a b]
  split <;> simp
theorem cg_nil (b : List Str) : cgL [] b = 0 := rfl
theorem cg_nil' (a : List Str) : cgL a [] = 0 := by
  induction a using snoc_ind2 with
  | h0 => rfl
  | h1 l c ih => rw [cg_snoc, ih]; simp
theorem cg_le (a b : List Str) : cgL a b ≤ a.length := by
  induction a using snoc_ind2 with
  | h0 => simp [cg_nil]
  | h1 l c ih => rw [cg_snoc]; simp only [List.length_append, List.length_singleton]; split <;> omega

theorem count_snoc (a : List Str) (x y : Str) : (a ++ [x]).count y = a.count y + if x = y then 1 else 0 := by
  rw [List.count_append, List.count_singleton]
  by_cases h : x = y
  · subst h; simp
  · have : (x == y) = false := by simpa using h
    simp [h, this]

theorem cg_snoc' (a b : List Str) (x : Str) : cgL b (a ++ [x]) = cgL b a + if a.count x < b.count x then 1 else 0 := by
  induction b using snoc_ind2 with
  | h0 => simp [cg_nil]
  | h1 b y ih =>
    rw [cg_snoc, cg_snoc, ih, count_snoc, count_snoc]
    by_cases h : x = y
    · subst h
      simp only [if_true]
      split <;> split <;> (try split) <;> (try split) <;> omega
    · have h' : ¬ y = x := fun e => h e.symm
      simp only [if_neg h, if_neg h', Nat.add_zero]
      omega

theorem cg_comm (a b : List Str) : cgL a b = cgL b a := by
  induction a using snoc_ind2 with
  | h0 => rw [cg_nil, cg_nil']
  | h1 a x ih => rw [cg_snoc, cg_snoc', ih]

theorem cg_self (a : List Str) : cgL a a = a.length := by
  have h : ∀ p q : List Str, cgL p (p ++ q) = p.length := by
    intro p
    induction p using snoc_ind2 with
    | h0 => intro q; rfl
    | h1 p x ih =>
      intro q
      rw [cg_snoc, List.append_assoc, ih ([x] ++ q), if_pos (by rw [List.count_append, List.count_append, List.count_singleton]; simp; omega)]
      simp
  have := h a []
  simpa using this

end Go.Proofs.Ytpldjihajclblaa

/-
  Plain facts on edit distances, without the program: the least cost by remaining parts, alignments, reversal, the triangle inequality, the script. By an AI agent.
-/
namespace Go.Proofs.Ytpldjihajclblaa

/-- the least cost of a script from a to b; sw: adjacent bytes may be exchanged -/
def lev (sw : Bool) : List UInt8 → List UInt8 → Nat
  | [], b => b.length
  | _ :: a, [] => a.length + 1
  | x :: a, y :: b =>
    let m := if x = y then lev sw a b else 1 + min (min (lev sw a b) (lev sw a (y :: b))) (lev sw (x :: a) b)
    if sw = true ∧ a.head? = some y ∧ b.head? = some x then min m (1 + lev sw a.tail b.tail) else m
termination_by a b => a.length + b.length
decreasing_by all_goals (simp <;> omega)

/-- alignments of two byte strings with their cost -/
inductive Al (sw : Bool) : List UInt8 → List UInt8 → Nat → Prop
  | nil : Al sw [] [] 0
  | keep (x : UInt8) {a b : List UInt8} {n : Nat} : Al sw a b n → Al sw (x :: a) (x :: b) n
  | rep (x y : UInt8) {a b : List UInt8} {n : Nat} : Al sw a b n → Al sw (x :: a) (y :: b) (n + 1)
  | del (x : UInt8) {a b : List UInt8} {n : Nat} : Al sw a b n → Al sw (x :: a) b (n + 1)
  | ins (y : UInt8) {a b : List UInt8} {n : Nat} : Al sw a b n → Al sw a (y :: b) (n + 1)
  | exch (x y : UInt8) {a b : List UInt8} {n : Nat} : sw = true → Al sw a b n → Al sw (x :: y :: a) (y :: x :: b) (n + 1)

theorem lev_nil (sw : Bool) (b : List UInt8) : lev sw [] b = b.length := by rw [lev]
theorem lev_nil' (sw : Bool) (a : List UInt8) : lev sw a [] = a.length := by cases a <;> rw [lev] <;> rfl

theorem Al.cast {sw : Bool} {a b : List UInt8} {n m : Nat} (h : Al sw a b n) (e : n = m) : Al sw a b m := e ▸ h

theorem Al.lens {sw : Bool} {a b : List UInt8} {n : Nat} (h : Al sw a b n) : a.length ≤ b.length + n ∧ b.length ≤ a.length + n := by
  induction h <;> simp_all <;> omega

theorem Al.symm {sw : Bool} {a b : List UInt8} {n : Nat} (h : Al sw a b n) : Al sw b a n := by
  induction h with
  | nil => exact .nil
  | keep x _ ih => exact .keep x ih
  | rep x y _ ih => exact .rep y x ih
  | del x _ ih => exact .ins x ih
  | ins y _ ih => exact .del y ih
  | exch x y e _ ih => exact .exch y x e ih

theorem Al.append {sw : Bool} {a b : List UInt8} {n : Nat} (h : Al sw a b n) {a' b' : List UInt8} {m : Nat} (h2 : Al sw a' b' m) : Al sw (a ++ a') (b ++ b') (n + m) := by
  induction h with
  | nil => simpa using h2
  | keep x _ ih => exact .keep x ih
  | rep x y _ ih => exact (Al.rep x y ih).cast (by omega)
  | del x _ ih => exact (Al.del x ih).cast (by omega)
  | ins y _ ih => exact (Al.ins y ih).cast (by omega)
  | exch x y e _ ih => exact (Al.exch x y e ih).cast (by omega)

theorem Al.rev {sw : Bool} {a b : List UInt8} {n : Nat} (h : Al sw a b n) : Al sw a.reverse b.reverse n := by
  induction h with
  | nil => exact .nil
  | keep x _ ih => simpa using ih.append (.keep x .nil)
  | rep x y _ ih => simpa using ih.append (.rep x y .nil)
  | del x _ ih => simpa using ih.append (.del x .nil)
  | ins y _ ih => simpa using ih.append (.ins y .nil)
  | exch x y e _ ih => simpa using ih.append (.exch y x e .nil)

theorem Al.all_ins (sw : Bool) (b : List UInt8) : Al sw [] b b.length := by
  induction b with
  | nil => exact .nil
  | cons y b ih => exact .ins y ih
theorem Al.all_del (sw : Bool) (a : List UInt8) : Al sw a [] a.length := (Al.all_ins sw a).symm

theorem lev_cons (sw : Bool) (x y : UInt8) (a b : List UInt8) : lev sw (x :: a) (y :: b) =
    (if sw = true ∧ a.head? = some y ∧ b.head? = some x then
      min (if x = y then lev sw a b else 1 + min (min (lev sw a b) (lev sw a (y :: b))) (lev sw (x :: a) b)) (1 + lev sw a.tail b.tail)
    else (if x = y then lev sw a b else 1 + min (min (lev sw a b) (lev sw a (y :: b))) (lev sw (x :: a) b))) := by
  rw [lev]

theorem head_tail {a : List UInt8} {y : UInt8} (h : a.head? = some y) : a = y :: a.tail := by
  cases a with
  | nil => simp at h
  | cons z a => simp at h; rw [h]; rfl

theorem lev_al (sw : Bool) : ∀ (N : Nat) (a b : List UInt8), a.length + b.length ≤ N → Al sw a b (lev sw a b) := by
  intro N
  induction N with
  | zero =>
    intro a b h
    have h1 : a = [] := List.eq_nil_of_length_eq_zero (by omega)
    have h2 : b = [] := List.eq_nil_of_length_eq_zero (by omega)
    subst h1 h2
    rw [lev_nil]; exact .nil
  | succ N ih =>
    intro a b h
    match a, b, h with
    | [], b, h => rw [lev_nil]; exact Al.all_ins sw b
    | x :: a, [], h => rw [lev_nil']; exact Al.all_del sw _
    | x :: a, y :: b, h =>
      simp only [List.length_cons] at h
      have hm : Al sw (x :: a) (y :: b) (if x = y then lev sw a b else 1 + min (min (lev sw a b) (lev sw a (y :: b))) (lev sw (x :: a) b)) := by
        split
        · rename_i e; subst e; exact .keep x (ih a b (by omega))
        · have h1 := Al.rep x y (ih a b (by omega))
          have h2 := Al.del x (ih a (y :: b) (by simp; omega))
          have h3 := Al.ins y (ih (x :: a) b (by simp; omega))
          by_cases c1 : lev sw a b ≤ lev sw a (y :: b)
          · by_cases c2 : lev sw a b ≤ lev sw (x :: a) b
            · exact h1.cast (by omega)
            · exact h3.cast (by omega)
          · by_cases c2 : lev sw a (y :: b) ≤ lev sw (x :: a) b
            · exact h2.cast (by omega)
            · exact h3.cast (by omega)
      rw [lev_cons]
      split
      · rename_i e
        obtain ⟨e1, e2, e3⟩ := e
        have ha := head_tail e2
        have hb := head_tail e3
        have l1 : a.tail.length ≤ a.length := by simp
        have l2 : b.tail.length ≤ b.length := by simp
        have hs : Al sw (x :: a) (y :: b) (1 + lev sw a.tail b.tail) := by
          have := Al.exch x y e1 (ih a.tail b.tail (by omega))
          rw [← ha, ← hb] at this
          exact this.cast (by omega)
        rcases Nat.le_total (if x = y then lev sw a b else 1 + min (min (lev sw a b) (lev sw a (y :: b))) (lev sw (x :: a) b)) (1 + lev sw a.tail b.tail) with hc | hc
        · rw [Nat.min_eq_left hc]; exact hm
        · rw [Nat.min_eq_right hc]; exact hs
      · exact hm

theorem Al.of_lev (sw : Bool) (a b : List UInt8) : Al sw a b (lev sw a b) := lev_al sw _ a b (Nat.le_refl _)

/-- an alignment less the first byte of a -/
theorem Al.drop_one {sw : Bool} {a0 b : List UInt8} {n : Nat} (h : Al sw a0 b n) : ∀ x a, a0 = x :: a → ∃ m, m ≤ n + 1 ∧ Al sw a b m := by
  induction h with
  | nil => intro x a e; cases e
  | keep z h _ => intro x a e; cases e; exact ⟨_, Nat.le_refl _, .ins z h⟩
  | rep z y h _ => intro x a e; cases e; exact ⟨_, by omega, .ins y h⟩
  | del z h _ => intro x a e; cases e; exact ⟨_, by omega, h⟩
  | ins y h ih => intro x a e; obtain ⟨m, hm, hh⟩ := ih x a e; exact ⟨_, by omega, .ins y hh⟩
  | exch z y e1 h _ => intro x a e; cases e; exact ⟨_, by omega, .keep y (.ins z h)⟩

theorem lev_le_m (sw : Bool) (x y : UInt8) (a b : List UInt8) : lev sw (x :: a) (y :: b) ≤ (if x = y then lev sw a b else 1 + min (min (lev sw a b) (lev sw a (y :: b))) (lev sw (x :: a) b)) := by
  rw [lev_cons]
  split
  · exact Nat.min_le_left _ _
  · exact Nat.le_refl _

theorem lev_min (sw : Bool) : ∀ (N : Nat) (a b : List UInt8), a.length + b.length ≤ N → ∀ n, Al sw a b n → lev sw a b ≤ n := by
  intro N
  induction N with
  | zero =>
    intro a b h n _
    have h1 : a = [] := List.eq_nil_of_length_eq_zero (by omega)
    have h2 : b = [] := List.eq_nil_of_length_eq_zero (by omega)
    subst h1 h2
    rw [lev_nil]; exact Nat.zero_le _
  | succ N ih =>
    intro a b h n hal
    cases hal with
    | nil => rw [lev_nil]; exact Nat.zero_le _
    | keep x hh =>
      simp only [List.length_cons] at h
      refine Nat.le_trans (lev_le_m _ _ _ _ _) ?_
      rw [if_pos rfl]
      exact ih _ _ (by omega) _ hh
    | rep x y hh =>
      simp only [List.length_cons] at h
      have h1 := ih _ _ (by omega) _ hh
      refine Nat.le_trans (lev_le_m _ _ _ _ _) ?_
      split <;> omega
    | @del x a b n hh =>
      simp only [List.length_cons] at h
      have h1 := ih _ _ (by omega) _ hh
      cases b with
      | nil => rw [lev_nil'] at h1 ⊢; simp; exact h1
      | cons y b =>
        refine Nat.le_trans (lev_le_m _ _ _ _ _) ?_
        split
        · obtain ⟨m, hm, h3⟩ := hh.symm.drop_one y b rfl
          simp only [List.length_cons] at h
          have := ih a b (by omega) m h3.symm
          omega
        · omega
    | @ins y a b n hh =>
      simp only [List.length_cons] at h
      have h1 := ih _ _ (by omega) _ hh
      cases a with
      | nil => rw [lev_nil] at h1 ⊢; simp; exact h1
      | cons x a =>
        refine Nat.le_trans (lev_le_m _ _ _ _ _) ?_
        split
        · obtain ⟨m, hm, h3⟩ := hh.drop_one x a rfl
          simp only [List.length_cons] at h
          have := ih a b (by omega) m h3
          omega
        · omega
    | @exch x y a b n e hh =>
      simp only [List.length_cons] at h
      have h1 := ih _ _ (by omega) _ hh
      rw [lev_cons, if_pos ⟨e, rfl, rfl⟩]
      refine Nat.le_trans (Nat.min_le_right _ _) ?_
      simp only [List.tail_cons]
      omega

theorem Al.lev_le {sw : Bool} {a b : List UInt8} {n : Nat} (h : Al sw a b n) : lev sw a b ≤ n := lev_min sw _ a b (Nat.le_refl _) n h

theorem lev_symm (sw : Bool) (a b : List UInt8) : lev sw a b = lev sw b a :=
  Nat.le_antisymm (Al.of_lev sw b a).symm.lev_le (Al.of_lev sw a b).symm.lev_le
theorem lev_rev (sw : Bool) (a b : List UInt8) : lev sw a.reverse b.reverse = lev sw a b := by
  refine Nat.le_antisymm (Al.of_lev sw a b).rev.lev_le ?_
  have h := (Al.of_lev sw a.reverse b.reverse).rev
  rw [List.reverse_reverse, List.reverse_reverse] at h
  exact h.lev_le
theorem lev_lens (sw : Bool) (a b : List UInt8) : a.length ≤ b.length + lev sw a b ∧ b.length ≤ a.length + lev sw a b := (Al.of_lev sw a b).lens
theorem al_most (sw : Bool) : ∀ a b : List UInt8, ∃ n, n ≤ max a.length b.length ∧ Al sw a b n
  | [], b => ⟨_, by simp, Al.all_ins sw b⟩
  | x :: a, [] => ⟨_, by simp, Al.all_del sw _⟩
  | x :: a, y :: b => by
    obtain ⟨n, hn, h⟩ := al_most sw a b
    exact ⟨_, by simp; omega, .rep x y h⟩
theorem lev_most (sw : Bool) (a b : List UInt8) : lev sw a b ≤ max a.length b.length := by
  obtain ⟨n, hn, h⟩ := al_most sw a b
  exact Nat.le_trans h.lev_le hn
theorem al_same (sw : Bool) : ∀ a : List UInt8, Al sw a a 0
  | [] => .nil
  | x :: a => .keep x (al_same sw a)
theorem lev_same (sw : Bool) (a : List UInt8) : lev sw a a = 0 := Nat.le_zero.1 (al_same sw a).lev_le
theorem al_zero {sw : Bool} {a b : List UInt8} {n : Nat} (h : Al sw a b n) : n = 0 → a = b := by
  induction h with
  | nil => intro _; rfl
  | keep x _ ih => intro e; rw [ih e]
  | _ => intro e; omega
theorem lev_zero {sw : Bool} {a b : List UInt8} : lev sw a b = 0 ↔ a = b := ⟨al_zero (Al.of_lev sw a b), fun e => e ▸ lev_same sw a⟩
theorem Al.more {a b : List UInt8} {n : Nat} (h : Al false a b n) : Al true a b n := by
  induction h with
  | nil => exact .nil
  | keep x _ ih => exact .keep x ih
  | rep x y _ ih => exact .rep x y ih
  | del x _ ih => exact .del x ih
  | ins y _ ih => exact .ins y ih
  | exch x y e _ ih => cases e
theorem lev_swap_le (a b : List UInt8) : lev true a b ≤ lev false a b := (Al.of_lev false a b).more.lev_le

theorem al_trans : ∀ (N : Nat) (a b c : List UInt8) (n m : Nat), a.length + b.length + c.length ≤ N → Al false a b n → Al false b c m → ∃ k, k ≤ n + m ∧ Al false a c k := by
  intro N
  induction N with
  | zero =>
    intro a b c n m h h1 h2
    have e1 : a = [] := List.eq_nil_of_length_eq_zero (by omega)
    have e2 : c = [] := List.eq_nil_of_length_eq_zero (by omega)
    subst e1 e2
    exact ⟨0, by omega, .nil⟩
  | succ N ih =>
    intro a b c n m h h1 h2
    cases h2 with
    | ins z h2 =>
      simp only [List.length_cons] at h
      obtain ⟨k, hk, hh⟩ := ih _ _ _ _ _ (by omega) h1 h2
      exact ⟨_, by omega, .ins z hh⟩
    | exch _ _ e _ => cases e
    | nil =>
      cases h1 with
      | nil => exact ⟨0, by omega, .nil⟩
      | del x h1 => exact ⟨_, by omega, .del x h1⟩
    | keep y h2 =>
      cases h1 with
      | keep _ h1 => simp only [List.length_cons] at h; obtain ⟨k, hk, hh⟩ := ih _ _ _ _ _ (by omega) h1 h2; exact ⟨_, by omega, .keep y hh⟩
      | rep x _ h1 => simp only [List.length_cons] at h; obtain ⟨k, hk, hh⟩ := ih _ _ _ _ _ (by omega) h1 h2; exact ⟨_, by omega, .rep x y hh⟩
      | del x h1 => simp only [List.length_cons] at h; obtain ⟨k, hk, hh⟩ := ih _ _ _ _ _ (by simp; omega) h1 (.keep y h2); exact ⟨_, by omega, .del x hh⟩
      | ins _ h1 => simp only [List.length_cons] at h; obtain ⟨k, hk, hh⟩ := ih _ _ _ _ _ (by omega) h1 h2; exact ⟨_, by omega, .ins y hh⟩
      | exch _ _ e _ => cases e
    | rep y z h2 =>
      cases h1 with
      | keep _ h1 => simp only [List.length_cons] at h; obtain ⟨k, hk, hh⟩ := ih _ _ _ _ _ (by omega) h1 h2; exact ⟨_, by omega, .rep y z hh⟩
      | rep x _ h1 => simp only [List.length_cons] at h; obtain ⟨k, hk, hh⟩ := ih _ _ _ _ _ (by omega) h1 h2; exact ⟨_, by omega, .rep x z hh⟩
      | del x h1 => simp only [List.length_cons] at h; obtain ⟨k, hk, hh⟩ := ih _ _ _ _ _ (by simp; omega) h1 (.rep y z h2); exact ⟨_, by omega, .del x hh⟩
      | ins _ h1 => simp only [List.length_cons] at h; obtain ⟨k, hk, hh⟩ := ih _ _ _ _ _ (by omega) h1 h2; exact ⟨_, by omega, .ins z hh⟩
      | exch _ _ e _ => cases e
    | del y h2 =>
      cases h1 with
      | keep _ h1 => simp only [List.length_cons] at h; obtain ⟨k, hk, hh⟩ := ih _ _ _ _ _ (by omega) h1 h2; exact ⟨_, by omega, .del y hh⟩
      | rep x _ h1 => simp only [List.length_cons] at h; obtain ⟨k, hk, hh⟩ := ih _ _ _ _ _ (by omega) h1 h2; exact ⟨_, by omega, .del x hh⟩
      | del x h1 => simp only [List.length_cons] at h; obtain ⟨k, hk, hh⟩ := ih _ _ _ _ _ (by simp; omega) h1 (.del y h2); exact ⟨_, by omega, .del x hh⟩
      | ins _ h1 => simp only [List.length_cons] at h; obtain ⟨k, hk, hh⟩ := ih _ _ _ _ _ (by omega) h1 h2; exact ⟨_, by omega, hh⟩
      | exch _ _ e _ => cases e

theorem lev_triangle (a c b : List UInt8) : lev false a b ≤ lev false a c + lev false c b := by
  obtain ⟨k, hk, h⟩ := al_trans _ a c b _ _ (Nat.le_refl _) (Al.of_lev false a c) (Al.of_lev false c b)
  exact Nat.le_trans h.lev_le hk

/-! the recurrences that both tables use -/

theorem lev_eqf {x y : UInt8} {a b : List UInt8} (h : x = y) : lev false (x :: a) (y :: b) = lev false a b := by
  rw [lev_cons, if_neg (by simp), if_pos h]
theorem lev_nef {x y : UInt8} {a b : List UInt8} (h : x ≠ y) : lev false (x :: a) (y :: b) = 1 + min (min (lev false a b) (lev false a (y :: b))) (lev false (x :: a) b) := by
  rw [lev_cons, if_neg (by simp), if_neg h]

/-! the script -/

def scr : List UInt8 → List UInt8 → List UInt8
  | [], [] => []
  | [], y :: b => 43 :: y :: scr [] b
  | _ :: a, [] => 45 :: scr a []
  | x :: a, y :: b =>
    if x = y then 61 :: scr a b
    else if lev false (x :: a) (y :: b) = 1 + lev false a b then 126 :: y :: scr a b
    else if lev false (x :: a) (y :: b) = 1 + lev false a (y :: b) then 45 :: scr a (y :: b)
    else 43 :: y :: scr (x :: a) b
termination_by a b => a.length + b.length
decreasing_by all_goals (simp <;> omega)

theorem scr_nil : scr [] [] = [] := by rw [scr]
theorem scr_ins (y : UInt8) (b : List UInt8) : scr [] (y :: b) = 43 :: y :: scr [] b := by rw [scr]
theorem scr_del (x : UInt8) (a : List UInt8) : scr (x :: a) [] = 45 :: scr a [] := by rw [scr]
theorem scr_keep {x y : UInt8} {a b : List UInt8} (h : x = y) : scr (x :: a) (y :: b) = 61 :: scr a b := by rw [scr, if_pos h]
theorem scr_rep {x y : UInt8} {a b : List UInt8} (h : x ≠ y) (h1 : lev false (x :: a) (y :: b) = 1 + lev false a b) : scr (x :: a) (y :: b) = 126 :: y :: scr a b := by
  rw [scr, if_neg h, if_pos h1]
theorem scr_drop {x y : UInt8} {a b : List UInt8} (h : x ≠ y) (h1 : ¬ lev false (x :: a) (y :: b) = 1 + lev false a b) (h2 : lev false (x :: a) (y :: b) = 1 + lev false a (y :: b)) : scr (x :: a) (y :: b) = 45 :: scr a (y :: b) := by
  rw [scr, if_neg h, if_neg h1, if_pos h2]
theorem scr_put {x y : UInt8} {a b : List UInt8} (h : x ≠ y) (h1 : ¬ lev false (x :: a) (y :: b) = 1 + lev false a b) (h2 : ¬ lev false (x :: a) (y :: b) = 1 + lev false a (y :: b)) : scr (x :: a) (y :: b) = 43 :: y :: scr (x :: a) b := by
  rw [scr, if_neg h, if_neg h1, if_neg h2]

/-- what a script makes of a -/
def app : List UInt8 → List UInt8 → Option (List UInt8)
  | a, [] => if a = [] then some [] else none
  | a, c :: s =>
    if c = 61 then (if a = [] then none else (app a.tail s).map (a.headD 0 :: ·))
    else if c = 126 then (if a = [] then none else if s = [] then none else (app a.tail s.tail).map (s.headD 0 :: ·))
    else if c = 45 then (if a = [] then none else app a.tail s)
    else if c = 43 then (if s = [] then none else (app a s.tail).map (s.headD 0 :: ·))
    else none
termination_by _ s => s.length
decreasing_by all_goals (simp <;> omega)

theorem app_nil (a : List UInt8) : app a [] = if a = [] then some [] else none := by rw [app]
theorem app_keep (x : UInt8) (a s : List UInt8) : app (x :: a) (61 :: s) = (app a s).map (x :: ·) := by rw [app]; simp
theorem app_rep (x y : UInt8) (a s : List UInt8) : app (x :: a) (126 :: y :: s) = (app a s).map (y :: ·) := by rw [app]; simp
theorem app_del (x : UInt8) (a s : List UInt8) : app (x :: a) (45 :: s) = app a s := by rw [app]; simp
theorem app_ins (y : UInt8) (a s : List UInt8) : app a (43 :: y :: s) = (app a s).map (y :: ·) := by rw [app]; simp
theorem app_keep_no (s : List UInt8) : app [] (61 :: s) = none := by rw [app]; simp
theorem app_rep_no (s : List UInt8) : app [] (126 :: s) = none := by rw [app]; simp
theorem app_rep_end (a : List UInt8) : app a [126] = none := by rw [app]; simp
theorem app_del_no (s : List UInt8) : app [] (45 :: s) = none := by rw [app]; simp
theorem app_ins_end (a : List UInt8) : app a [43] = none := by rw [app]; simp
theorem app_other {c : UInt8} (a s : List UInt8) (h1 : c ≠ 61) (h2 : c ≠ 126) (h3 : c ≠ 45) (h4 : c ≠ 43) : app a (c :: s) = none := by
  rw [app, if_neg h1, if_neg h2, if_neg h3, if_neg h4]

/-- the cost of a script -/
def costS : List UInt8 → Nat
  | [] => 0
  | c :: s => if c = 126 ∨ c = 43 then 1 + costS s.tail else if c = 45 then 1 + costS s else costS s
termination_by s => s.length
decreasing_by all_goals (simp <;> omega)

theorem costS_nil : costS [] = 0 := by rw [costS]
theorem costS_keep (s : List UInt8) : costS (61 :: s) = costS s := by rw [costS]; simp
theorem costS_rep (y : UInt8) (s : List UInt8) : costS (126 :: y :: s) = 1 + costS s := by rw [costS]; simp
theorem costS_ins (y : UInt8) (s : List UInt8) : costS (43 :: y :: s) = 1 + costS s := by rw [costS]; simp
theorem costS_del (s : List UInt8) : costS (45 :: s) = 1 + costS s := by rw [costS]; simp

theorem lev_put {x y : UInt8} {a b : List UInt8} (h : x ≠ y) (h1 : ¬ lev false (x :: a) (y :: b) = 1 + lev false a b) (h2 : ¬ lev false (x :: a) (y :: b) = 1 + lev false a (y :: b)) :
    lev false (x :: a) (y :: b) = 1 + lev false (x :: a) b := by
  have := lev_nef (a := a) (b := b) h
  omega

theorem scr_all : ∀ (N : Nat) (a b : List UInt8), a.length + b.length ≤ N → app a (scr a b) = some b ∧ costS (scr a b) = lev false a b ∧ (scr a b).length ≤ 2 * (a.length + b.length) := by
  intro N
  induction N with
  | zero =>
    intro a b h
    have e1 : a = [] := List.eq_nil_of_length_eq_zero (by omega)
    have e2 : b = [] := List.eq_nil_of_length_eq_zero (by omega)
    subst e1 e2
    rw [scr_nil, app_nil, costS_nil, lev_nil]; simp
  | succ N ih =>
    intro a b h
    match a, b, h with
    | [], [], _ => rw [scr_nil, app_nil, costS_nil, lev_nil]; simp
    | [], y :: b, h =>
      simp only [List.length_cons] at h
      obtain ⟨h1, h2, h3⟩ := ih [] b (by omega)
      rw [scr_ins, app_ins, h1, costS_ins, h2, lev_nil, lev_nil]
      refine ⟨rfl, by simp; omega, by simp at h3 ⊢; omega⟩
    | x :: a, [], h =>
      simp only [List.length_cons] at h
      obtain ⟨h1, h2, h3⟩ := ih a [] (by omega)
      rw [scr_del, app_del, h1, costS_del, h2, lev_nil', lev_nil']
      refine ⟨rfl, by simp; omega, by simp at h3 ⊢; omega⟩
    | x :: a, y :: b, h =>
      simp only [List.length_cons] at h
      by_cases c0 : x = y
      · obtain ⟨h1, h2, h3⟩ := ih a b (by omega)
        rw [scr_keep c0, app_keep, h1, costS_keep, h2, lev_eqf c0]
        exact ⟨by rw [c0]; rfl, rfl, by simp at h3 ⊢; omega⟩
      · by_cases c1 : lev false (x :: a) (y :: b) = 1 + lev false a b
        · obtain ⟨h1, h2, h3⟩ := ih a b (by omega)
          rw [scr_rep c0 c1, app_rep, h1, costS_rep, h2, c1]
          exact ⟨rfl, rfl, by simp at h3 ⊢; omega⟩
        · by_cases c2 : lev false (x :: a) (y :: b) = 1 + lev false a (y :: b)
          · obtain ⟨h1, h2, h3⟩ := ih a (y :: b) (by simp; omega)
            rw [scr_drop c0 c1 c2, app_del, h1, costS_del, h2, c2]
            exact ⟨rfl, rfl, by simp at h3 ⊢; omega⟩
          · obtain ⟨h1, h2, h3⟩ := ih (x :: a) b (by simp; omega)
            rw [scr_put c0 c1 c2, app_ins, h1, costS_ins, h2, lev_put c0 c1 c2]
            exact ⟨rfl, rfl, by simp at h3 ⊢; omega⟩

theorem scr_app (a b : List UInt8) : app a (scr a b) = some b := (scr_all _ a b (Nat.le_refl _)).1
theorem scr_cost (a b : List UInt8) : costS (scr a b) = lev false a b := (scr_all _ a b (Nat.le_refl _)).2.1
theorem scr_length (a b : List UInt8) : (scr a b).length ≤ 2 * (a.length + b.length) := (scr_all _ a b (Nat.le_refl _)).2.2

end Go.Proofs.Ytpldjihajclblaa

/-
  Decimal numerals that are read back: plain facts without the program. By an AI agent.
-/
namespace Go.Proofs.Ytpldjihajclblaa
set_option linter.unusedVariables false

def isD (b : UInt8) : Bool := decide (48 ≤ b.toNat ∧ b.toNat ≤ 57)

/-- the number that digits spell -/
def dv (l : List UInt8) : Nat := l.foldl (fun n b => 10 * n + (b.toNat - 48)) 0

theorem dv_snoc (l : List UInt8) (b : UInt8) : dv (l ++ [b]) = 10 * dv l + (b.toNat - 48) := by simp [dv]

def AllD (l : List UInt8) : Prop := ∀ b ∈ l, 48 ≤ b.toNat ∧ b.toNat ≤ 57

theorem dv_from (l : List UInt8) : ∀ n : Nat, AllD l → l.foldl (fun n b => 10 * n + (b.toNat - 48)) n < (n + 1) * 10 ^ l.length := by
  induction l with
  | nil => intro n _; simp
  | cons b l ih =>
    intro n h
    have hb := h b (by simp)
    have h1 := ih (10 * n + (b.toNat - 48)) (fun c hc => h c (by simp [hc]))
    rw [List.foldl_cons, List.length_cons, Nat.pow_succ]
    have h2 : (10 * n + (b.toNat - 48) + 1) * 10 ^ l.length ≤ ((n + 1) * 10) * 10 ^ l.length := Nat.mul_le_mul_right _ (by omega)
    have h3 : (n + 1) * (10 ^ l.length * 10) = ((n + 1) * 10) * 10 ^ l.length := by rw [Nat.mul_comm (10 ^ l.length), ← Nat.mul_assoc]
    omega

theorem dv_lt {l : List UInt8} (h : AllD l) : dv l < 10 ^ l.length := by
  have := dv_from l 0 h
  simpa [dv] using this

theorem dv_le {l : List UInt8} {k : Nat} (h : AllD l) (hk : l.length ≤ k) : dv l < 10 ^ k :=
  Nat.lt_of_lt_of_le (dv_lt h) (Nat.pow_le_pow_right (by omega) hk)

theorem dec_all (a : Nat) : AllD (Lib.decDigits a) := by
  induction a using Nat.strongRecOn with
  | ind a ih =>
    intro b hb
    by_cases h : a < 10
    · rw [Lib.decDigits_one h] at hb
      simp at hb
      subst hb
      rw [UInt8.toNat_add, UInt8.toNat_ofNat']
      simp
      omega
    · rw [Lib.decDigits, dif_neg h] at hb
      rcases List.mem_append.1 hb with hb | hb
      · exact ih (a / 10) (by omega) b hb
      · simp only [List.mem_singleton] at hb
        subst hb
        rw [UInt8.toNat_ofNat']
        omega

theorem dv_dec (a : Nat) : dv (Lib.decDigits a) = a := by
  induction a using Nat.strongRecOn with
  | ind a ih =>
    by_cases h : a < 10
    · rw [Lib.decDigits_one h, show [UInt8.ofNat (48 + a)] = [] ++ [UInt8.ofNat (48 + a)] from rfl, dv_snoc, UInt8.toNat_ofNat']
      simp [dv]
      omega
    · rw [Lib.decDigits, dif_neg h, dv_snoc, ih (a / 10) (by omega), UInt8.toNat_ofNat']
      omega

theorem dec_short (k : Nat) : ∀ a, a < 10 ^ (k + 1) → (Lib.decDigits a).length ≤ k + 1 := by
  induction k with
  | zero => intro a h; rw [Lib.decDigits_one (by simpa using h)]; simp
  | succ k ih =>
    intro a h
    by_cases h10 : a < 10
    · rw [Lib.decDigits_one h10]; simp
    · rw [Lib.decDigits, dif_neg h10, List.length_append]
      have := ih (a / 10) (by rw [Nat.pow_succ] at h; omega)
      simp
      omega

theorem dec_ne (a : Nat) : Lib.decDigits a ≠ [] := by
  by_cases h : a < 10
  · rw [Lib.decDigits_one h]; simp
  · rw [Lib.decDigits, dif_neg h]; simp

/-- what ParseInt answers at l -/
def PiOk (l : List UInt8) (n : Int) (ok : Bool) : Prop :=
  (ok = true ∧ Lib.itoa n = l ∧ -1000000000 < n ∧ n < 1000000000) ∨ (ok = false ∧ n = 0 ∧ ∀ m : Int, -1000000000 < m → m < 1000000000 → Lib.itoa m ≠ l)

/-- l is a sign, perhaps, and what stands behind it -/
def Cut (l : List UInt8) (neg : Bool) (d : List UInt8) : Prop := (neg = true ∧ l = 45 :: d) ∨ (neg = false ∧ l = d ∧ d.head? ≠ some 45)

def sgn (neg : Bool) (v : Nat) : Int := if neg then -(v : Int) else v

theorem dec_head (a : Nat) : (Lib.decDigits a).head? ≠ some 45 := by
  intro h
  have hm : (45 : UInt8) ∈ Lib.decDigits a := by
    cases hd : Lib.decDigits a with
    | nil => exact absurd hd (dec_ne a)
    | cons b r => rw [hd] at h; simp at h; simp [h]
  have := (dec_all a 45 hm).1
  revert this
  decide

theorem cut_itoa {m : Int} {neg : Bool} {d : List UInt8} (h : Cut (Lib.itoa m) neg d) : d = Lib.decDigits m.natAbs ∧ sgn neg m.natAbs = m := by
  by_cases hm : m < 0
  · have e : Lib.itoa m = 45 :: Lib.decDigits m.natAbs := by unfold Lib.itoa; rw [if_pos hm]
    rw [e] at h
    rcases h with ⟨rfl, h⟩ | ⟨rfl, h, h2⟩
    · injection h with _ h
      exact ⟨h.symm, by simp [sgn]; omega⟩
    · rw [← h] at h2
      simp at h2
  · have e : Lib.itoa m = Lib.decDigits m.natAbs := by unfold Lib.itoa; rw [if_neg hm]; congr 1; omega
    rw [e] at h
    rcases h with ⟨rfl, h⟩ | ⟨rfl, h, h2⟩
    · have := dec_head m.natAbs
      rw [h] at this
      simp at this
    · exact ⟨h.symm, by simp [sgn]; omega⟩

theorem itoa_inj {a b : Int} (h : Lib.itoa a = Lib.itoa b) : a = b := by
  obtain ⟨neg, d, hc⟩ : ∃ neg d, Cut (Lib.itoa a) neg d := by
    cases hl : Lib.itoa a with
    | nil => exact ⟨false, [], .inr ⟨rfl, rfl, by simp⟩⟩
    | cons x r =>
      by_cases hx : x = 45
      · subst hx; exact ⟨true, r, .inl ⟨rfl, rfl⟩⟩
      · exact ⟨false, x :: r, .inr ⟨rfl, rfl, by simpa using hx⟩⟩
  have h1 := cut_itoa hc
  rw [h] at hc
  have h2 := cut_itoa hc
  have e := congrArg dv (h1.1.symm.trans h2.1)
  rw [dv_dec, dv_dec] at e
  rw [← h1.2, ← h2.2, e]

theorem PiOk.same {l : List UInt8} {n n' : Int} {ok ok' : Bool} (h : PiOk l n ok) (h' : PiOk l n' ok') : n = n' ∧ ok = ok' := by
  rcases h with ⟨rfl, h1, h2, h3⟩ | ⟨rfl, rfl, h1⟩ <;> rcases h' with ⟨rfl, g1, g2, g3⟩ | ⟨rfl, rfl, g1⟩
  · exact ⟨itoa_inj (h1.trans g1.symm), rfl⟩
  · exact absurd h1 (g1 n h2 h3)
  · exact absurd g1 (h1 n' g2 g3)
  · exact ⟨rfl, rfl⟩

theorem range_of {neg : Bool} {d : List UInt8} (h : AllD d) (hl : d.length ≤ 9) : -1000000000 < sgn neg (dv d) ∧ sgn neg (dv d) < 1000000000 := by
  have h1 := dv_le h hl
  have h2 : (10 : Nat) ^ 9 = 1000000000 := by decide
  unfold sgn
  cases neg <;> simp <;> omega

theorem short_of {m : Int} (h1 : -1000000000 < m) (h2 : m < 1000000000) : (Lib.decDigits m.natAbs).length ≤ 9 := by
  refine dec_short 8 _ ?_
  have : (10 : Nat) ^ (8 + 1) = 1000000000 := by decide
  omega

/-! what impl.ParseInt does -/
theorem pi_yes {l d : List UInt8} {neg : Bool} (hc : Cut l neg d) (hd : AllD d) (hl : d.length ≤ 9) (e : Lib.itoa (sgn neg (dv d)) = l) : PiOk l (sgn neg (dv d)) true :=
  .inl ⟨rfl, e, range_of hd hl⟩

theorem pi_other {l d : List UInt8} {neg : Bool} (hc : Cut l neg d) (e : Lib.itoa (sgn neg (dv d)) ≠ l) : PiOk l 0 false := by
  refine .inr ⟨rfl, rfl, fun m h1 h2 hm => e ?_⟩
  rw [← hm] at hc
  obtain ⟨rfl, h⟩ := cut_itoa hc
  rw [dv_dec, h, hm]

theorem pi_long {l d : List UInt8} {neg : Bool} (hc : Cut l neg d) (hl : 9 < d.length) : PiOk l 0 false := by
  refine .inr ⟨rfl, rfl, fun m h1 h2 hm => ?_⟩
  rw [← hm] at hc
  obtain ⟨rfl, h⟩ := cut_itoa hc
  have := short_of h1 h2
  omega

theorem pi_letter {l d : List UInt8} {neg : Bool} (hc : Cut l neg d) {b : UInt8} (hb : b ∈ d) (hn : ¬ (48 ≤ b.toNat ∧ b.toNat ≤ 57)) : PiOk l 0 false := by
  refine .inr ⟨rfl, rfl, fun m h1 h2 hm => ?_⟩
  rw [← hm] at hc
  obtain ⟨rfl, h⟩ := cut_itoa hc
  exact hn (dec_all _ b hb)

/-! what spec.ParseInt does -/
theorem filter_all {l : List UInt8} (h : AllD l) : l.filter isD = l := by
  rw [List.filter_eq_self]
  intro b hb
  have := h b hb
  simp [isD, this]

theorem filter_allD (l : List UInt8) : AllD (l.filter isD) := by
  intro b hb
  have := (List.mem_filter.1 hb).2
  simpa [isD] using this

theorem filter_cut {l d : List UInt8} {neg : Bool} (hc : Cut l neg d) : l.filter isD = d.filter isD := by
  rcases hc with ⟨_, rfl⟩ | ⟨_, rfl, _⟩
  · rw [List.filter_cons_of_neg (by decide)]
  · rfl

theorem pi_spec_yes {l d : List UInt8} {neg : Bool} (hc : Cut l neg d) (hk : (l.filter isD).length ≤ 9) (e : Lib.itoa (sgn neg (dv (l.filter isD))) = l) : PiOk l (sgn neg (dv (l.filter isD))) true :=
  .inl ⟨rfl, e, range_of (filter_allD l) hk⟩

theorem pi_spec_no {l d : List UInt8} {neg : Bool} (hc : Cut l neg d) (e : Lib.itoa (sgn neg (dv (l.filter isD))) ≠ l) : PiOk l 0 false := by
  refine .inr ⟨rfl, rfl, fun m h1 h2 hm => e ?_⟩
  rw [filter_cut hc]
  rw [← hm] at hc
  obtain ⟨rfl, h⟩ := cut_itoa hc
  rw [filter_all (dec_all _), dv_dec, h, hm]

theorem pi_spec_many {l : List UInt8} (i : Nat) (h : 9 < ((l.take i).filter isD).length) : PiOk l 0 false := by
  refine .inr ⟨rfl, rfl, fun m h1 h2 hm => ?_⟩
  have hs := short_of h1 h2
  have hle : ((l.take i).filter isD).length ≤ (l.filter isD).length := ((List.take_sublist i l).filter isD).length_le
  have e : (l.filter isD).length ≤ 9 := by
    rw [← hm]
    by_cases hn : m < 0
    · rw [show Lib.itoa m = 45 :: Lib.decDigits m.natAbs by unfold Lib.itoa; rw [if_pos hn], List.filter_cons_of_neg (by decide), filter_all (dec_all _)]
      exact hs
    · rw [show Lib.itoa m = Lib.decDigits m.natAbs by unfold Lib.itoa; rw [if_neg hn]; congr 1; omega, filter_all (dec_all _)]
      exact hs
  omega

theorem pi_spec_long {l : List UInt8} (h : 10 < l.length) : PiOk l 0 false := by
  refine .inr ⟨rfl, rfl, fun m h1 h2 hm => ?_⟩
  have hs := short_of h1 h2
  rw [← hm] at h
  by_cases hn : m < 0
  · rw [show Lib.itoa m = 45 :: Lib.decDigits m.natAbs by unfold Lib.itoa; rw [if_pos hn], List.length_cons] at h
    omega
  · rw [show Lib.itoa m = Lib.decDigits m.natAbs by unfold Lib.itoa; rw [if_neg hn]; congr 1; omega] at h
    omega

end Go.Proofs.Ytpldjihajclblaa

/-
  Normalization: plain facts without the program. By an AI agent.
-/
namespace Go.Proofs.Ytpldjihajclblaa

def isTextB (l : List UInt8) : Bool := decide (l.length ≤ 40 ∧ ∀ c ∈ l, 32 ≤ c.toNat ∧ c.toNat ≤ 126)

theorem text_long {l : List UInt8} (h : 40 < l.length) : isTextB l = false := by
  unfold isTextB
  exact decide_eq_false (fun e => by omega)

theorem text_bad {l : List UInt8} {c : UInt8} (hc : c ∈ l) (h : c.toNat < 32 ∨ 126 < c.toNat) : isTextB l = false := by
  unfold isTextB
  refine decide_eq_false (fun e => ?_)
  have := e.2 c hc
  omega

theorem text_ok {l : List UInt8} (h1 : l.length ≤ 40) (h2 : ∀ c ∈ l, 32 ≤ c.toNat ∧ c.toNat ≤ 126) : isTextB l = true := by
  unfold isTextB
  exact decide_eq_true ⟨h1, h2⟩

/-- A to Z by a to z -/
def foldB (c : UInt8) : UInt8 := if 65 ≤ c.toNat ∧ c.toNat ≤ 90 then UInt8.ofNat (c.toNat + 32) else c
def foldL (l : List UInt8) : List UInt8 := l.map foldB

theorem foldB_yes {c : UInt8} (h1 : 65 ≤ c.toNat) (h2 : c.toNat ≤ 90) : foldB c = UInt8.ofNat (c.toNat + 32) := by unfold foldB; rw [if_pos ⟨h1, h2⟩]
theorem foldB_no {c : UInt8} (h : ¬ (65 ≤ c.toNat ∧ c.toNat ≤ 90)) : foldB c = c := by unfold foldB; rw [if_neg h]
theorem foldL_snoc (l : List UInt8) (c : UInt8) : foldL (l ++ [c]) = foldL l ++ [foldB c] := by simp [foldL]
theorem foldL_length (l : List UInt8) : (foldL l).length = l.length := by simp [foldL]

/-- a letter or a digit -/
def isWordI (x : Int) : Bool := decide ((97 ≤ x ∧ x ≤ 122) ∨ (65 ≤ x ∧ x ≤ 90) ∨ (48 ≤ x ∧ x ≤ 57))

theorem wordI_yes {x : Int} (h : (97 ≤ x ∧ x ≤ 122) ∨ (65 ≤ x ∧ x ≤ 90) ∨ (48 ≤ x ∧ x ≤ 57)) : isWordI x = true := decide_eq_true h
theorem wordI_no {x : Int} (h : ¬ ((97 ≤ x ∧ x ≤ 122) ∨ (65 ≤ x ∧ x ≤ 90) ∨ (48 ≤ x ∧ x ≤ 57))) : isWordI x = false := decide_eq_false h
theorem of_wordI {x : Int} (h : isWordI x = true) : (97 ≤ x ∧ x ≤ 122) ∨ (65 ≤ x ∧ x ≤ 90) ∨ (48 ≤ x ∧ x ≤ 57) := of_decide_eq_true h
theorem of_not_wordI {x : Int} (h : isWordI x = false) : ¬ ((97 ≤ x ∧ x ≤ 122) ∨ (65 ≤ x ∧ x ≤ 90) ∨ (48 ≤ x ∧ x ≤ 57)) := of_decide_eq_false h

/-- no apostrophe; any other byte that is neither a letter nor a digit by a space -/
def stripB (c : UInt8) : List UInt8 := if isWordI c.toNat = true then [c] else if c.toNat = 39 then [] else [32]
def stripL (l : List UInt8) : List UInt8 := l.flatMap stripB

theorem stripB_word {c : UInt8} (h : isWordI c.toNat = true) : stripB c = [c] := by unfold stripB; rw [if_pos h]
theorem stripB_mark {c : UInt8} (h : c.toNat = 39) : stripB c = [] := by
  unfold stripB
  rw [if_neg (by rw [h]; decide), if_pos h]
theorem stripB_other {c : UInt8} (h : isWordI c.toNat = false) (h1 : c.toNat ≠ 39) : stripB c = [32] := by
  unfold stripB
  rw [if_neg (by rw [h]; decide), if_neg h1]
theorem stripL_snoc (l : List UInt8) (c : UInt8) : stripL (l ++ [c]) = stripL l ++ stripB c := by simp [stripL]
theorem stripB_length (c : UInt8) : (stripB c).length ≤ 1 := by unfold stripB; split <;> (try split) <;> simp
theorem stripL_length (l : List UInt8) : (stripL l).length ≤ l.length := by
  induction l with
  | nil => simp [stripL]
  | cons c l ih =>
    have h1 := stripB_length c
    have e : stripL (c :: l) = stripB c ++ stripL l := by simp [stripL]
    rw [e, List.length_append, List.length_cons]
    omega

/-- one byte more, what is written and whether the byte before was a space -/
def cStep (p : List UInt8 × Bool) (c : UInt8) : List UInt8 × Bool :=
  if c = 32 then (p.1, true) else ((if p.1 ≠ [] ∧ p.2 = true then p.1 ++ [32] else p.1) ++ [c], false)
def collS (l : List UInt8) : List UInt8 × Bool := l.foldl cStep ([], false)
def collL (l : List UInt8) : List UInt8 := (collS l).1

theorem collS_snoc (l : List UInt8) (c : UInt8) : collS (l ++ [c]) = cStep (collS l) c := by simp [collS]
theorem collS_snd (l : List UInt8) : (collS l).2 = (l.getLast? == some 32) := by
  rcases List.eq_nil_or_concat l with rfl | ⟨r, c, rfl⟩
  · rfl
  · rw [List.concat_eq_append, collS_snoc, List.getLast?_append]
    unfold cStep
    by_cases h : c = 32
    · simp [h]
    · simp [h]

theorem collL_space (l : List UInt8) : collL (l ++ [32]) = collL l := by
  unfold collL; rw [collS_snoc]; rfl

theorem collL_join {l : List UInt8} {c : UInt8} (hc : c ≠ 32) (h1 : collL l ≠ []) (h2 : l.getLast? = some 32) : collL (l ++ [c]) = (collL l ++ [32]) ++ [c] := by
  have h3 : (collS l).2 = true := by rw [collS_snd, h2]; rfl
  unfold collL at h1 ⊢
  rw [collS_snoc]
  unfold cStep
  rw [if_neg hc, if_pos ⟨h1, h3⟩]

theorem collL_first {l : List UInt8} {c : UInt8} (hc : c ≠ 32) (h : collL l = []) : collL (l ++ [c]) = [] ++ [c] := by
  unfold collL at h ⊢
  rw [collS_snoc]
  unfold cStep
  rw [if_neg hc, if_neg (fun e => e.1 h), h]

theorem collL_next {l : List UInt8} {c : UInt8} (hc : c ≠ 32) (h : l.getLast? ≠ some 32) : collL (l ++ [c]) = collL l ++ [c] := by
  have h3 : (collS l).2 = false := by rw [collS_snd]; simpa using h
  unfold collL
  rw [collS_snoc]
  unfold cStep
  rw [if_neg hc, if_neg (fun e => by rw [h3] at e; exact absurd e.2 (by decide))]

theorem snoc_ind {α : Type} {P : List α → Prop} (h0 : P []) (h1 : ∀ l c, P l → P (l ++ [c])) (l : List α) : P l := by
  have h : ∀ l : List α, P l.reverse := by
    intro l
    induction l with
    | nil => exact h0
    | cons c l ih => rw [List.reverse_cons]; exact h1 _ _ ih
  simpa using h l.reverse

theorem collL_length (l : List UInt8) : (collL l).length ≤ 2 * l.length := by
  induction l using snoc_ind with
  | h0 => simp [collL, collS]
  | h1 l c ih =>
    by_cases hc : c = 32
    · subst hc; rw [collL_space]; simp; omega
    · unfold collL at ih ⊢
      rw [collS_snoc]
      unfold cStep
      rw [if_neg hc]
      simp only [List.length_append, List.length_cons, List.length_nil]
      split <;> (try simp only [List.length_append, List.length_cons, List.length_nil]) <;> omega

def normL (l : List UInt8) : List UInt8 := collL (stripL (foldL l))

theorem norm_len (l : List UInt8) : (normL l).length ≤ 2 * l.length := by
  have h1 := collL_length (stripL (foldL l))
  have h2 := stripL_length (foldL l)
  rw [foldL_length] at h2
  unfold normL
  omega

end Go.Proofs.Ytpldjihajclblaa

/-
  Words and their first bytes: plain facts without the program. By an AI agent.
-/
namespace Go.Proofs.Ytpldjihajclblaa

/-- one byte more: the words that have ended and the one under way -/
def wStep (p : List (List UInt8) × List UInt8) (c : UInt8) : List (List UInt8) × List UInt8 :=
  if c = 32 then (if p.2 = [] then p else (p.1 ++ [p.2], [])) else (p.1, p.2 ++ [c])
def wS (l : List UInt8) : List (List UInt8) × List UInt8 := l.foldl wStep ([], [])
def wordsL (l : List UInt8) : List (List UInt8) := if (wS l).2 = [] then (wS l).1 else (wS l).1 ++ [(wS l).2]

theorem wS_snoc (l : List UInt8) (c : UInt8) : wS (l ++ [c]) = wStep (wS l) c := by simp [wS]

/-- the bytes behind a space, and the first one -/
def iStep (p : List UInt8 × Bool) (c : UInt8) : List UInt8 × Bool := (if p.2 = true then p.1 ++ [c] else p.1, c == 32)
def iS (l : List UInt8) : List UInt8 × Bool := l.foldl iStep ([], true)
theorem iS_snoc (l : List UInt8) (c : UInt8) : iS (l ++ [c]) = iStep (iS l) c := by simp [iS]

/-- no space at the head, no two spaces in a row -/
def Good (l : List UInt8) : Prop := ∀ k : Nat, l[k]? = some 32 → 0 < k ∧ l[k - 1]? ≠ some 32

theorem Good.snoc {l : List UInt8} {c : UInt8} (h : Good (l ++ [c])) : Good l := by
  intro k hk
  have hlt : k < l.length := (List.getElem?_eq_some_iff.1 hk).1
  have := h k (by rw [List.getElem?_append_left hlt]; exact hk)
  refine ⟨this.1, ?_⟩
  have h2 := this.2
  rw [List.getElem?_append_left (by omega)] at h2
  exact h2

theorem Good.nil : Good [] := by intro k hk; simp at hk

theorem Good.add {l : List UInt8} {c : UInt8} (h : Good l) (hc : c = 32 → l ≠ [] ∧ l.getLast? ≠ some 32) : Good (l ++ [c]) := by
  intro k hk
  have hlt : k < (l ++ [c]).length := (List.getElem?_eq_some_iff.1 hk).1
  rw [List.length_append, List.length_singleton] at hlt
  rcases Nat.lt_or_ge k l.length with h1 | h1
  · rw [List.getElem?_append_left h1] at hk
    have := h k hk
    exact ⟨this.1, by rw [List.getElem?_append_left (by omega)]; exact this.2⟩
  · obtain rfl : k = l.length := by omega
    simp at hk
    obtain ⟨h2, h3⟩ := hc hk
    have h4 : 0 < l.length := List.length_pos_iff.2 h2
    refine ⟨h4, ?_⟩
    rw [List.getElem?_append_left (by omega), ← List.getLast?_eq_getElem?]
    exact h3

/-- what is collapsed ends with no space -/
theorem coll_last (l : List UInt8) : (collL l).getLast? ≠ some 32 := by
  induction l using snoc_ind with
  | h0 => simp [collL, collS]
  | h1 l c ih =>
    by_cases hc : c = 32
    · subst hc; rw [collL_space]; exact ih
    · unfold collL at ih ⊢
      rw [collS_snoc]
      unfold cStep
      rw [if_neg hc]
      simp [List.getLast?_append, hc]

theorem coll_good (l : List UInt8) : Good (collL l) := by
  induction l using snoc_ind with
  | h0 => simpa [collL, collS] using Good.nil
  | h1 l c ih =>
    by_cases hc : c = 32
    · subst hc; rw [collL_space]; exact ih
    · have hl := coll_last l
      unfold collL at ih hl ⊢
      rw [collS_snoc]
      unfold cStep
      rw [if_neg hc]
      refine Good.add ?_ (fun e => absurd e hc)
      split
      · rename_i h
        exact Good.add ih (fun _ => ⟨h.1, hl⟩)
      · exact ih

theorem norm_good (l : List UInt8) : Good (normL l) := coll_good _

/-- every byte is a letter, a digit or a space -/
def AllWS (l : List UInt8) : Prop := ∀ c ∈ l, isWordI c.toNat = true ∨ c = 32

theorem strip_ws (l : List UInt8) : AllWS (stripL l) := by
  intro c hc
  unfold stripL at hc
  rw [List.mem_flatMap] at hc
  obtain ⟨x, _, hx⟩ := hc
  unfold stripB at hx
  split at hx
  · rename_i h
    simp at hx
    subst hx
    exact .inl h
  · split at hx
    · simp at hx
    · simp at hx
      exact .inr hx

theorem coll_mem {l : List UInt8} {c : UInt8} (h : c ∈ collL l) : c ∈ l ∨ c = 32 := by
  induction l using snoc_ind with
  | h0 => simp [collL, collS] at h
  | h1 l x ih =>
    by_cases hx : x = 32
    · subst hx
      rw [collL_space] at h
      rcases ih h with h | h
      · exact .inl (by simp [h])
      · exact .inr h
    · unfold collL at h ih
      rw [collS_snoc] at h
      unfold cStep at h
      rw [if_neg hx] at h
      simp only [List.mem_append, List.mem_singleton] at h
      rcases h with h | h
      · split at h
        · simp only [List.mem_append, List.mem_singleton] at h
          rcases h with h | h
          · rcases ih h with h | h
            · exact .inl (by simp [h])
            · exact .inr h
          · exact .inr h
        · rcases ih h with h | h
          · exact .inl (by simp [h])
          · exact .inr h
      · exact .inl (by simp [h])

theorem norm_ws (l : List UInt8) : AllWS (normL l) := by
  intro c hc
  rcases coll_mem hc with h | h
  · exact strip_ws _ c h
  · exact .inr h

/-- the first byte of each word -/
def headsL (ws : List (List UInt8)) : List UInt8 := ws.filterMap List.head?

theorem heads_snoc (ws : List (List UInt8)) (c : UInt8) (r : List UInt8) : headsL (ws ++ [c :: r]) = headsL ws ++ [c] := by simp [headsL]

theorem last_snd (l : List UInt8) : (iS l).2 = (decide (l = []) || (l.getLast? == some 32)) := by
  rcases List.eq_nil_or_concat l with rfl | ⟨r, c, rfl⟩
  · rfl
  · rw [List.concat_eq_append, iS_snoc, List.getLast?_append]
    unfold iStep
    simp

theorem words_inv (l : List UInt8) (h : Good l) : (iS l).1 = headsL (wordsL l) ∧ (iS l).2 = decide ((wS l).2 = []) := by
  induction l using snoc_ind with
  | h0 => simp [iS, wS, wordsL, headsL]
  | h1 l c ih =>
    obtain ⟨h1, h2⟩ := ih h.snoc
    have hp := last_snd l
    by_cases hc : c = 32
    · subst hc
      have hg := h l.length (by simp)
      have hp2 : (iS l).2 = false := by
        rw [hp]
        have h4 : l ≠ [] := List.length_pos_iff.1 hg.1
        have h5 := hg.2
        rw [List.getElem?_append_left (by omega), ← List.getLast?_eq_getElem?] at h5
        simp [h4, h5]
      have hw : (wS l).2 ≠ [] := by
        intro e
        rw [h2] at hp2
        simp [e] at hp2
      unfold wordsL at h1 ⊢
      rw [iS_snoc, wS_snoc]
      unfold iStep wStep
      rw [if_neg hw] at h1
      simp [hp2, hw, h1]
    · unfold wordsL at h1 ⊢
      rw [iS_snoc, wS_snoc]
      unfold iStep wStep
      rw [if_neg hc]
      simp only [List.append_ne_nil_of_right_ne_nil _ (List.cons_ne_nil c []), if_false, decide_false]
      refine ⟨?_, by simp [hc]⟩
      by_cases hw : (wS l).2 = []
      · rw [h2, hw]
        rw [if_pos hw] at h1
        simp only [List.nil_append, heads_snoc, decide_true, if_true]
        rw [h1]
      · rw [h2]
        rw [if_neg hw] at h1
        obtain ⟨x, r, hx⟩ := List.exists_cons_of_ne_nil hw
        rw [hx] at h1 ⊢
        rw [heads_snoc] at h1
        rw [List.cons_append, heads_snoc]
        simpa using h1

theorem initials_same (l : List UInt8) (h : Good l) : (iS l).1 = headsL (wordsL l) := (words_inv l h).1

end Go.Proofs.Ytpldjihajclblaa

/-
  Tokens and grams: plain facts without the program. By an AI agent.
-/
namespace Go.Proofs.Ytpldjihajclblaa
open Go

/-- a text cut at a byte: the parts that have ended and the one under way -/
def kStep (sep : UInt8) (p : List Str × Str) (c : UInt8) : List Str × Str := if c = sep then (p.1 ++ [p.2], []) else (p.1, p.2 ++ [c])
def kS (sep : UInt8) (l : Str) : List Str × Str := l.foldl (kStep sep) ([], [])
def cutL (sep : UInt8) (l : Str) : List Str := (kS sep l).1 ++ [(kS sep l).2]
theorem kS_snoc (sep : UInt8) (l : Str) (c : UInt8) : kS sep (l ++ [c]) = kStep sep (kS sep l) c := by simp [kS]
theorem kS_len (sep : UInt8) (l : Str) : (kS sep l).1.length ≤ l.length := by
  induction l using snoc_ind with
  | h0 => simp [kS]
  | h1 l c ih =>
    rw [kS_snoc]
    unfold kStep
    split <;> simp <;> omega
theorem kS_at (sep : UInt8) (l : Str) (c : UInt8) (h : c = sep) : kS sep (l ++ [c]) = ((kS sep l).1 ++ [(kS sep l).2], []) := by
  rw [kS_snoc]; unfold kStep; rw [if_pos h]
theorem kS_off (sep : UInt8) (l : Str) (c : UInt8) (h : c ≠ sep) : kS sep (l ++ [c]) = ((kS sep l).1, (kS sep l).2 ++ [c]) := by
  rw [kS_snoc]; unfold kStep; rw [if_neg h]

def ne0 (x : Str) : Bool := !x.isEmpty
theorem ne0_yes {x : Str} (h : x ≠ []) : ne0 x = true := by cases x <;> simp_all [ne0]
theorem ne0_nil : ne0 [] = false := rfl

theorem cut_words_inv (l : Str) : (kS 32 l).1.filter ne0 = (wS l).1 ∧ (kS 32 l).2 = (wS l).2 := by
  induction l using snoc_ind with
  | h0 => simp [kS, wS]
  | h1 l c ih =>
    obtain ⟨h1, h2⟩ := ih
    rw [kS_snoc, wS_snoc]
    unfold kStep wStep
    by_cases hc : c = 32
    · rw [if_pos hc, if_pos hc]
      by_cases he : (wS l).2 = []
      · rw [if_pos he]
        refine ⟨?_, by simp [he]⟩
        rw [List.filter_append, h1, h2, he]
        simp [ne0_nil]
      · rw [if_neg he]
        refine ⟨?_, rfl⟩
        rw [List.filter_append, h1, h2]
        simp [ne0_yes he]
    · rw [if_neg hc, if_neg hc]
      exact ⟨h1, by rw [h2]⟩

theorem cut_words (l : Str) : (cutL 32 l).filter ne0 = wordsL l := by
  obtain ⟨h1, h2⟩ := cut_words_inv l
  unfold cutL wordsL
  rw [List.filter_append, h1, h2]
  by_cases he : (wS l).2 = []
  · rw [if_pos he, he]; simp [ne0_nil]
  · rw [if_neg he]; simp [ne0_yes he]

theorem words_len (l : Str) : (wordsL l).length ≤ l.length + 1 := by
  have h1 := congrArg List.length (cut_words l)
  have h2 := List.length_filter_le ne0 (cutL 32 l)
  have h3 := kS_len 32 l
  unfold cutL at h2
  unfold cutL at h1
  simp only [List.length_append, List.length_singleton] at h2
  omega

/-- all bytes of the words are bytes of the text, and no spaces -/
theorem wS_bytes (l : Str) : (∀ x ∈ (wS l).1, x ≠ [] ∧ ∀ c ∈ x, c ∈ l ∧ c ≠ 32) ∧ (∀ c ∈ (wS l).2, c ∈ l ∧ c ≠ 32) := by
  induction l using snoc_ind with
  | h0 => simp [wS]
  | h1 l c ih =>
    obtain ⟨h1, h2⟩ := ih
    have m1 : ∀ x ∈ (wS l).1, x ≠ [] ∧ ∀ d ∈ x, d ∈ l ++ [c] ∧ d ≠ 32 := fun x hx => ⟨(h1 x hx).1, fun d hd => ⟨by simp [((h1 x hx).2 d hd).1], ((h1 x hx).2 d hd).2⟩⟩
    have m2 : ∀ d ∈ (wS l).2, d ∈ l ++ [c] ∧ d ≠ 32 := fun d hd => ⟨by simp [(h2 d hd).1], (h2 d hd).2⟩
    rw [wS_snoc]
    unfold wStep
    by_cases hc : c = 32
    · rw [if_pos hc]
      by_cases he : (wS l).2 = []
      · rw [if_pos he]; exact ⟨m1, m2⟩
      · rw [if_neg he]
        refine ⟨fun x hx => ?_, fun d hd => by cases hd⟩
        rcases List.mem_append.1 hx with hx | hx
        · exact m1 x hx
        · simp at hx; subst hx; exact ⟨he, m2⟩
    · rw [if_neg hc]
      refine ⟨m1, fun d hd => ?_⟩
      rcases List.mem_append.1 hd with hd | hd
      · exact m2 d hd
      · simp at hd; subst hd; exact ⟨by simp, hc⟩

theorem words_bytes (l : Str) : ∀ x ∈ wordsL l, x ≠ [] ∧ ∀ c ∈ x, c ∈ l ∧ c ≠ 32 := by
  obtain ⟨h1, h2⟩ := wS_bytes l
  intro x hx
  unfold wordsL at hx
  by_cases he : (wS l).2 = []
  · rw [if_pos he] at hx; exact h1 x hx
  · rw [if_neg he] at hx
    rcases List.mem_append.1 hx with hx | hx
    · exact h1 x hx
    · simp at hx; subst hx; exact ⟨he, h2⟩

theorem wS_short (l : Str) : (∀ x ∈ (wS l).1, x.length ≤ l.length) ∧ (wS l).2.length ≤ l.length := by
  induction l using snoc_ind with
  | h0 => simp [wS]
  | h1 l c ih =>
    obtain ⟨h1, h2⟩ := ih
    rw [wS_snoc]
    unfold wStep
    have hl : (l ++ [c]).length = l.length + 1 := by simp
    rw [hl]
    split
    · split
      · exact ⟨fun x hx => by have := h1 x hx; omega, by omega⟩
      · refine ⟨fun x hx => ?_, by simp⟩
        rcases List.mem_append.1 hx with hx | hx
        · have := h1 x hx; omega
        · simp at hx; subst hx; omega
    · refine ⟨fun x hx => by have := h1 x hx; omega, ?_⟩
      simp
      omega
theorem words_short (l : Str) : ∀ x ∈ wordsL l, x.length ≤ l.length := by
  obtain ⟨h1, h2⟩ := wS_short l
  intro x hx
  unfold wordsL at hx
  split at hx
  · exact h1 x hx
  · rcases List.mem_append.1 hx with hx | hx
    · exact h1 x hx
    · simp at hx; subst hx; exact h2

/-- the tokens of a text -/
def toksL (s : Str) : List Str := setL (wordsL (normL s))

/-- all parts of q bytes -/
def gramsL (s : Str) (q : Nat) : List Str := (List.range (s.length + 1 - q)).map fun i => (s.drop i).take q
theorem grams_len (s : Str) (q : Nat) : (gramsL s q).length = s.length + 1 - q := by simp [gramsL]
theorem grams_take (s : Str) (q k : Nat) (h : k + q ≤ s.length) : (gramsL s q).take (k + 1) = (gramsL s q).take k ++ [(s.drop k).take q] := by
  have hlt : k < (gramsL s q).length := by rw [grams_len]; omega
  rw [List.take_succ_eq_append_getElem hlt]
  simp [gramsL]
theorem grams_all (s : Str) (q k : Nat) (h : s.length + 1 - q ≤ k) : (gramsL s q).take k = gramsL s q := List.take_of_length_le (by rw [grams_len]; exact h)

/-- a letter a to z or a digit -/
def lowB (c : UInt8) : Bool := isWordI c.toNat && !(decide (65 ≤ c.toNat ∧ c.toNat ≤ 90))
def tokB (x : Str) : Bool := ne0 x && x.all lowB

theorem lowB_fold {c : UInt8} (h : isWordI c.toNat = true) : lowB c = true ↔ foldB c = c := by
  unfold lowB
  rw [h]
  by_cases hu : 65 ≤ c.toNat ∧ c.toNat ≤ 90
  · rw [foldB_yes hu.1 hu.2]
    simp only [hu, and_self, decide_true, Bool.not_true, Bool.and_false, Bool.false_eq_true, false_iff]
    intro e
    have := congrArg UInt8.toNat e
    rw [UInt8.toNat_ofNat'] at this
    omega
  · rw [foldB_no hu]
    simp [hu]

/-- every element is a token and greater than the one before it -/
def TokSet (l : List Str) : Prop := (∀ x ∈ l, tokB x = true) ∧ Asc l

theorem asc_snoc {l : List Str} {x : Str} : Asc (l ++ [x]) ↔ Asc l ∧ ∀ y, l.getLast? = some y → y < x := by
  unfold Asc
  rw [List.pairwise_append]
  constructor
  · rintro ⟨h1, -, h2⟩
    exact ⟨h1, fun y hy => h2 y (List.mem_of_getLast? hy) x (by simp)⟩
  · rintro ⟨h1, h2⟩
    refine ⟨h1, by simp, fun y hy z hz => ?_⟩
    simp at hz
    subst hz
    rcases List.eq_nil_or_concat l with rfl | ⟨r, c, rfl⟩
    · cases hy
    · rw [List.concat_eq_append] at *
      have hc := h2 c (by simp)
      rcases List.mem_append.1 hy with hy | hy
      · exact str_lt_trans ((List.pairwise_append.1 h1).2.2 y hy c (by simp)) hc
      · simp at hy; subst hy; exact hc

noncomputable def tsB (l : List Str) : Bool := @decide (TokSet l) (Classical.propDecidable _)
theorem tsB_yes {l : List Str} (h : TokSet l) : tsB l = true := by unfold tsB; exact (@decide_eq_true_iff _ (Classical.propDecidable _)).2 h
theorem tsB_no {l : List Str} (h : ¬ TokSet l) : tsB l = false := by unfold tsB; exact (@decide_eq_false_iff_not _ (Classical.propDecidable _)).2 h

theorem tok_step {l : List Str} {x : Str} (h : TokSet l) (hx : tokB x = true) (hl : ∀ y, l.getLast? = some y → y < x) : TokSet (l ++ [x]) :=
  ⟨fun y hy => by rcases List.mem_append.1 hy with hy | hy; exact h.1 y hy; simp at hy; subst hy; exact hx, asc_snoc.2 ⟨h.2, hl⟩⟩
theorem tok_bad {l : List Str} {x : Str} (hx : x ∈ l) (h : tokB x = false) : ¬ TokSet l := fun e => by rw [e.1 x hx] at h; cases h
theorem tok_order {l : List Str} {k : Nat} {x y : Str} (hy : l[k]? = some y) (hx : l[k + 1]? = some x) (h : ¬ y < x) : ¬ TokSet l := fun e => by
  obtain ⟨h1, e1⟩ := List.getElem?_eq_some_iff.1 hy
  obtain ⟨h2, e2⟩ := List.getElem?_eq_some_iff.1 hx
  have := List.pairwise_iff_getElem.1 e.2 k (k + 1) h1 h2 (by omega)
  rw [e1, e2] at this
  exact h this

theorem fold_low (c : UInt8) : ¬ (65 ≤ (foldB c).toNat ∧ (foldB c).toNat ≤ 90) := by
  by_cases h : 65 ≤ c.toNat ∧ c.toNat ≤ 90
  · rw [foldB_yes h.1 h.2, UInt8.toNat_ofNat']
    omega
  · rw [foldB_no h]; exact h

/-- no upper-case letter -/
def NoUp (l : Str) : Prop := ∀ c ∈ l, ¬ (65 ≤ c.toNat ∧ c.toNat ≤ 90)
theorem norm_noUp (s : Str) : NoUp (normL s) := by
  intro c hc
  rcases coll_mem hc with h | h
  · unfold stripL at h
    rw [List.mem_flatMap] at h
    obtain ⟨x, hx, hcx⟩ := h
    unfold foldL at hx
    rw [List.mem_map] at hx
    obtain ⟨y, _, rfl⟩ := hx
    unfold stripB at hcx
    split at hcx
    · simp at hcx; subst hcx; exact fold_low y
    · split at hcx
      · simp at hcx
      · simp at hcx; subst hcx; decide
  · subst h; decide

theorem toks_tok (s : Str) : TokSet (toksL s) := by
  refine ⟨fun x hx => ?_, setL_asc _⟩
  unfold toksL at hx
  rw [setL_mem] at hx
  obtain ⟨h1, h2⟩ := words_bytes _ x hx
  unfold tokB
  rw [ne0_yes h1, Bool.true_and, List.all_eq_true]
  intro c hc
  obtain ⟨h3, h4⟩ := h2 c hc
  have h5 : isWordI c.toNat = true := by
    rcases norm_ws s c h3 with h | h
    · exact h
    · exact absurd h h4
  unfold lowB
  rw [h5]
  have := norm_noUp s c h3
  simp [this]

end Go.Proofs.Ytpldjihajclblaa

/-
  The bytes of a varint: plain facts without the program. By an AI agent.
-/
namespace Go.Proofs.Ytpldjihajclblaa

/-- the bytes of n, seven bits each, the lowest first -/
def vint (n : Nat) : List UInt8 := if n < 128 then [UInt8.ofNat n] else UInt8.ofNat (128 + n % 128) :: vint (n / 128)
termination_by n
decreasing_by omega

theorem vint_small (n : Nat) (h : n < 128) : vint n = [UInt8.ofNat n] := by rw [vint, if_pos h]
theorem vint_large (n : Nat) (h : ¬ n < 128) : vint n = UInt8.ofNat (128 + n % 128) :: vint (n / 128) := by rw [vint, if_neg h]

theorem vint_length (n : Nat) : (vint n).length ≤ n / 128 + 1 := by
  induction n using Nat.strongRecOn with
  | ind n ih =>
    by_cases h : n < 128
    · rw [vint_small n h]; simp
    · rw [vint_large n h]
      have := ih (n / 128) (by omega)
      simp only [List.length_cons]
      omega

theorem vint_length_pos (n : Nat) : 0 < (vint n).length := by
  by_cases h : n < 128
  · rw [vint_small n h]; simp
  · rw [vint_large n h]; simp

/-- what seven bits of each byte spell, the lowest first -/
def leN : List UInt8 → Nat
  | [] => 0
  | b :: l => b.toNat % 128 + 128 * leN l

theorem leN_lt (l : List UInt8) : leN l < 128 ^ l.length := by
  induction l with
  | nil => simp [leN]
  | cons b l ih =>
    simp only [leN, List.length_cons, Nat.pow_succ]
    have : b.toNat % 128 < 128 := Nat.mod_lt _ (by omega)
    omega

theorem leN_small (l : List UInt8) (h : l.length ≤ 7) : leN l ≤ 562949953421311 := by
  have h1 := leN_lt l
  have h2 : 128 ^ l.length ≤ 128 ^ 7 := Nat.pow_le_pow_right (by omega) h
  have h3 : (128 : Nat) ^ 7 = 562949953421312 := by decide
  omega

theorem leN_small6 (l : List UInt8) (h : l.length ≤ 6) : leN l < 4398046511104 := by
  have h1 := leN_lt l
  have h2 : 128 ^ l.length ≤ 128 ^ 6 := Nat.pow_le_pow_right (by omega) h
  have h3 : (128 : Nat) ^ 6 = 4398046511104 := by decide
  omega

theorem leN_snoc (l : List UInt8) (b : UInt8) : leN (l ++ [b]) = leN l + 128 ^ l.length * (b.toNat % 128) := by
  induction l with
  | nil => simp [leN]
  | cons c l ih =>
    simp only [List.cons_append, leN, ih, List.length_cons, Nat.pow_succ]
    rw [Nat.mul_add, Nat.mul_comm (128 ^ l.length) 128, Nat.mul_assoc, Nat.add_assoc]

/-- the last byte of a varint is below 128, all others are not -/
theorem vint_form (n : Nat) : ∃ pre last, vint n = pre ++ [last] ∧ last.toNat < 128 ∧ ∀ b ∈ pre, 128 ≤ b.toNat := by
  induction n using Nat.strongRecOn with
  | ind n ih =>
    by_cases h : n < 128
    · refine ⟨[], UInt8.ofNat n, by rw [vint_small n h]; rfl, ?_, by simp⟩
      rw [UInt8.toNat_ofNat']
      omega
    · obtain ⟨pre, last, h1, h2, h3⟩ := ih (n / 128) (by omega)
      refine ⟨UInt8.ofNat (128 + n % 128) :: pre, last, by rw [vint_large n h, h1]; rfl, h2, ?_⟩
      intro b hb
      rcases List.mem_cons.1 hb with rfl | hb
      · rw [UInt8.toNat_ofNat']
        omega
      · exact h3 b hb

/-- a prefix of l that is a varint ends at the first byte below 128 -/
theorem vint_take {l : List UInt8} {n k : Nat} (hk : k ≤ l.length) (h : vint n = l.take k) :
    0 < k ∧ (∃ b, l[k - 1]? = some b ∧ b.toNat < 128) ∧ ∀ j b, j < k - 1 → l[j]? = some b → 128 ≤ b.toNat := by
  obtain ⟨pre, last, h1, h2, h3⟩ := vint_form n
  have hlen : pre.length + 1 = k := by
    have e := congrArg List.length (h1.symm.trans h)
    rw [List.length_append, List.length_take, List.length_singleton] at e
    omega
  have e : l.take k = pre ++ [last] := by rw [← h, h1]
  have get : ∀ j, j < k → l[j]? = (pre ++ [last])[j]? := by
    intro j hj
    rw [← e, List.getElem?_take_of_lt hj]
  refine ⟨by omega, ⟨last, ?_, h2⟩, ?_⟩
  · rw [get _ (by omega), show k - 1 = pre.length by omega]
    simp
  · intro j b hj hb
    rw [get j (by omega), List.getElem?_append_left (by omega)] at hb
    exact h3 b (List.mem_of_getElem? hb)

/-- what DecodeVarint answers at l: the number n and the length k -/
def DvOk (l : List UInt8) (n k : Nat) : Prop :=
  (1 ≤ k ∧ k ≤ 7 ∧ k ≤ l.length ∧ n = leN (l.take k) ∧ vint n = l.take k) ∨
  (k = 0 ∧ n = 0 ∧ ∀ j, 1 ≤ j → j ≤ 7 → j ≤ l.length → vint (leN (l.take j)) ≠ l.take j)

theorem DvOk.same {l : List UInt8} {n k n' k' : Nat} (h : DvOk l n k) (h' : DvOk l n' k') : n = n' ∧ k = k' := by
  rcases h with ⟨a1, a2, a3, a4, a5⟩ | ⟨a1, a2, a3⟩ <;> rcases h' with ⟨b1, b2, b3, b4, b5⟩ | ⟨b1, b2, b3⟩
  · obtain ⟨_, ⟨x, hx, hx1⟩, hx2⟩ := vint_take a3 a5
    obtain ⟨_, ⟨y, hy, hy1⟩, hy2⟩ := vint_take b3 b5
    have hkk : k = k' := by
      rcases Nat.lt_trichotomy k k' with hlt | heq | hgt
      · have := hy2 (k - 1) x (by omega) hx; omega
      · exact heq
      · have := hx2 (k' - 1) y (by omega) hy; omega
    subst hkk
    exact ⟨by rw [a4, b4], rfl⟩
  · exact absurd (a4 ▸ a5) (b3 k a1 a2 a3)
  · exact absurd (b4 ▸ b5) (a3 k' b1 b2 b3)
  · omega

/-- what varintLength answers at l: the place behind the first byte below 128 among the first seven, or 0 -/
def IsVlen (l : List UInt8) (k : Nat) : Prop :=
  (k = 0 ∧ ∀ j b, j < 7 → l[j]? = some b → 128 ≤ b.toNat) ∨
  (1 ≤ k ∧ k ≤ 7 ∧ k ≤ l.length ∧ (∃ b, l[k - 1]? = some b ∧ b.toNat < 128) ∧ ∀ j b, j < k - 1 → l[j]? = some b → 128 ≤ b.toNat)

theorem IsVlen.le {l : List UInt8} {k : Nat} (h : IsVlen l k) : k ≤ 7 ∧ k ≤ l.length := by
  rcases h with ⟨h, _⟩ | ⟨_, h1, h2, _⟩ <;> omega

theorem vlen_yes {l : List UInt8} {k : Nat} (h : IsVlen l k) (e : vint (leN (l.take k)) = l.take k) : DvOk l (leN (l.take k)) k := by
  rcases h with ⟨rfl, _⟩ | ⟨h1, h2, h3, _⟩
  · have := vint_length_pos (leN (l.take 0))
    rw [e] at this
    simp at this
  · exact .inl ⟨h1, h2, h3, rfl, e⟩

theorem vlen_no {l : List UInt8} {k : Nat} (h : IsVlen l k) (e : vint (leN (l.take k)) ≠ l.take k) : DvOk l 0 0 := by
  refine .inr ⟨rfl, rfl, fun j j1 j2 j3 hj => ?_⟩
  obtain ⟨_, ⟨x, hx, hx1⟩, hx2⟩ := vint_take j3 hj
  rcases h with ⟨rfl, h0⟩ | ⟨h1, h2, h3, ⟨y, hy, hy1⟩, hy2⟩
  · have := h0 (j - 1) x (by omega) hx; omega
  · have hjk : j = k := by
      rcases Nat.lt_trichotomy j k with hlt | heq | hgt
      · have := hy2 (j - 1) x (by omega) hx; omega
      · exact heq
      · have := hx2 (k - 1) y (by omega) hy; omega
    subst hjk
    exact e hj

end Go.Proofs.Ytpldjihajclblaa

/-
  Plain facts on byte strings and numbers, without the program: the big-endian value of a list of bytes. By an AI agent.
-/
namespace Go.Proofs.Ytpldjihajclblaa

/-- the big-endian value of a list of bytes -/
def beN (l : List UInt8) : Nat := l.foldl (fun n b => n * 256 + b.toNat) 0

theorem beN_snoc (l : List UInt8) (b : UInt8) : beN (l ++ [b]) = beN l * 256 + b.toNat := by
  simp [beN]

theorem beN_from (l : List UInt8) : ∀ a : Nat, l.foldl (fun n b => n * 256 + b.toNat) a < (a + 1) * 256 ^ l.length := by
  induction l with
  | nil => intro a; simp
  | cons b l ih =>
    intro a
    have h := ih (a * 256 + b.toNat)
    have hb := b.toNat_lt
    rw [List.foldl_cons, List.length_cons, Nat.pow_succ]
    have h2 : (a * 256 + b.toNat + 1) * 256 ^ l.length ≤ ((a + 1) * 256) * 256 ^ l.length := Nat.mul_le_mul_right _ (by omega)
    have h3 : (a + 1) * (256 ^ l.length * 256) = ((a + 1) * 256) * 256 ^ l.length := by rw [Nat.mul_comm (256 ^ l.length), ← Nat.mul_assoc]
    omega

theorem beN_lt (l : List UInt8) : beN l < 256 ^ l.length := by
  have h := beN_from l 0
  simpa [beN] using h

theorem take_snoc (s : ByteArray) (k : Nat) (h : k < s.size) : s.data.toList.take (k + 1) = s.data.toList.take k ++ [s[k]] := by
  rw [List.take_succ_eq_append_getElem (by simpa using h)]; rfl

theorem beN_take (s : ByteArray) (k : Nat) (h : k < s.size) : beN (s.data.toList.take (k + 1)) = beN (s.data.toList.take k) * 256 + s[k].toNat := by
  rw [take_snoc s k h, beN_snoc]

theorem beN_small (s : ByteArray) (k : Nat) (h : k ≤ 7) : beN (s.data.toList.take k) < 72057594037927936 := by
  have h1 := beN_lt (s.data.toList.take k)
  have h2 : (s.data.toList.take k).length ≤ k := List.length_take_le _ _
  have h3 : 256 ^ (s.data.toList.take k).length ≤ 256 ^ 7 := Nat.pow_le_pow_right (by omega) (by omega)
  have h4 : (256 : Nat) ^ 7 = 72057594037927936 := by decide
  omega

theorem beN_small6 (s : ByteArray) (k : Nat) (h : k < 7) : beN (s.data.toList.take k) < 281474976710656 := by
  have h1 := beN_lt (s.data.toList.take k)
  have h2 : (s.data.toList.take k).length ≤ k := List.length_take_le _ _
  have h3 : 256 ^ (s.data.toList.take k).length ≤ 256 ^ 6 := Nat.pow_le_pow_right (by omega) (by omega)
  have h4 : (256 : Nat) ^ 6 = 281474976710656 := by decide
  omega

theorem wraps_i64 (n : Int) (h0 : 0 ≤ n) (h1 : n < 2 ^ 63) : IntKind.i64.wrap n = n := by rw [IntKind.wrap_i64]; omega

theorem i64_or8 (x y : Int) (hx0 : 0 ≤ x) (hx : x % 256 = 0) (hx1 : x < 9223372036854775808) (hy0 : 0 ≤ y) (hy : y < 256) : bits .or .i64 x y = x + y :=
  bits_join .i64 63 (by decide) wraps_i64 8 x y hx0 hx hx1 hy0 hy (by omega)

/-- the m low bytes of n, the highest first -/
def fixB : Nat → Nat → List UInt8
  | 0, _ => []
  | m + 1, n => fixB m (n / 256) ++ [UInt8.ofNat (n % 256)]

theorem fixB_length (m : Nat) : ∀ n, (fixB m n).length = m := by
  induction m with
  | zero => intro n; rfl
  | succ m ih => intro n; rw [fixB, List.length_append, ih]; rfl

/-- what EncodeFixed answers, for 0 ≤ n and a width m of 1 to 7 -/
def efL (n m : Nat) : List UInt8 := if n < 256 ^ m then fixB m n else []

theorem efL_fits {n m : Nat} (h : n / 256 ^ m = 0) : efL n m = fixB m n := by
  have hp : 0 < 256 ^ m := Nat.pow_pos (by omega)
  have : n < 256 ^ m := by
    rcases Nat.div_eq_zero_iff.1 h with h | h
    · omega
    · exact h
  rw [efL, if_pos this]

theorem efL_not {n m : Nat} (h : n / 256 ^ m ≠ 0) : efL n m = [] := by
  have : ¬ n < 256 ^ m := fun hl => h (Nat.div_eq_of_lt hl)
  rw [efL, if_neg this]

theorem fixB_step {n m j : Nat} {l : List UInt8} (hj : j < m) (h : fixB m n = fixB (m - j) (n / 256 ^ j) ++ l) :
    fixB m n = fixB (m - (j + 1)) (n / 256 ^ (j + 1)) ++ (UInt8.ofNat (n / 256 ^ j % 256) :: l) := by
  rw [h, show m - j = (m - (j + 1)) + 1 by omega, fixB, Nat.div_div_eq_div_mul, ← Nat.pow_succ, List.append_assoc]
  rfl

theorem wrap_shl (m : Nat) (h : m ≤ 7) : RowKit.wrap64 (2 ^ (8 * m)) = ((256 ^ m : Nat) : Int) := by
  match m, h with
  | 0, _ => simp [RowKit.wrap64]
  | 1, _ => simp [RowKit.wrap64]
  | 2, _ => simp [RowKit.wrap64]
  | 3, _ => simp [RowKit.wrap64]
  | 4, _ => simp [RowKit.wrap64]
  | 5, _ => simp [RowKit.wrap64]
  | 6, _ => simp [RowKit.wrap64]
  | 7, _ => simp [RowKit.wrap64]

end Go.Proofs.Ytpldjihajclblaa

/-
  Splitting and joining, in plain lists. By an AI agent.
-/
namespace Go.Proofs.Ytpldjihajclblaa
open Go.RowKit
set_option linter.unusedVariables false

theorem ix_none {c : UInt8} : ∀ {s : Str}, c ∉ s → Lib.index s [c] = -1
  | [], _ => rfl
  | b :: s, h => by
    have h1 := ix_none (c := c) (s := s) (fun e => h (List.mem_cons_of_mem _ e))
    have h2 : c ≠ b := fun e => h (by rw [e]; exact List.mem_cons_self ..)
    have h3 : ([c] : Str).isPrefixOf (b :: s) = false := by simp [List.isPrefixOf, h2]
    rw [Lib.index, h3, h1]
    rfl
theorem ix_at {c : UInt8} (y : Str) : ∀ {x : Str}, c ∉ x → Lib.index (x ++ c :: y) [c] = (x.length : Nat)
  | [], _ => by
    have h3 : ([c] : Str).isPrefixOf (c :: y) = true := by simp [List.isPrefixOf]
    rw [List.nil_append, Lib.index, h3]
    rfl
  | b :: x, h => by
    have h1 := ix_at y (c := c) (x := x) (fun e => h (List.mem_cons_of_mem _ e))
    have h2 : c ≠ b := fun e => h (by rw [e]; exact List.mem_cons_self ..)
    have h3 : ([c] : Str).isPrefixOf (b :: (x ++ c :: y)) = false := by simp [List.isPrefixOf, h2]
    rw [List.cons_append, Lib.index, h3, h1]
    have h4 : ¬ ((x.length : Nat) : Int) = -1 := by omega
    simp [h4]
theorem first_of (c : UInt8) : ∀ s : Str, c ∉ s ∨ ∃ x y, s = x ++ c :: y ∧ c ∉ x
  | [] => .inl (by simp)
  | b :: s => by
    by_cases hb : c = b
    · exact .inr ⟨[], s, by rw [hb]; rfl, by simp⟩
    · rcases first_of c s with h | ⟨x, y, rfl, h⟩
      · exact .inl (by simp [hb, h])
      · exact .inr ⟨b :: x, y, rfl, by simp [hb, h]⟩

theorem tail_nil (c : UInt8) : Lib.joinTail [c] [] = [] := rfl
theorem tail_cons (c : UInt8) (y : Str) (L : List Str) : Lib.joinTail [c] (y :: L) = c :: (y ++ Lib.joinTail [c] L) := by simp [Lib.joinTail]

theorem split_back (c : UInt8) : ∀ (k : Nat) (s : Str), ∃ x L, Lib.splitK [c] 0 k s = x :: L ∧ s = x ++ Lib.joinTail [c] L
  | 0, s => ⟨s, [], rfl, by simp [Lib.joinTail]⟩
  | k + 1, s => by
    rcases first_of c s with h | ⟨x, y, rfl, h⟩
    · refine ⟨s, [], ?_, by simp [Lib.joinTail]⟩
      rw [Lib.splitK, ix_none h]
      rfl
    · obtain ⟨z, L, h1, h2⟩ := split_back c k y
      refine ⟨x, z :: L, ?_, by rw [tail_cons, ← h2]⟩
      have h4 : ¬ ((x.length : Nat) : Int) = -1 := by omega
      rw [Lib.splitK, ix_at y h, ← h1]
      simp [h4]
theorem split_fwd (c : UInt8) : ∀ (L : List Str) (k : Nat) (x : Str), L.length ≤ k → c ∉ x → (∀ y ∈ L, c ∉ y) → Lib.splitK [c] 0 k (x ++ Lib.joinTail [c] L) = x :: L
  | [], k, x, _, hx, _ => by
    rw [tail_nil, List.append_nil]
    cases k with
    | zero => rfl
    | succ k => rw [Lib.splitK, ix_none hx]; rfl
  | y :: L, k, x, hk, hx, hL => by
    obtain ⟨k, rfl⟩ : ∃ k', k = k' + 1 := ⟨k - 1, by simp at hk; omega⟩
    have h1 := split_fwd c L k y (by simp at hk; omega) (hL y (List.mem_cons_self ..)) (fun z hz => hL z (List.mem_cons_of_mem _ hz))
    have h4 : ¬ ((x.length : Nat) : Int) = -1 := by omega
    rw [tail_cons, Lib.splitK, ix_at _ hx, ← h1]
    simp [h4]

theorem cut_at (c : UInt8) {x : Str} (y : Str) (h : c ∉ x) : Lib.cut (x ++ c :: y) [c] = (x, y, true) := by
  have h4 : (0 : Int) ≤ ((x.length : Nat) : Int) := by omega
  unfold Lib.cut
  rw [ix_at y h, if_pos h4]
  simp
theorem cut_not (c : UInt8) {s : Str} (h : c ∉ s) : Lib.cut s [c] = (s, [], false) := by
  unfold Lib.cut
  rw [ix_none h, if_neg (by decide)]

theorem fold_off (c : UInt8) : ∀ (l : Str) (P : List Str) (q : Str), c ∉ l → l.foldl (kStep c) (P, q) = (P, q ++ l)
  | [], P, q, _ => by simp
  | b :: l, P, q, h => by
    have h2 : b ≠ c := fun e => h (by rw [e]; exact List.mem_cons_self ..)
    have h1 := fold_off c l P (q ++ [b]) (fun e => h (List.mem_cons_of_mem _ e))
    rw [List.foldl_cons]
    unfold kStep at h1 ⊢
    rw [if_neg h2, h1]
    simp
theorem fold_tail (c : UInt8) : ∀ (L : List Str) (P : List Str) (q : Str), (∀ y ∈ L, c ∉ y) → ((Lib.joinTail [c] L).foldl (kStep c) (P, q)).1 ++ [((Lib.joinTail [c] L).foldl (kStep c) (P, q)).2] = P ++ q :: L
  | [], P, q, _ => by simp [Lib.joinTail]
  | y :: L, P, q, h => by
    have h1 := fold_tail c L (P ++ [q]) y (fun z hz => h z (List.mem_cons_of_mem _ hz))
    have e : kStep c (P, q) c = (P ++ [q], []) := by unfold kStep; rw [if_pos rfl]
    rw [tail_cons, List.foldl_cons, e, List.foldl_append, fold_off c y _ _ (h y (List.mem_cons_self ..)), List.nil_append, h1]
    simp
theorem cutL_fwd (c : UInt8) (x : Str) (L : List Str) (hx : c ∉ x) (hL : ∀ y ∈ L, c ∉ y) : cutL c (x ++ Lib.joinTail [c] L) = x :: L := by
  unfold cutL kS
  rw [List.foldl_append, fold_off c x _ _ hx, List.nil_append, fold_tail c L [] x hL]
  rfl
theorem cutL_cons (c : UInt8) (s : Str) : ∃ x L, cutL c s = x :: L := by
  cases h : cutL c s with
  | nil => unfold cutL at h; simp at h
  | cons x L => exact ⟨x, L, rfl⟩
theorem kS_parts (c : UInt8) (s : Str) : (∀ y ∈ (kS c s).1, y.length ≤ s.length) ∧ (kS c s).2.length ≤ s.length := by
  induction s using snoc_ind with
  | h0 => simp [kS]
  | h1 s b ih =>
    obtain ⟨h1, h2⟩ := ih
    by_cases hb : b = c
    · rw [kS_at _ _ _ hb]
      refine ⟨fun y hy => ?_, by simp⟩
      simp only [List.mem_append, List.mem_singleton] at hy
      rw [List.length_append]
      rcases hy with hy | rfl
      · have := h1 y hy; omega
      · omega
    · rw [kS_off _ _ _ hb]
      refine ⟨fun y hy => ?_, by simp; exact h2⟩
      have := h1 y hy
      rw [List.length_append]
      omega
theorem cutL_part {c : UInt8} {s y : Str} (h : y ∈ cutL c s) : y.length ≤ s.length := by
  unfold cutL at h
  simp only [List.mem_append, List.mem_singleton] at h
  rcases h with h | rfl
  · exact (kS_parts c s).1 y h
  · exact (kS_parts c s).2
theorem cutL_nil (c : UInt8) : cutL c [] = [[]] := rfl

theorem itoa_digits {k : Int} (h : 1 ≤ k) {b : UInt8} (hb : b ∈ Lib.itoa k) : 48 ≤ b.toNat ∧ b.toNat ≤ 57 := by
  obtain ⟨a, rfl⟩ : ∃ a : Nat, k = a := ⟨k.toNat, by omega⟩
  rw [Lib.itoa_nonneg] at hb
  exact dec_all a b hb
theorem itoa_ne {k : Int} (h : 1 ≤ k) : Lib.itoa k ≠ [] := by
  obtain ⟨a, rfl⟩ : ∃ a : Nat, k = a := ⟨k.toNat, by omega⟩
  rw [Lib.itoa_nonneg]
  exact dec_ne a
theorem itoa_off {k : Int} (h : 1 ≤ k) {c : UInt8} (hc : c.toNat < 48 ∨ 57 < c.toNat) : c ∉ Lib.itoa k := fun hm => by
  have := itoa_digits h hm
  omega

end Go.Proofs.Ytpldjihajclblaa

/-
  The number that ParseInt reads, as a function; both sides' contracts with it. By an AI agent.
-/
namespace Go.Proofs.Ytpldjihajclblaa
open Go.RowKit
set_option linter.unusedVariables false

open Classical in
noncomputable def piR (l : List UInt8) : Int := if h : ∃ n ok, PiOk l n ok then h.choose else 0
theorem piR_of {l : List UInt8} {n : Int} {ok : Bool} (h : PiOk l n ok) : piR l = n := by
  have h1 : ∃ n ok, PiOk l n ok := ⟨n, ok, h⟩
  unfold piR
  rw [dif_pos h1]
  obtain ⟨ok', h2⟩ := h1.choose_spec
  exact (h2.same h).1

end Go.Proofs.Ytpldjihajclblaa

