/-
  Texts laid together: OwnBytes, PlainSet, StrS, PlainVarint, SpecIn, EncVar, StrT. By an AI agent.
-/
import Derived.Test.YthjbekgognfiiaaGreatRows
import Derived.WalkKit
import Derived.WalkSpells
import Derived.WalkLawsBesides
import Derived.Lib.Hide
import Derived.Lib.UnsafeStr
import Derived.Laws.IdiomStrings
import Derived.Laws.BytesArg
import Derived.Sort.KeysCollected
import Derived.BigQuiet
import Derived.Deep.QuietTactic
import Derived.OwnWalk
import Derived.Laws.OwnMore
import Derived.Maps.AppendAt
import Derived.Sort.EncStr
import Derived.Laws.BitsLemmas
import Derived.Deep.RegionHeld3
/-
  A slice of bytes that the call made itself: what append of one byte leaves, and what string(b) gives. By an AI agent.
-/
namespace Go.Proofs.YthjbekgognfiiaaGreat
open Go.RowKit
set_option linter.unusedVariables false

def OwnB (w : World) (base : Nat) (v : Value) (l : List UInt8) : Prop := w.ownsRow base 5 1 v l.length (Lib.byteCells l)

theorem info_u8 : (Tryz.prog.info? 5).map (fun i => (i.zero, i.size, i.bytes)) = some (some (.int .u8 0), 1, 1) := by kernel_rfl

theorem OwnB.nil (w : World) (base : Nat) : OwnB w base (.slice none 0 0) [] := World.ownsRow_nil _ _ _ _

theorem OwnB.made (w : World) (base : Nat) (cur : Array Value) (cap : Nat) (hb : base ≤ w.heap.size) (hm : cap ≤ maxLen) (hs : cur.size = cap) :
    OwnB (w.alloc (.cells cur 5)) base (.slice (some ⟨w.heap.size, 0, none⟩) 0 cap) [] :=
  World.ownsRow_made w cur cap hb hm (by omega)

theorem OwnB.alloc {w : World} {base : Nat} {v : Value} {l : List UInt8} (h : OwnB w base v l) (o : Obj) : OwnB (w.alloc o) base v l := World.ownsRow.alloc h o

/-- string(b) of a slice of the call's own. -/
theorem OwnB.convert {w : World} {base : Nat} {v : Value} {l : List UInt8} (h : OwnB w base v l) :
    (convert 22 9 v).run Tryz.prog w = .ok (.string ⟨l.toArray⟩) w := by
  have h2 := h.2
  rcases h2 with ⟨rfl, h0⟩ | ⟨g, cap, cur, rfl, -, -, -, -, -, -⟩
  · obtain rfl : l = [] := List.eq_nil_of_length_eq_zero h0
    exact run_convert_bytes_nil w 22 5 Tryz.underlying22 Tryz.underlying5 _ _ _ Tryz.underlying9
  · exact run_convert_bytes_back (P := Tryz.prog) w 22 9 5 ⟨g, 0, none⟩ cap l Tryz.underlying22 Tryz.underlying5 Tryz.underlying9
      (fun j hj => World.ownsRow.cells h (g := g) rfl j _ (by simp [Lib.byteCells, hj]))

theorem ofNat_toNat_int (x : Int) (h0 : 0 ≤ x) (h1 : x ≤ 255) : ((UInt8.ofNat x.toNat).toNat : Int) = x := by
  rw [UInt8.toNat_ofNat']
  have : x.toNat < 256 := by omega
  rw [show 2 ^ 8 = 256 from rfl, Nat.mod_eq_of_lt this]
  omega

/-- append of one byte, which lies in a new block of one cell. -/
theorem append_byte {ops : Array Oper} {rest : List Oper} {o : Oper} {a : Act} {Q : Exit → Act → World → Prop} {w0 : World} (hgd : o.guard = none) (s y : Operand)
    (ho : o.op = .call { callee := .builtin .append, args := #[s, y], argTypes := #[22, 22] })
    (base : Nat) (v : Value) (l : List UInt8) (x : Int) (hown : OwnB w0 base v l) (hs : a.eval s = v)
    (hy : a.eval y = .slice (some ⟨w0.heap.size, 0, none⟩) 1 1) (h0 : 0 ≤ x) (h1 : x ≤ 255) (hlen : l.length ≤ 70368744177664) (hbase : base ≤ w0.heap.size)
    (h : ∀ v' w', OwnB w' base v' (l ++ [UInt8.ofNat x.toNat]) → Below base w0 w' → wpList Tryz.prog ops Q rest (a.put o.dst v') w') :
    wpList Tryz.prog ops Q (o :: rest) a (w0.alloc (.cells #[.int .u8 x] 5)) := by
  obtain ⟨i0, hi, hz0, hz1, hz2⟩ := info_parts info_u8
  refine wpList_append_own _ hgd s y 22 ho base 5 i0 (.int .u8 0) 1 1 Tryz.underlying22 hi hz0 hz1 hz2 rfl (by decide) v l.length (Lib.byteCells l) hs (World.ownsRow.alloc hown _)
    ⟨w0.heap.size, 0, none⟩ 1 1 [.int .u8 x] hy rfl ?_ ?_ (by unfold maxLen; omega) (by omega) (by simp; omega) ?_
  · intro j u hj
    match j, hj with
    | 0, hj => simp at hj; subst hj; simp [Addr.add, World.cell?_alloc_at _ _ _ _ rfl]
  · intro u hu
    simp at hu
    subst hu
    rfl
  · intro v' w' h2 h3 _
    refine h v' w' ?_ ?_
    · have e1 : (l ++ [UInt8.ofNat x.toNat]).length = l.length + 1 := by simp
      have e2 : Lib.byteCells (l ++ [UInt8.ofNat x.toNat]) = Lib.byteCells l ++ [.int .u8 x] := by
        simp only [Lib.byteCells, List.map_append, List.map_cons, List.map_nil, ofNat_toNat_int x h0 h1]
      unfold OwnB
      rw [e1, e2]
      exact h2
    · exact ((Below.refl base w0).alloc hbase _).grown h3 (by simp; omega) (fun k hk => (World.ownsRow.lt hown k hk).1)

/-- string([]byte{x}). -/
theorem convert_one (w0 : World) (x : Int) (h0 : 0 ≤ x) (h1 : x ≤ 255) :
    (convert 22 9 (.slice (some ⟨w0.heap.size, 0, none⟩) 1 1)).run Tryz.prog (w0.alloc (.cells #[.int .u8 x] 5)) =
      .ok (.string ⟨#[UInt8.ofNat x.toNat]⟩) (w0.alloc (.cells #[.int .u8 x] 5)) := by
  have h := run_convert_bytes_back (P := Tryz.prog) (w0.alloc (.cells #[.int .u8 x] 5)) 22 9 5 ⟨w0.heap.size, 0, none⟩ 1 [UInt8.ofNat x.toNat] Tryz.underlying22 Tryz.underlying5 Tryz.underlying9
      (fun j hj => by
        obtain rfl : j = 0 := by simpa using hj
        simp [Addr.add, World.cell?_alloc_at _ _ _ _ rfl]
        have := ofNat_toNat_int x h0 h1
        simpa using this.symm)
  exact h

/-- make([]byte, n, c). -/
theorem make_bytes (w : World) (n c : Nat) (hl : n ≤ c) (hc : c ≤ 140737488355328) :
    (Instr.makeSlice 22 (.int .i64 (n : Int)) (.int .i64 (c : Int))).run Tryz.prog w = .ok (.slice (some ⟨w.heap.size, 0, none⟩) n c) (w.alloc (.cells (madeCells #[.int .u8 0] c) 5)) := by
  obtain ⟨i0, hi, hz0, hz1, hz2⟩ := info_parts info_u8
  have h := run_make (P := Tryz.prog) w 22 5 i0 (.int .u8 0) Tryz.underlying22 hi hz0 .i64 .i64 (n : Int) (c : Int) (by omega) (by omega) (by rw [hz2]; omega) (by omega)
  simp only [Int.toNat_natCast, hz1, Nat.mul_one] at h
  exact h

theorem OwnB.made0 (w : World) (base c : Nat) (hb : base ≤ w.heap.size) (hc : c ≤ maxLen) :
    OwnB (w.alloc (.cells (madeCells #[.int .u8 0] c) 5)) base (.slice (some ⟨w.heap.size, 0, none⟩) 0 c) [] :=
  OwnB.made w base _ c hb hc (size_madeCells _ _)

end Go.Proofs.YthjbekgognfiiaaGreat

/-
  Lists of strings in order: plain facts without the program. By an AI agent.
-/
namespace Go.Proofs.YthjbekgognfiiaaGreat
open Go

abbrev Str := List UInt8

theorem str_lt_of {x y : Str} (h : x ≤ y) (hne : x ≠ y) : x < y := by
  by_cases hl : x < y
  · exact hl
  · exact absurd (List.le_antisymm h (List.not_lt.1 hl)) hne
theorem str_le_of {x y : Str} (h : x < y) : x ≤ y := List.le_of_lt h
theorem str_ne_of {x y : Str} (h : x < y) : x ≠ y := fun e => by subst e; exact List.lt_irrefl x h
theorem str_lt_trans {x y z : Str} (h : x < y) (k : y < z) : x < z := List.lt_trans h k
theorem str_le_trans {x y z : Str} (h : x ≤ y) (k : y ≤ z) : x ≤ z := List.le_trans h k

/-- one string more in an ascending list -/
def putL (tw : Bool) : List Str → Str → List Str
  | [], s => [s]
  | x :: l, s => if x < s then x :: putL tw l s else if tw = false ∧ x = s then x :: l else s :: x :: l

theorem putL_front (tw : Bool) (s : Str) : ∀ (l : List Str) (k : Nat), (∀ j x, l[j]? = some x → j < k → x < s) → putL tw l s = l.take k ++ putL tw (l.drop k) s := by
  intro l
  induction l with
  | nil => intro k _; simp
  | cons x l ih =>
    intro k h
    cases k with
    | zero => simp
    | succ k =>
      have h0 := h 0 x (by simp) (by omega)
      have h1 := ih k (fun j y hj hlt => h (j + 1) y (by simpa using hj) (by omega))
      simp only [putL, if_pos h0, List.take_succ_cons, List.drop_succ_cons, List.cons_append, h1]

theorem putL_same {s : Str} {l : List Str} {k : Nat} (h : ∀ j x, l[j]? = some x → j < k → x < s) (hk : l[k]? = some s) : putL false l s = l := by
  obtain ⟨hlt, he⟩ := List.getElem?_eq_some_iff.1 hk
  rw [putL_front false s l k h, List.drop_eq_getElem_cons hlt, he]
  simp only [putL, if_neg (List.lt_irrefl s), and_self, if_true]
  rw [← he, ← List.drop_eq_getElem_cons hlt, List.take_append_drop]

theorem putL_new {tw : Bool} {s : Str} {l : List Str} {k : Nat} (h : ∀ j x, l[j]? = some x → j < k → x < s) (hn : ∀ x, l[k]? = some x → ¬ x < s ∧ (tw = true ∨ x ≠ s)) : putL tw l s = l.take k ++ s :: l.drop k := by
  rw [putL_front tw s l k h]
  congr 1
  rcases Nat.lt_or_ge k l.length with hlt | hge
  · rw [List.drop_eq_getElem_cons hlt]
    obtain ⟨h1, h2⟩ := hn l[k] (List.getElem?_eq_getElem hlt)
    have h3 : ¬ (tw = false ∧ l[k] = s) := by
      rintro ⟨e1, e2⟩
      rcases h2 with h2 | h2
      · rw [e1] at h2; cases h2
      · exact h2 e2
    simp only [putL, if_neg h1, if_neg h3]
  · rw [List.drop_eq_nil_of_le hge]
    rfl

def Asc (l : List Str) : Prop := l.Pairwise (· < ·)

theorem putL_mem (tw : Bool) (s y : Str) (l : List Str) : y ∈ putL tw l s ↔ y = s ∨ y ∈ l := by
  induction l with
  | nil => simp [putL]
  | cons x l ih =>
    unfold putL
    split
    · simp only [List.mem_cons, ih]
      constructor
      · rintro (h | h | h) <;> simp [h]
      · rintro (h | h | h) <;> simp [h]
    · split
      · rename_i h
        obtain ⟨_, rfl⟩ := h
        simp
      · simp

theorem putL_asc {s : Str} {l : List Str} (h : Asc l) : Asc (putL false l s) := by
  induction l with
  | nil => simp [putL, Asc]
  | cons x l ih =>
    obtain ⟨h1, h2⟩ := List.pairwise_cons.1 h
    unfold putL
    split
    · rename_i hx
      refine List.pairwise_cons.2 ⟨fun y hy => ?_, ih h2⟩
      rcases (putL_mem false s y l).1 hy with rfl | hy
      · exact hx
      · exact h1 y hy
    · rename_i hx
      split
      · exact h
      · rename_i hne
        have hsx : s < x := str_lt_of (List.not_lt.1 hx) (fun e => hne ⟨rfl, e.symm⟩)
        refine List.pairwise_cons.2 ⟨fun y hy => ?_, h⟩
        rcases List.mem_cons.1 hy with rfl | hy
        · exact hsx
        · exact str_lt_trans hsx (h1 y hy)

theorem putL_sorted {s : Str} {l : List Str} (h : l.Pairwise (· ≤ ·)) : (putL true l s).Pairwise (· ≤ ·) := by
  induction l with
  | nil => simp [putL]
  | cons x l ih =>
    obtain ⟨h1, h2⟩ := List.pairwise_cons.1 h
    unfold putL
    split
    · rename_i hx
      refine List.pairwise_cons.2 ⟨fun y hy => ?_, ih h2⟩
      rcases (putL_mem true s y l).1 hy with rfl | hy
      · exact str_le_of hx
      · exact h1 y hy
    · rename_i hx
      rw [if_neg (fun e => by cases e.1)]
      have hsx : s ≤ x := List.not_lt.1 hx
      refine List.pairwise_cons.2 ⟨fun y hy => ?_, h⟩
      rcases List.mem_cons.1 hy with rfl | hy
      · exact hsx
      · exact str_le_trans hsx (h1 y hy)

theorem putL_perm (s : Str) (l : List Str) : (putL true l s).Perm (s :: l) := by
  induction l with
  | nil => simp [putL]
  | cons x l ih =>
    unfold putL
    split
    · exact (List.Perm.cons x ih).trans (List.Perm.swap s x l)
    · rw [if_neg (fun e => by cases e.1)]

theorem putL_length (tw : Bool) (s : Str) (l : List Str) : (putL tw l s).length ≤ l.length + 1 := by
  induction l with
  | nil => simp [putL]
  | cons x l ih =>
    unfold putL
    split
    · simp only [List.length_cons]; omega
    · split <;> simp

/-- all strings of a list, each once, in order -/
def setL (l : List Str) : List Str := l.foldl (putL false) []
/-- all strings of a list in order -/
def sortL (l : List Str) : List Str := l.foldl (putL true) []

theorem setL_nil : setL [] = [] := rfl
theorem sortL_nil : sortL [] = [] := rfl
theorem setL_snoc (l : List Str) (s : Str) : setL (l ++ [s]) = putL false (setL l) s := by simp [setL]
theorem sortL_snoc (l : List Str) (s : Str) : sortL (l ++ [s]) = putL true (sortL l) s := by simp [sortL]

theorem snoc_ind2 {α : Type} {P : List α → Prop} (h0 : P []) (h1 : ∀ l c, P l → P (l ++ [c])) (l : List α) : P l := by
  have h : ∀ l : List α, P l.reverse := by
    intro l
    induction l with
    | nil => exact h0
    | cons c l ih => rw [List.reverse_cons]; exact h1 _ _ ih
  simpa using h l.reverse

theorem setL_asc (l : List Str) : Asc (setL l) := by
  induction l using snoc_ind2 with
  | h0 => simp [setL, Asc]
  | h1 l c ih => rw [setL_snoc]; exact putL_asc ih
theorem setL_mem (l : List Str) (y : Str) : y ∈ setL l ↔ y ∈ l := by
  induction l using snoc_ind2 with
  | h0 => simp [setL]
  | h1 l c ih =>
    rw [setL_snoc, putL_mem, ih]
    simp [or_comm]
theorem setL_length (l : List Str) : (setL l).length ≤ l.length := by
  induction l using snoc_ind2 with
  | h0 => simp [setL]
  | h1 l c ih =>
    rw [setL_snoc]
    have := putL_length false c (setL l)
    simp only [List.length_append, List.length_singleton]
    omega
theorem sortL_sorted (l : List Str) : (sortL l).Pairwise (· ≤ ·) := by
  induction l using snoc_ind2 with
  | h0 => simp [sortL]
  | h1 l c ih => rw [sortL_snoc]; exact putL_sorted ih
theorem sortL_perm (l : List Str) : (sortL l).Perm l := by
  induction l using snoc_ind2 with
  | h0 => simp [sortL]
  | h1 l c ih =>
    rw [sortL_snoc]
    exact (putL_perm c _).trans ((List.Perm.cons c ih).trans (List.perm_append_singleton c l).symm)
theorem sortL_length (l : List Str) : (sortL l).length = l.length := (sortL_perm l).length_eq

theorem le_sorted_eq {a b : List Str} (ha : a.Pairwise (· ≤ ·)) (hb : b.Pairwise (· ≤ ·)) (h : a.Perm b) : a = b :=
  List.Perm.eq_of_pairwise (le := fun x y : Str => x ≤ y) (fun _ _ _ _ h1 h2 => List.le_antisymm h1 h2) ha hb h

theorem ms_sorted (l : List Str) : (l.mergeSort leB).Pairwise (· ≤ ·) := by
  have tr : ∀ a b c : Str, leB a b = true → leB b c = true → leB a c = true := fun a b c h1 h2 => by simp only [leB, decide_eq_true_eq] at *; exact List.le_trans h1 h2
  have to : ∀ a b : Str, (leB a b || leB b a) = true := fun a b => by simp only [leB, Bool.or_eq_true, decide_eq_true_eq]; exact List.le_total a b
  exact (List.pairwise_mergeSort tr to l).imp fun h => by simpa [leB] using h

theorem sortL_is (l : List Str) : l.mergeSort leB = sortL l :=
  le_sorted_eq (ms_sorted l) (sortL_sorted l) ((List.mergeSort_perm l leB).trans (sortL_perm l).symm)

theorem asc_ext {a b : List Str} (ha : Asc a) (hb : Asc b) (h : ∀ x, x ∈ a ↔ x ∈ b) : a = b := by
  have na : a.Nodup := ha.imp fun h => str_ne_of h
  have nb : b.Nodup := hb.imp fun h => str_ne_of h
  exact le_sorted_eq (ha.imp fun h => str_le_of h) (hb.imp fun h => str_le_of h) ((List.perm_ext_iff_of_nodup na nb).2 h)

theorem ms_set {ss l : List Str} (hn : ss.Nodup) (h : ∀ x, x ∈ ss ↔ x ∈ l) : ss.mergeSort leB = setL l := by
  refine asc_ext ?_ (setL_asc l) fun x => ?_
  · have h1 := ms_sorted ss
    have h2 : (ss.mergeSort leB).Nodup := (List.mergeSort_perm ss leB).nodup_iff.2 hn
    exact (h1.and h2).imp fun h => str_lt_of h.1 h.2
  · rw [(List.mergeSort_perm ss leB).mem_iff, h x, setL_mem]

theorem setL_congr {a b : List Str} (h : ∀ x, x ∈ a ↔ x ∈ b) : setL a = setL b :=
  asc_ext (setL_asc a) (setL_asc b) fun x => by rw [setL_mem, setL_mem, h x]
theorem setL_of_asc {a : List Str} (h : Asc a) : setL a = a := asc_ext (setL_asc a) h fun x => setL_mem a x

/-- how many of a come while b still has more of them -/
def cgS (b : List Str) (p : List Str × Nat) (x : Str) : List Str × Nat := (p.1 ++ [x], if p.1.count x < b.count x then p.2 + 1 else p.2)
def cgL (a b : List Str) : Nat := (a.foldl (cgS b) ([], 0)).2

theorem cg_fst (a b : List Str) : (a.foldl (cgS b) ([], 0)).1 = a := by
  induction a using snoc_ind2 with
  | h0 => rfl
  | h1 l c ih => rw [List.foldl_append]; simp [cgS, ih]
theorem cg_snoc (a b : List Str) (x : Str) : cgL (a ++ [x]) b = cgL a b + if a.count x < b.count x then 1 else 0 := by
  unfold cgL
  rw [List.foldl_append]
  simp only [List.foldl_cons, List.foldl_nil]
  unfold cgS
  rw [show (a.foldl (fun p x => (p.1 ++ [x], if p.1.count x < b.count x then p.2 + 1 else p.2)) ([], 0)).1 = a from cg_fst a b]
  split <;> simp
theorem cg_nil (b : List Str) : cgL [] b = 0 := rfl
theorem cg_nil' (a : List Str) : cgL a [] = 0 := by
  induction a using snoc_ind2 with
  | h0 => rfl
  | h1 l c ih => rw [cg_snoc, ih]; simp
theorem cg_le (a b : List Str) : cgL a b ≤ a.length := by
  induction a using snoc_ind2 with
  | h0 => simp [cg_nil]
  | h1 l c ih => rw [cg_snoc]; simp only [List.length_append, List.length_singleton]; split <;> omega

theorem count_snoc (a : List Str) (x y : Str) : (a ++ [x]).count y = a.count y + if x = y then 1 else 0 := by
  rw [List.count_append, List.count_singleton]
  by_cases h : x = y
  · subst h; simp
  · have : (x == y) = false := by simpa using h
    simp [h, this]

theorem cg_snoc' (a b : List Str) (x : Str) : cgL b (a ++ [x]) = cgL b a + if a.count x < b.count x then 1 else 0 := by
  induction b using snoc_ind2 with
  | h0 => simp [cg_nil]
  | h1 b y ih =>
    rw [cg_snoc, cg_snoc, ih, count_snoc, count_snoc]
    by_cases h : x = y
    · subst h
      simp only [if_true]
      split <;> split <;> (try split) <;> (try split) <;> omega
    · have h' : ¬ y = x := fun e => h e.symm
      simp only [if_neg h, if_neg h', Nat.add_zero]
      omega

theorem cg_comm (a b : List Str) : cgL a b = cgL b a := by
  induction a using snoc_ind2 with
  | h0 => rw [cg_nil, cg_nil']
  | h1 a x ih => rw [cg_snoc, cg_snoc', ih]

theorem cg_self (a : List Str) : cgL a a = a.length := by
  have h : ∀ p q : List Str, cgL p (p ++ q) = p.length := by
    intro p
    induction p using snoc_ind2 with
    | h0 => intro q; rfl
    | h1 p x ih =>
      intro q
      rw [cg_snoc, List.append_assoc, ih ([x] ++ q), if_pos (by rw [List.count_append, List.count_append, List.count_singleton]; simp; omega)]
      simp
  have := h a []
  simpa using this

end Go.Proofs.YthjbekgognfiiaaGreat

/-
  Slices of strings: one that reads as a list, one of the call's own; what the laws' own szStringS, toStringS and eqStringS do. By an AI agent.
-/
namespace Go.Proofs.YthjbekgognfiiaaGreat
open Go.RowKit
set_option linter.unusedVariables false

/-- a slice whose elements are the strings of a list -/
def InS (w : World) (a : Option Addr) (l : List Str) : Prop :=
  0 < l.length → ∃ b off, a = some ⟨b, off, none⟩ ∧ b < w.heap.size ∧ ∀ j x, l[j]? = some x → w.cell? ⟨b, off + j, none⟩ = some (encStr x)

/-- a slice of the call's own -/
def OwnS (w : World) (base : Nat) (v : Value) (l : List Str) : Prop := w.ownsRow base 9 1 v l.length (l.map encStr)

theorem info_str : (Tryz.prog.info? 9).map (fun i => (i.zero, i.size, i.bytes)) = some (some (.string ⟨#[]⟩), 1, 16) := by kernel_rfl

theorem InS.keep {w w' : World} {a : Option Addr} {l : List Str} (h : InS w a l) (hs : w.heap.size ≤ w'.heap.size) (hk : ∀ b off, a = some ⟨b, off, none⟩ → b < w.heap.size → w'.heap[b]? = w.heap[b]?) : InS w' a l := by
  intro h0
  obtain ⟨b, off, ha, hb, hc⟩ := h h0
  exact ⟨b, off, ha, Nat.lt_of_lt_of_le hb hs, fun j x hj => (World.cell?_of_block (hk b off ha hb)).trans (hc j x hj)⟩
theorem InS.below {w w' : World} {a : Option Addr} {l : List Str} (h : InS w a l) (hb : Below w.heap.size w w') : InS w' a l :=
  h.keep hb.size fun b _ _ hlt => hb.block b hlt
theorem InS.alloc {w : World} {a : Option Addr} {l : List Str} (h : InS w a l) (o : Obj) : InS (w.alloc o) a l := h.below ((Below.refl _ _).alloc (Nat.le_refl _) o)

theorem OwnS.shape {w : World} {base : Nat} {v : Value} {l : List Str} (h : OwnS w base v l) : ∃ a cap, v = .slice a l.length cap := by
  rcases h.2 with ⟨rfl, h0⟩ | ⟨g, cap, cur, rfl, _⟩
  · exact ⟨none, 0, by rw [h0]⟩
  · exact ⟨_, _, rfl⟩
theorem OwnS.inS {w : World} {base : Nat} {a : Option Addr} {n cap : Nat} {l : List Str} (h : OwnS w base (.slice a n cap) l) : InS w a l := by
  intro h0
  rcases h.2 with ⟨_, h1⟩ | ⟨g, cap', cur, hv, hb, hg, _, _, _, ht⟩
  · omega
  · simp only [Value.slice.injEq] at hv
    obtain ⟨rfl, -, -⟩ := hv
    refine ⟨g, 0, rfl, (Array.getElem?_eq_some_iff.1 hg).1, fun j x hj => ?_⟩
    obtain ⟨hlt, he⟩ := List.getElem?_eq_some_iff.1 hj
    rw [Nat.zero_add, cell_of_row w g j cur _ (0, 0) hg, ← Array.getElem?_toList]
    have h2 : (cur.toList.take (l.length * 1))[j]? = (l.map encStr)[j]? := by rw [ht]
    rw [List.getElem?_take_of_lt (by omega)] at h2
    rw [h2]
    simp [he, hlt]
theorem OwnS.len_le {w : World} {base : Nat} {v : Value} {l : List Str} (h : OwnS w base v l) : l.length ≤ maxLen := by
  rcases h.2 with ⟨_, h1⟩ | ⟨g, cap', cur, hv, hb, hg, h2, h3, _, ht⟩
  · omega
  · omega
theorem OwnS.alloc {w : World} {base : Nat} {v : Value} {l : List Str} (h : OwnS w base v l) (o : Obj) : OwnS (w.alloc o) base v l := World.ownsRow.alloc h o
theorem OwnS.below {w w' : World} {base : Nat} {v : Value} {l : List Str} (h : OwnS w base v l) (hb : Below w.heap.size w w') : OwnS w' base v l :=
  World.ownsRow.kept h (row := none) ⟨hb.os, hb.tape, hb.output, hb.size, fun i hi _ => hb.block i hi⟩ (by cases hv : v.ownBlock <;> simp)
theorem OwnS.mono {w : World} {base base' : Nat} {v : Value} {l : List Str} (h : OwnS w base v l) (hb : base' ≤ base) : OwnS w base' v l := by
  refine ⟨h.1, ?_⟩
  rcases h.2 with hn | ⟨g, cap', cur, hv, hbg, rest⟩
  · exact .inl hn
  · exact .inr ⟨g, cap', cur, hv, Nat.le_trans hb hbg, rest⟩
theorem OwnS.nil (w : World) (base : Nat) : OwnS w base (.slice none 0 0) [] := World.ownsRow_nil _ _ _ _
theorem OwnS.made (w : World) (base : Nat) (cur : Array Value) (cap : Nat) (hb : base ≤ w.heap.size) (hm : cap ≤ maxLen) (hs : cur.size = cap) :
    OwnS (w.alloc (.cells cur 9)) base (.slice (some ⟨w.heap.size, 0, none⟩) 0 cap) [] :=
  World.ownsRow_made w cur cap hb hm (by omega)

/-- a slice of the call's own is handed back -/
def GivesS (w : World) (l : List Str) (e : Ending) (w' : World) : Prop :=
  ∃ a cap, e = .returned (.slice a l.length cap) ∧ OwnS w' w.heap.size (.slice a l.length cap) l ∧ Below w.heap.size w w'

theorem GivesS.mk {w w' : World} {v : Value} {l : List Str} (h : OwnS w' w.heap.size v l) (hb : Below w.heap.size w w') : GivesS w l (.returned v) w' := by
  obtain ⟨a, cap, rfl⟩ := h.shape
  exact ⟨a, cap, rfl, h, hb⟩

/-- the values and letters of a list -/
def szT (l : List Str) (k : Nat) : Nat := l.length + ((l.take k).map List.length).sum
def szL (l : List Str) : Nat := szT l l.length
theorem szT_succ {l : List Str} {k : Nat} {x : Str} (h : l[k]? = some x) : szT l (k + 1) = szT l k + x.length := by
  obtain ⟨hlt, he⟩ := List.getElem?_eq_some_iff.1 h
  unfold szT
  rw [List.take_succ_eq_append_getElem hlt, he]
  simp
  omega
theorem szT_le {l : List Str} {j k : Nat} (h : j ≤ k) : szT l j ≤ szT l k := by
  obtain ⟨d, rfl⟩ : ∃ d, k = j + d := ⟨k - j, by omega⟩
  unfold szT
  rw [List.take_add]
  simp
theorem szL_len (l : List Str) : l.length ≤ szL l := by unfold szL szT; omega
theorem szL_mem {l : List Str} {x : Str} (h : x ∈ l) : x.length ≤ szL l := by
  obtain ⟨k, hk⟩ := List.getElem?_of_mem h
  have h1 := szT_succ hk
  have h2 := szT_le (l := l) (show k + 1 ≤ l.length from (List.getElem?_eq_some_iff.1 hk).1)
  unfold szL
  omega

theorem take_snoc' {l : List Str} {k : Nat} {x : Str} (h : l[k]? = some x) : l.take (k + 1) = l.take k ++ [x] := by
  obtain ⟨hlt, he⟩ := List.getElem?_eq_some_iff.1 h
  rw [List.take_succ_eq_append_getElem hlt, he]

/-- a string of the list, with its bytes apart -/
theorem ret_int {k : IntKind} {a b : Int} (h : a = b) : Ending.returned (.int k a) = .returned (.int k b) := by rw [h]

theorem str_at {l : List Str} {k : Nat} (h : k < l.length) : ∃ (x : Str) (s : ByteArray), l[k]? = some x ∧ s.data.toList = x ∧ encStr x = .string s ∧ s.size = x.length := by
  refine ⟨l[k], ⟨l[k].toArray⟩, List.getElem?_eq_getElem h, by simp, rfl, ?_⟩
  simp [ByteArray.size]

/-- what is left of 'left', or -1 -/
def szR (l : List Str) (left : Nat) : Int := if szL l ≤ left then (left : Int) - (szL l : Int) else -1
theorem szR_yes {l : List Str} {left : Nat} (h : szL l ≤ left) : szR l left = ((left - szL l : Nat) : Int) := by unfold szR; rw [if_pos h]; omega
theorem szR_no {l : List Str} {left : Nat} (h : ¬ szL l ≤ left) : szR l left = -1 := by unfold szR; rw [if_neg h]

set_option maxRecDepth 100000 in
theorem sz_any (a : Option Addr) (cap : Nat) (l : List Str) (left : Nat) (w : World) (hl : l.length ≤ maxLen) (hin : InS w a l) (hx : ∀ x ∈ l, x.length ≤ maxLen) (hleft : left ≤ 1048576) :
    Calls Tryz.prog 113 #[.slice a l.length cap, .int .i64 left] w fun e w' => e = .returned (.int .i64 (szR l left)) ∧ w' = w := by
  unfold maxLen at hl hx
  have HX := Lib.hid hx
  have HIN := Lib.hid hin
  clear hx hin
  by_cases h1 : l.length ≤ left
  · go_enter Tryz.func113, Tryz.ntmps113
    go_wp2
    go_loop [1, 5] (fun r i => ∃ k m : Nat, k ≤ l.length ∧ i = .int .i64 k ∧ r = .int .i64 m ∧ m ≤ left ∧ m + szT l k = left) (fun _ i => l.length - (intOf i).toNat)
    case atStart => exact ⟨0, left - l.length, Nat.zero_le _, rfl, by rw [Int.ofNat_sub h1], by omega, by simp [szT]; omega⟩
    case round =>
      obtain ⟨k, m, hk, rfl, rfl, hm, hs⟩ := hrel
      have HS := Lib.hid hs
      clear hs
      by_cases hlt : k < l.length
      · obtain ⟨b, off, rfl, hb, hc⟩ := HIN.out (by omega)
        obtain ⟨x, s, hx1, hx2, hx3, hx4⟩ := str_at hlt
        have hcell : w.cell? ⟨b, off + k, none⟩ = some (.string s) := by rw [← hx3]; exact hc k x hx1
        have hsz : s.size ≤ 9223372036854775807 := by rw [hx4]; exact HX.out x (List.mem_of_getElem? hx1)
        have HT := Lib.hid (szT_succ hx1)
        have HT2 := Lib.hid (szT_le (l := l) (show k + 1 ≤ l.length from hlt))
        have HZ := Lib.hid hx4
        clear hc hx1 hx2 hx3 hx4
        by_cases hn : s.size ≤ m
        · go_wp2
          go_round
          case rel => exact ⟨k + 1, m - s.size, by omega, by go_num, by rw [Int.ofNat_sub hn], by omega, by have := HS.out; have := HT.out; have := HZ.out; omega⟩
          case measure => simp [intOf]; omega
        · go_wp2
          go_ret
          exact ⟨ret_int (by rw [szR_no (by have := HS.out; have := HT.out; have := HT2.out; have := HZ.out; unfold szL; omega)]), rfl⟩
      · obtain rfl : k = l.length := by omega
        go_wp2
        go_ret
        exact ⟨ret_int (by rw [szR_yes (by have := HS.out; unfold szL; omega)]; have := HS.out; unfold szL; omega), rfl⟩
  · go_enter Tryz.func113, Tryz.ntmps113
    go_wp2
    go_ret
    exact ⟨ret_int (by rw [szR_no (by have := szL_len l; omega)]), rfl⟩

/-- an argument of moderate size -/
def Sm (w : World) (a : Option Addr) (l : List Str) (c : Nat) : Prop := InS w a l ∧ (a = none → c = 0) ∧ l.length ≤ c ∧ l.length ≤ 4000000 ∧ ∀ x ∈ l, x.length ≤ 1048576
theorem Sm.below {w w' : World} {a : Option Addr} {l : List Str} {c : Nat} (h : Sm w a l c) (hb : Below w.heap.size w w') : Sm w' a l c := ⟨h.1.below hb, h.2⟩
theorem sz_len {l : List Str} (hs : szL l ≤ 1048576) : l.length ≤ 4000000 := by have := szL_len l; omega
theorem sz_mem {l : List Str} (hs : szL l ≤ 1048576) : ∀ x ∈ l, x.length ≤ 1048576 := fun x hx => by have := szL_mem hx; omega
theorem Sm.ml {w : World} {a : Option Addr} {l : List Str} {c : Nat} (h : Sm w a l c) : l.length ≤ maxLen := by have := h.2.2.2.1; unfold maxLen; omega
theorem OwnS.none_cap {w : World} {base : Nat} {a : Option Addr} {n cap : Nat} {l : List Str} (h : OwnS w base (.slice a n cap) l) : a = none → cap = 0 := by
  intro e
  rcases h.2 with ⟨hv, h1⟩ | ⟨g, cap', cur, hv, _⟩
  · simp only [Value.slice.injEq] at hv
    exact hv.2.2
  · simp only [Value.slice.injEq] at hv
    rw [e] at hv
    cases hv.1
theorem OwnS.cap_ge {w : World} {base : Nat} {a : Option Addr} {n cap : Nat} {l : List Str} (h : OwnS w base (.slice a n cap) l) : l.length ≤ cap := by
  rcases h.2 with ⟨hv, h1⟩ | ⟨g, cap', cur, hv, _, _, h2, _⟩
  · omega
  · simp only [Value.slice.injEq] at hv
    omega

/-- an argument of a law -/
def ArgS (w : World) (a : Option Addr) (l : List Str) : Prop := InS w a l ∧ l.length ≤ maxLen ∧ ∀ x ∈ l, x.length ≤ maxLen

theorem argS_of {w : World} {x : Addr} {l c : Nat} {ss : List ByteArray} (hl : l ≤ c) (hm : c ≤ maxLen) (hz : ss.length = c)
    (hcell : ∀ i, i < ss.length → w.cell? (x.add i) = some (.string (ss.getD i ByteArray.empty))) (hw : ∀ s ∈ ss, s.size ≤ maxLen) : ∃ L : List Str, l = L.length ∧ ArgS w (some x) L := by
  refine ⟨(ss.take l).map (·.data.toList), by simp; omega, fun h0 => ?_, by simp; omega, fun y hy => ?_⟩
  · simp at h0
    obtain ⟨b, off, spot⟩ := x
    have hspot : spot = none := by simpa [Addr.add] using World.cell?_spot (hcell 0 (by omega))
    subst hspot
    refine ⟨b, off, rfl, ?_, fun j y hj => ?_⟩
    · exact World.block_lt_of_cell? w _ (hcell 0 (by omega))
    · obtain ⟨hlt, he⟩ := List.getElem?_eq_some_iff.1 hj
      simp at hlt
      have h1 := hcell j (by omega)
      have h2 : (⟨b, off, none⟩ : Addr).add j = ⟨b, off + j, none⟩ := by unfold Addr.add; split <;> simp_all
      rw [h2] at h1
      rw [h1]
      simp only [List.getElem_map, List.getElem_take] at he
      rw [← he, List.getD, List.getElem?_eq_getElem (by omega)]
      rfl
  · obtain ⟨s, hs, rfl⟩ := List.mem_map.1 hy
    have := hw s (List.mem_of_mem_take hs)
    simpa using this

theorem sz_no {w0 : World} (a : Option Addr) (cap : Nat) (l : List Str) (left : Nat) (w : World) (h : ArgS w0 a l) (hb : Below w0.heap.size w0 w) (hleft : left ≤ 1048576) (hn : ¬ szL l ≤ left) :
    Calls Tryz.prog 113 #[.slice a l.length cap, .int .i64 left] w fun e w' => e = .returned (.int .i64 (-1)) ∧ w' = w :=
  (sz_any a cap l left w h.2.1 (h.1.below hb) h.2.2 hleft).mono fun e w' ⟨he, hw⟩ => ⟨by rw [he, szR_no hn], hw⟩
theorem sz_yes {w0 : World} (a : Option Addr) (cap : Nat) (l : List Str) (left r : Nat) (w : World) (h : ArgS w0 a l) (hb : Below w0.heap.size w0 w) (hleft : left ≤ 1048576) (hr : r + szL l = left) :
    Calls Tryz.prog 113 #[.slice a l.length cap, .int .i64 left] w fun e w' => e = .returned (.int .i64 r) ∧ w' = w :=
  (sz_any a cap l left w h.2.1 (h.1.below hb) h.2.2 hleft).mono fun e w' ⟨he, hw⟩ => ⟨by rw [he, szR_yes (by omega)]; congr 3; omega, hw⟩

/-- a slice of the call's own, in blocks from lo on and below hi -/
def OwnH (w : World) (lo hi : Nat) (v : Value) (l : List Str) : Prop := OwnS w lo v l ∧ ∀ k, v.ownBlock = some k → k < hi
theorem OwnH.of {w w' : World} {a : Option Addr} {cap : Nat} {l : List Str} (h : OwnS w' w.heap.size (.slice a l.length cap) l) : OwnH w' w.heap.size w'.heap.size (.slice a l.length cap) l :=
  ⟨h, fun k hk => (World.ownsRow.lt h k hk).2⟩
theorem OwnH.below {w w' : World} {lo hi : Nat} {v : Value} {l : List Str} (h : OwnH w lo hi v l) (hb : Below w.heap.size w w') : OwnH w' lo hi v l := ⟨h.1.below hb, h.2⟩
theorem OwnH.inS {w : World} {lo hi : Nat} {a : Option Addr} {n cap : Nat} {l : List Str} (h : OwnH w lo hi (.slice a n cap) l) : InS w a l := h.1.inS
theorem OwnS.sm {w : World} {base : Nat} {a : Option Addr} {n cap : Nat} {l : List Str} (h : OwnS w base (.slice a n cap) l) (h1 : l.length ≤ 4000000) (h2 : ∀ x ∈ l, x.length ≤ 1048576) : Sm w a l cap := ⟨h.inS, h.none_cap, h.cap_ge, h1, h2⟩
theorem OwnH.sm {w : World} {lo hi : Nat} {a : Option Addr} {n cap : Nat} {l : List Str} (h : OwnH w lo hi (.slice a n cap) l) (h1 : l.length ≤ 4000000) (h2 : ∀ x ∈ l, x.length ≤ 1048576) : Sm w a l cap := h.1.sm h1 h2
/-- what is written into one slice leaves another as it was -/
theorem OwnH.other {w w' : World} {lo hi lo' hi' : Nat} {v u : Value} {l : List Str} (h : OwnH w lo hi v l) (hg : w.grownBy w' u.ownBlock) (hu : ∀ k, u.ownBlock = some k → lo' ≤ k ∧ k < hi') (hd : hi ≤ lo' ∨ hi' ≤ lo) : OwnH w' lo hi v l := by
  refine ⟨World.ownsRow.kept h.1 hg ?_, h.2⟩
  cases hv : v.ownBlock with
  | none => exact .inl rfl
  | some k =>
    refine .inr fun e => ?_
    have h1 := (World.ownsRow.lt h.1 k hv).1
    have h2 := h.2 k hv
    have h3 := hu k e.symm
    omega
theorem OwnH.row {w : World} {lo hi : Nat} {v : Value} {l : List Str} (h : OwnH w lo hi v l) : ∀ k, v.ownBlock = some k → lo ≤ k ∧ k < hi := fun k hk => ⟨(World.ownsRow.lt h.1 k hk).1, h.2 k hk⟩
theorem below_row {w0 w w' : World} {lo hi : Nat} {v : Value} {l : List Str} (hb : Below w0.heap.size w0 w) (h : OwnH w lo hi v l) (hg : w.grownBy w' v.ownBlock) (hlo : w0.heap.size ≤ lo) : Below w0.heap.size w0 w' :=
  hb.grown hg hb.size fun k hk => Nat.le_trans hlo (h.row k hk).1

end Go.Proofs.YthjbekgognfiiaaGreat

/-
  The bytes of a varint: plain facts without the program. By an AI agent.
-/
namespace Go.Proofs.YthjbekgognfiiaaGreat

/-- the bytes of n, seven bits each, the lowest first -/
def vint (n : Nat) : List UInt8 := if n < 128 then [UInt8.ofNat n] else UInt8.ofNat (128 + n % 128) :: vint (n / 128)
termination_by n
decreasing_by omega

theorem vint_small (n : Nat) (h : n < 128) : vint n = [UInt8.ofNat n] := by rw [vint, if_pos h]
theorem vint_large (n : Nat) (h : ¬ n < 128) : vint n = UInt8.ofNat (128 + n % 128) :: vint (n / 128) := by rw [vint, if_neg h]

theorem vint_length (n : Nat) : (vint n).length ≤ n / 128 + 1 := by
  induction n using Nat.strongRecOn with
  | ind n ih =>
    by_cases h : n < 128
    · rw [vint_small n h]; simp
    · rw [vint_large n h]
      have := ih (n / 128) (by omega)
      simp only [List.length_cons]
      omega

theorem vint_length_pos (n : Nat) : 0 < (vint n).length := by
  by_cases h : n < 128
  · rw [vint_small n h]; simp
  · rw [vint_large n h]; simp

/-- what seven bits of each byte spell, the lowest first -/
def leN : List UInt8 → Nat
  | [] => 0
  | b :: l => b.toNat % 128 + 128 * leN l

theorem leN_lt (l : List UInt8) : leN l < 128 ^ l.length := by
  induction l with
  | nil => simp [leN]
  | cons b l ih =>
    simp only [leN, List.length_cons, Nat.pow_succ]
    have : b.toNat % 128 < 128 := Nat.mod_lt _ (by omega)
    omega

theorem leN_small (l : List UInt8) (h : l.length ≤ 7) : leN l ≤ 562949953421311 := by
  have h1 := leN_lt l
  have h2 : 128 ^ l.length ≤ 128 ^ 7 := Nat.pow_le_pow_right (by omega) h
  have h3 : (128 : Nat) ^ 7 = 562949953421312 := by decide
  omega

theorem leN_small6 (l : List UInt8) (h : l.length ≤ 6) : leN l < 4398046511104 := by
  have h1 := leN_lt l
  have h2 : 128 ^ l.length ≤ 128 ^ 6 := Nat.pow_le_pow_right (by omega) h
  have h3 : (128 : Nat) ^ 6 = 4398046511104 := by decide
  omega

theorem leN_snoc (l : List UInt8) (b : UInt8) : leN (l ++ [b]) = leN l + 128 ^ l.length * (b.toNat % 128) := by
  induction l with
  | nil => simp [leN]
  | cons c l ih =>
    simp only [List.cons_append, leN, ih, List.length_cons, Nat.pow_succ]
    rw [Nat.mul_add, Nat.mul_comm (128 ^ l.length) 128, Nat.mul_assoc, Nat.add_assoc]

/-- the last byte of a varint is below 128, all others are not -/
theorem vint_form (n : Nat) : ∃ pre last, vint n = pre ++ [last] ∧ last.toNat < 128 ∧ ∀ b ∈ pre, 128 ≤ b.toNat := by
  induction n using Nat.strongRecOn with
  | ind n ih =>
    by_cases h : n < 128
    · refine ⟨[], UInt8.ofNat n, by rw [vint_small n h]; rfl, ?_, by simp⟩
      rw [UInt8.toNat_ofNat']
      omega
    · obtain ⟨pre, last, h1, h2, h3⟩ := ih (n / 128) (by omega)
      refine ⟨UInt8.ofNat (128 + n % 128) :: pre, last, by rw [vint_large n h, h1]; rfl, h2, ?_⟩
      intro b hb
      rcases List.mem_cons.1 hb with rfl | hb
      · rw [UInt8.toNat_ofNat']
        omega
      · exact h3 b hb

/-- a prefix of l that is a varint ends at the first byte below 128 -/
theorem vint_take {l : List UInt8} {n k : Nat} (hk : k ≤ l.length) (h : vint n = l.take k) :
    0 < k ∧ (∃ b, l[k - 1]? = some b ∧ b.toNat < 128) ∧ ∀ j b, j < k - 1 → l[j]? = some b → 128 ≤ b.toNat := by
  obtain ⟨pre, last, h1, h2, h3⟩ := vint_form n
  have hlen : pre.length + 1 = k := by
    have e := congrArg List.length (h1.symm.trans h)
    rw [List.length_append, List.length_take, List.length_singleton] at e
    omega
  have e : l.take k = pre ++ [last] := by rw [← h, h1]
  have get : ∀ j, j < k → l[j]? = (pre ++ [last])[j]? := by
    intro j hj
    rw [← e, List.getElem?_take_of_lt hj]
  refine ⟨by omega, ⟨last, ?_, h2⟩, ?_⟩
  · rw [get _ (by omega), show k - 1 = pre.length by omega]
    simp
  · intro j b hj hb
    rw [get j (by omega), List.getElem?_append_left (by omega)] at hb
    exact h3 b (List.mem_of_getElem? hb)

/-- what DecodeVarint answers at l: the number n and the length k -/
def DvOk (l : List UInt8) (n k : Nat) : Prop :=
  (1 ≤ k ∧ k ≤ 7 ∧ k ≤ l.length ∧ n = leN (l.take k) ∧ vint n = l.take k) ∨
  (k = 0 ∧ n = 0 ∧ ∀ j, 1 ≤ j → j ≤ 7 → j ≤ l.length → vint (leN (l.take j)) ≠ l.take j)

theorem DvOk.same {l : List UInt8} {n k n' k' : Nat} (h : DvOk l n k) (h' : DvOk l n' k') : n = n' ∧ k = k' := by
  rcases h with ⟨a1, a2, a3, a4, a5⟩ | ⟨a1, a2, a3⟩ <;> rcases h' with ⟨b1, b2, b3, b4, b5⟩ | ⟨b1, b2, b3⟩
  · obtain ⟨_, ⟨x, hx, hx1⟩, hx2⟩ := vint_take a3 a5
    obtain ⟨_, ⟨y, hy, hy1⟩, hy2⟩ := vint_take b3 b5
    have hkk : k = k' := by
      rcases Nat.lt_trichotomy k k' with hlt | heq | hgt
      · have := hy2 (k - 1) x (by omega) hx; omega
      · exact heq
      · have := hx2 (k' - 1) y (by omega) hy; omega
    subst hkk
    exact ⟨by rw [a4, b4], rfl⟩
  · exact absurd (a4 ▸ a5) (b3 k a1 a2 a3)
  · exact absurd (b4 ▸ b5) (a3 k' b1 b2 b3)
  · omega

/-- what varintLength answers at l: the place behind the first byte below 128 among the first seven, or 0 -/
def IsVlen (l : List UInt8) (k : Nat) : Prop :=
  (k = 0 ∧ ∀ j b, j < 7 → l[j]? = some b → 128 ≤ b.toNat) ∨
  (1 ≤ k ∧ k ≤ 7 ∧ k ≤ l.length ∧ (∃ b, l[k - 1]? = some b ∧ b.toNat < 128) ∧ ∀ j b, j < k - 1 → l[j]? = some b → 128 ≤ b.toNat)

theorem IsVlen.le {l : List UInt8} {k : Nat} (h : IsVlen l k) : k ≤ 7 ∧ k ≤ l.length := by
  rcases h with ⟨h, _⟩ | ⟨_, h1, h2, _⟩ <;> omega

theorem vlen_yes {l : List UInt8} {k : Nat} (h : IsVlen l k) (e : vint (leN (l.take k)) = l.take k) : DvOk l (leN (l.take k)) k := by
  rcases h with ⟨rfl, _⟩ | ⟨h1, h2, h3, _⟩
  · have := vint_length_pos (leN (l.take 0))
    rw [e] at this
    simp at this
  · exact .inl ⟨h1, h2, h3, rfl, e⟩

theorem vlen_no {l : List UInt8} {k : Nat} (h : IsVlen l k) (e : vint (leN (l.take k)) ≠ l.take k) : DvOk l 0 0 := by
  refine .inr ⟨rfl, rfl, fun j j1 j2 j3 hj => ?_⟩
  obtain ⟨_, ⟨x, hx, hx1⟩, hx2⟩ := vint_take j3 hj
  rcases h with ⟨rfl, h0⟩ | ⟨h1, h2, h3, ⟨y, hy, hy1⟩, hy2⟩
  · have := h0 (j - 1) x (by omega) hx; omega
  · have hjk : j = k := by
      rcases Nat.lt_trichotomy j k with hlt | heq | hgt
      · have := hy2 (j - 1) x (by omega) hx; omega
      · exact heq
      · have := hx2 (k - 1) y (by omega) hy; omega
    subst hjk
    exact e hj

end Go.Proofs.YthjbekgognfiiaaGreat

/-
  What spec.l1In answers. By an AI agent.
-/
namespace Go.Proofs.YthjbekgognfiiaaGreat
open Go.RowKit
set_option linter.unusedVariables false

theorem l1In_yes (x a b : Int) (w : World) (h1 : a ≤ x) (h2 : x ≤ b) :
    Calls Tryz.prog 37 #[.int .i64 x, .int .i64 a, .int .i64 b] w fun e w' => e = .returned (.bool true) ∧ w = w' := by
  go_enter Tryz.func37, Tryz.ntmps37
  go_wp2
  go_ret
  exact ⟨by first | rfl | simp, rfl⟩

theorem l1In_no (x a b : Int) (w : World) (h : ¬ (a ≤ x ∧ x ≤ b)) :
    Calls Tryz.prog 37 #[.int .i64 x, .int .i64 a, .int .i64 b] w fun e w' => e = .returned (.bool false) ∧ w = w' := by
  by_cases h1 : a ≤ x
  · have h2 : decide (x ≤ b) = false := by simp; omega
    clear h
    go_enter Tryz.func37, Tryz.ntmps37
    go_wp2
    go_ret
    exact ⟨rfl, rfl⟩
  · clear h
    go_enter Tryz.func37, Tryz.ntmps37
    go_wp2
    go_ret
    exact ⟨rfl, rfl⟩

end Go.Proofs.YthjbekgognfiiaaGreat

/-
  What spec.EncodeVarint and impl.EncodeVarint answer, for every integer. By an AI agent.
-/
namespace Go.Proofs.YthjbekgognfiiaaGreat
open Go.RowKit
set_option linter.unusedVariables false

def strOf (l : List UInt8) : ByteArray := ⟨l.toArray⟩

theorem ret_str {a b : ByteArray} (h : a = b) : Ending.returned (.string a) = .returned (.string b) := by rw [h]

theorem strOf_append (l r : List UInt8) : strOf l ++ strOf r = strOf (l ++ r) := by
  apply ByteArray.ext
  simp [strOf]

theorem strOf_size (l : List UInt8) : (strOf l).size = l.length := by simp [strOf, ByteArray.size]

end Go.Proofs.YthjbekgognfiiaaGreat

/-
  What the laws' own toStringS, eqStringS, markText, markStringS and heldStringS do, and spec.EqualTokens. By an AI agent.
-/
namespace Go.Proofs.YthjbekgognfiiaaGreat
open Go.RowKit
set_option linter.unusedVariables false

theorem quiet_below (B : Nat) (w : World) (n : Nat) : Below B w (w.drewN n) := ⟨rfl, rfl, rfl, Nat.le_refl _, fun _ _ => rfl⟩

/-- the first k strings are copied, the rest is empty -/
def fillV (l : List Str) (k : Nat) : List Value := (l.take k).map encStr ++ List.replicate (l.length - k) (.string ⟨#[]⟩)
theorem fill_zero (l : List Str) : fillV l 0 = List.replicate l.length (.string ⟨#[]⟩) := by simp [fillV]
theorem fill_all (l : List Str) : fillV l l.length = l.map encStr := by simp [fillV]
theorem fill_len {l : List Str} {k : Nat} (h : k < l.length) : ((l.take k).map encStr).length = k := by
  rw [List.length_map, List.length_take]; omega
theorem fill_at {l : List Str} {k : Nat} (h : k < l.length) : (fillV l k)[k]? = some (.string ⟨#[]⟩) := by
  unfold fillV
  rw [List.getElem?_append_right (by rw [fill_len h]; omega), fill_len h, Nat.sub_self, List.getElem?_replicate, if_pos (by omega)]
theorem fill_set {l : List Str} {k : Nat} {x : Str} (h : l[k]? = some x) : (fillV l k).set k (encStr x) = fillV l (k + 1) := by
  obtain ⟨hlt, he⟩ := List.getElem?_eq_some_iff.1 h
  have e1 : l.length - k = (l.length - (k + 1)) + 1 := by omega
  unfold fillV
  rw [List.set_append_right _ _ (by rw [fill_len hlt]; omega), fill_len hlt, Nat.sub_self, e1, List.replicate_succ, List.take_succ_eq_append_getElem hlt, he, List.set_cons_zero]
  simp

set_option maxRecDepth 100000 in
theorem to_any (a : Option Addr) (cap : Nat) (l : List Str) (w : World) (hl : l.length ≤ 4000000) (hin : InS w a l) :
    Calls Tryz.prog 114 #[.slice a l.length cap] w (GivesS w l) := by
  obtain ⟨i0, hi, hz0, hz1, hz2⟩ := info_parts info_str
  have HIN := Lib.hid hin
  clear hin
  go_enter Tryz.func114, Tryz.ntmps114
  go_wp2_with (at_make; refine wpList_make_full _ rfl _ _ 28 rfl w.heap.size 9 i0 (.string ⟨#[]⟩) 1 Tryz.underlying28 hi hz0 hz1 .i64 .i64 _ _ l.length rfl rfl rfl rfl (by rw [hz2]; omega) (by unfold maxLen; omega) (Nat.le_refl _) ?_; intro w1 hrow hg)
  have HROW := Lib.hid hrow
  have HB1 := Lib.hid ((Below.refl w.heap.size w).grown hg (Nat.le_refl _) (fun k hk => by cases hk))
  clear hrow hg
  go_loopw [4] (fun i wr => ∃ k : Nat, k ≤ l.length ∧ i = .int .i64 k ∧ wr.ownsRow w.heap.size 9 1 (.slice (some ⟨w.heap.size, 0, none⟩) l.length l.length) l.length (fillV l k) ∧ Below w.heap.size w wr) (fun i _ => l.length - (intOf i).toNat)
  case atStart =>
    refine ⟨0, Nat.zero_le _, rfl, ?_, HB1.out⟩
    have h := HROW.out
    rw [Nat.mul_one, show (Value.string ⟨#[]⟩).cells = #[.string ⟨#[]⟩] from rfl, toList_madeCells_one] at h
    rw [fill_zero]
    exact h
  case round =>
    obtain ⟨k, hk, rfl, hrow, hb⟩ := hrel
    by_cases hlt : k < l.length
    · obtain ⟨b, off, rfl, hbw, hc⟩ := HIN.out (by omega)
      obtain ⟨x, s, hx1, hx2, hx3, hx4⟩ := str_at hlt
      have hcell : wr.cell? ⟨b, off + k, none⟩ = some (.string s) := by rw [← hx3, hb.cell (p := ⟨b, off + k, none⟩) hbw]; exact hc k x hx1
      have hold : wr.cell? ⟨w.heap.size, k, none⟩ = some (.string ⟨#[]⟩) := by rw [hrow.cellAt k (by omega)]; exact fill_at hlt
      have hfz : wr.frozen? ⟨w.heap.size, k, none⟩ = false := hrow.frozenAt k
      have HN := Lib.hid (hrow.stored k (.string s))
      have HE := Lib.hid (fill_set hx1)
      have H3 := Lib.hid hx3
      have HB := Lib.hid hb
      clear hc hx1 hx2 hx3 hx4 hrow hb
      go_wp2
      go_roundw
      case rel =>
        refine ⟨k + 1, by omega, by go_num, ?_, HB.out.setCell (by simp) _⟩
        rw [← HE.out, H3.out]
        exact HN.out.1
      case measure => simp [intOf]; omega
    · obtain rfl : k = l.length := by omega
      have HROW2 := Lib.hid hrow
      clear hrow
      go_wp2
      go_ret
      refine ⟨_, _, rfl, ?_, hb⟩
      have h := HROW2.out
      rw [fill_all] at h
      exact h

set_option maxRecDepth 100000 in
theorem eq_same (a1 a2 : Option Addr) (c1 c2 : Nat) (l : List Str) (w : World) (hl : l.length ≤ maxLen) (h1 : InS w a1 l) (h2 : InS w a2 l) :
    Calls Tryz.prog 115 #[.slice a1 l.length c1, .slice a2 l.length c2] w fun e w' => e = .returned (.bool true) ∧ Below w.heap.size w w' := by
  unfold maxLen at hl
  have H1 := Lib.hid h1
  have H2 := Lib.hid h2
  clear h1 h2
  go_enter Tryz.func115, Tryz.ntmps115
  go_wp2
  go_loopw [5] (fun i wr => ∃ k n : Nat, k ≤ l.length ∧ i = .int .i64 k ∧ wr = w.drewN n) (fun i _ => l.length - (intOf i).toNat)
  case atStart => exact ⟨0, 0, Nat.zero_le _, rfl, rfl⟩
  case round =>
    obtain ⟨k, n, hk, rfl, rfl⟩ := hrel
    by_cases hlt : k < l.length
    · obtain ⟨b1, o1, rfl, hb1, hc1⟩ := H1.out (by omega)
      obtain ⟨b2, o2, rfl, hb2, hc2⟩ := H2.out (by omega)
      obtain ⟨x, s, hx1, hx2, hx3, hx4⟩ := str_at hlt
      have hcell1 : w.cell? ⟨b1, o1 + k, none⟩ = some (.string s) := by rw [← hx3]; exact hc1 k x hx1
      have hcell2 : w.cell? ⟨b2, o2 + k, none⟩ = some (.string s) := by rw [← hx3]; exact hc2 k x hx1
      clear hc1 hc2 hx1 hx2 hx3 hx4
      go_wp2
      go_quiet (fail)
      go_wp2
      go_roundw
      case rel => exact ⟨k + 1, _, by omega, by go_num, rfl⟩
      case measure => simp [intOf]; omega
    · obtain rfl : k = l.length := by omega
      go_wp2
      go_ret
      exact ⟨rfl, quiet_below _ _ _⟩

end Go.Proofs.YthjbekgognfiiaaGreat

