/-
  Texts laid together: StrS, PlainEdit, EdBlk, RowX, DnS, VKey. By an AI agent.
-/
import Derived.Test.YtpmfabpnjacegaaGreatDoorGQ2
import Derived.BigQuiet
import Derived.Deep.QuietTactic
import Derived.OwnWalk
import Derived.Laws.OwnMore
import Derived.Maps.AppendAt
import Derived.Sort.EncStr
import Derived.WalkKit
import Derived.Laws.CopyRow
import Derived.Laws.AppendOwn
import Derived.Deep.Slices
import Derived.Maps.OwnOps
import Derived.Maps.OwnSet
import Derived.DeepKeys4
/-
  Slices of strings: one that reads as a list, one of the call's own; what the laws' own szStringS, toStringS and eqStringS do. By an AI agent.
-/
namespace Go.Proofs.YtpmfabpnjacegaaGreatDoor
open Go.RowKit
set_option linter.unusedVariables false

/-- a slice whose elements are the strings of a list -/
def InS (w : World) (a : Option Addr) (l : List Str) : Prop :=
  0 < l.length → ∃ b off, a = some ⟨b, off, none⟩ ∧ b < w.heap.size ∧ ∀ j x, l[j]? = some x → w.cell? ⟨b, off + j, none⟩ = some (encStr x)

/-- a slice of the call's own -/
def OwnS (w : World) (base : Nat) (v : Value) (l : List Str) : Prop := w.ownsRow base 9 1 v l.length (l.map encStr)

theorem info_str : (Tryz.prog.info? 9).map (fun i => (i.zero, i.size, i.bytes)) = some (some (.string ⟨#[]⟩), 1, 16) := by kernel_rfl

theorem InS.keep {w w' : World} {a : Option Addr} {l : List Str} (h : InS w a l) (hs : w.heap.size ≤ w'.heap.size) (hk : ∀ b off, a = some ⟨b, off, none⟩ → b < w.heap.size → w'.heap[b]? = w.heap[b]?) : InS w' a l := by
  intro h0
  obtain ⟨b, off, ha, hb, hc⟩ := h h0
  exact ⟨b, off, ha, Nat.lt_of_lt_of_le hb hs, fun j x hj => (World.cell?_of_block (hk b off ha hb)).trans (hc j x hj)⟩
theorem InS.below {w w' : World} {a : Option Addr} {l : List Str} (h : InS w a l) (hb : Below w.heap.size w w') : InS w' a l :=
  h.keep hb.size fun b _ _ hlt => hb.block b hlt
theorem InS.alloc {w : World} {a : Option Addr} {l : List Str} (h : InS w a l) (o : Obj) : InS (w.alloc o) a l := h.below ((Below.refl _ _).alloc (Nat.le_refl _) o)

theorem OwnS.shape {w : World} {base : Nat} {v : Value} {l : List Str} (h : OwnS w base v l) : ∃ a cap, v = .slice a l.length cap := by
  rcases h.2 with ⟨rfl, h0⟩ | ⟨g, cap, cur, rfl, _⟩
  · exact ⟨none, 0, by rw [h0]⟩
  · exact ⟨_, _, rfl⟩
theorem OwnS.inS {w : World} {base : Nat} {a : Option Addr} {n cap : Nat} {l : List Str} (h : OwnS w base (.slice a n cap) l) : InS w a l := by
  intro h0
  rcases h.2 with ⟨_, h1⟩ | ⟨g, cap', cur, hv, hb, hg, _, _, _, ht⟩
  · omega
  · simp only [Value.slice.injEq] at hv
    obtain ⟨rfl, -, -⟩ := hv
    refine ⟨g, 0, rfl, (Array.getElem?_eq_some_iff.1 hg).1, fun j x hj => ?_⟩
    obtain ⟨hlt, he⟩ := List.getElem?_eq_some_iff.1 hj
    rw [Nat.zero_add, cell_of_row w g j cur _ (0, 0) hg, ← Array.getElem?_toList]
    have h2 : (cur.toList.take (l.length * 1))[j]? = (l.map encStr)[j]? := by rw [ht]
    rw [List.getElem?_take_of_lt (by omega)] at h2
    rw [h2]
    simp [he, hlt]
theorem OwnS.len_le {w : World} {base : Nat} {v : Value} {l : List Str} (h : OwnS w base v l) : l.length ≤ maxLen := by
  rcases h.2 with ⟨_, h1⟩ | ⟨g, cap', cur, hv, hb, hg, h2, h3, _, ht⟩
  · omega
  · omega
theorem OwnS.alloc {w : World} {base : Nat} {v : Value} {l : List Str} (h : OwnS w base v l) (o : Obj) : OwnS (w.alloc o) base v l := World.ownsRow.alloc h o
theorem OwnS.below {w w' : World} {base : Nat} {v : Value} {l : List Str} (h : OwnS w base v l) (hb : Below w.heap.size w w') : OwnS w' base v l :=
  World.ownsRow.kept h (row := none) ⟨hb.os, hb.tape, hb.output, hb.size, fun i hi _ => hb.block i hi⟩ (by cases hv : v.ownBlock <;> simp)
theorem OwnS.mono {w : World} {base base' : Nat} {v : Value} {l : List Str} (h : OwnS w base v l) (hb : base' ≤ base) : OwnS w base' v l := by
  refine ⟨h.1, ?_⟩
  rcases h.2 with hn | ⟨g, cap', cur, hv, hbg, rest⟩
  · exact .inl hn
  · exact .inr ⟨g, cap', cur, hv, Nat.le_trans hb hbg, rest⟩
theorem OwnS.nil (w : World) (base : Nat) : OwnS w base (.slice none 0 0) [] := World.ownsRow_nil _ _ _ _
theorem OwnS.made (w : World) (base : Nat) (cur : Array Value) (cap : Nat) (hb : base ≤ w.heap.size) (hm : cap ≤ maxLen) (hs : cur.size = cap) :
    OwnS (w.alloc (.cells cur 9)) base (.slice (some ⟨w.heap.size, 0, none⟩) 0 cap) [] :=
  World.ownsRow_made w cur cap hb hm (by omega)

/-- a slice of the call's own is handed back -/
def GivesS (w : World) (l : List Str) (e : Ending) (w' : World) : Prop :=
  ∃ a cap, e = .returned (.slice a l.length cap) ∧ OwnS w' w.heap.size (.slice a l.length cap) l ∧ Below w.heap.size w w'

theorem GivesS.mk {w w' : World} {v : Value} {l : List Str} (h : OwnS w' w.heap.size v l) (hb : Below w.heap.size w w') : GivesS w l (.returned v) w' := by
  obtain ⟨a, cap, rfl⟩ := h.shape
  exact ⟨a, cap, rfl, h, hb⟩

/-- the values and letters of a list -/
def szT (l : List Str) (k : Nat) : Nat := l.length + ((l.take k).map List.length).sum
def szL (l : List Str) : Nat := szT l l.length
theorem szT_succ {l : List Str} {k : Nat} {x : Str} (h : l[k]? = some x) : szT l (k + 1) = szT l k + x.length := by
  obtain ⟨hlt, he⟩ := List.getElem?_eq_some_iff.1 h
  unfold szT
  rw [List.take_succ_eq_append_getElem hlt, he]
  simp
  omega
theorem szT_le {l : List Str} {j k : Nat} (h : j ≤ k) : szT l j ≤ szT l k := by
  obtain ⟨d, rfl⟩ : ∃ d, k = j + d := ⟨k - j, by omega⟩
  unfold szT
  rw [List.take_add]
  simp
theorem szL_len (l : List Str) : l.length ≤ szL l := by unfold szL szT; omega
theorem szL_mem {l : List Str} {x : Str} (h : x ∈ l) : x.length ≤ szL l := by
  obtain ⟨k, hk⟩ := List.getElem?_of_mem h
  have h1 := szT_succ hk
  have h2 := szT_le (l := l) (show k + 1 ≤ l.length from (List.getElem?_eq_some_iff.1 hk).1)
  unfold szL
  omega

theorem take_snoc' {l : List Str} {k : Nat} {x : Str} (h : l[k]? = some x) : l.take (k + 1) = l.take k ++ [x] := by
  obtain ⟨hlt, he⟩ := List.getElem?_eq_some_iff.1 h
  rw [List.take_succ_eq_append_getElem hlt, he]

/-- a string of the list, with its bytes apart -/
theorem ret_int {k : IntKind} {a b : Int} (h : a = b) : Ending.returned (.int k a) = .returned (.int k b) := by rw [h]

theorem str_at {l : List Str} {k : Nat} (h : k < l.length) : ∃ (x : Str) (s : ByteArray), l[k]? = some x ∧ s.data.toList = x ∧ encStr x = .string s ∧ s.size = x.length := by
  refine ⟨l[k], ⟨l[k].toArray⟩, List.getElem?_eq_getElem h, by simp, rfl, ?_⟩
  simp [ByteArray.size]

/-- what is left of 'left', or -1 -/
def szR (l : List Str) (left : Nat) : Int := if szL l ≤ left then (left : Int) - (szL l : Int) else -1
theorem szR_yes {l : List Str} {left : Nat} (h : szL l ≤ left) : szR l left = ((left - szL l : Nat) : Int) := by unfold szR; rw [if_pos h]; omega
theorem szR_no {l : List Str} {left : Nat} (h : ¬ szL l ≤ left) : szR l left = -1 := by unfold szR; rw [if_neg h]

/-- an argument of moderate size -/
def Sm (w : World) (a : Option Addr) (l : List Str) (c : Nat) : Prop := InS w a l ∧ (a = none → c = 0) ∧ l.length ≤ c ∧ l.length ≤ 4000000 ∧ ∀ x ∈ l, x.length ≤ 1048576
theorem Sm.below {w w' : World} {a : Option Addr} {l : List Str} {c : Nat} (h : Sm w a l c) (hb : Below w.heap.size w w') : Sm w' a l c := ⟨h.1.below hb, h.2⟩
theorem sz_len {l : List Str} (hs : szL l ≤ 1048576) : l.length ≤ 4000000 := by have := szL_len l; omega
theorem sz_mem {l : List Str} (hs : szL l ≤ 1048576) : ∀ x ∈ l, x.length ≤ 1048576 := fun x hx => by have := szL_mem hx; omega
theorem Sm.ml {w : World} {a : Option Addr} {l : List Str} {c : Nat} (h : Sm w a l c) : l.length ≤ maxLen := by have := h.2.2.2.1; unfold maxLen; omega
theorem OwnS.none_cap {w : World} {base : Nat} {a : Option Addr} {n cap : Nat} {l : List Str} (h : OwnS w base (.slice a n cap) l) : a = none → cap = 0 := by
  intro e
  rcases h.2 with ⟨hv, h1⟩ | ⟨g, cap', cur, hv, _⟩
  · simp only [Value.slice.injEq] at hv
    exact hv.2.2
  · simp only [Value.slice.injEq] at hv
    rw [e] at hv
    cases hv.1
theorem OwnS.cap_ge {w : World} {base : Nat} {a : Option Addr} {n cap : Nat} {l : List Str} (h : OwnS w base (.slice a n cap) l) : l.length ≤ cap := by
  rcases h.2 with ⟨hv, h1⟩ | ⟨g, cap', cur, hv, _, _, h2, _⟩
  · omega
  · simp only [Value.slice.injEq] at hv
    omega

/-- an argument of a law -/
def ArgS (w : World) (a : Option Addr) (l : List Str) : Prop := InS w a l ∧ l.length ≤ maxLen ∧ ∀ x ∈ l, x.length ≤ maxLen

theorem argS_of {w : World} {x : Addr} {l c : Nat} {ss : List ByteArray} (hl : l ≤ c) (hm : c ≤ maxLen) (hz : ss.length = c)
    (hcell : ∀ i, i < ss.length → w.cell? (x.add i) = some (.string (ss.getD i ByteArray.empty))) (hw : ∀ s ∈ ss, s.size ≤ maxLen) : ∃ L : List Str, l = L.length ∧ ArgS w (some x) L := by
  refine ⟨(ss.take l).map (·.data.toList), by simp; omega, fun h0 => ?_, by simp; omega, fun y hy => ?_⟩
  · simp at h0
    obtain ⟨b, off, spot⟩ := x
    have hspot : spot = none := by simpa [Addr.add] using World.cell?_spot (hcell 0 (by omega))
    subst hspot
    refine ⟨b, off, rfl, ?_, fun j y hj => ?_⟩
    · exact World.block_lt_of_cell? w _ (hcell 0 (by omega))
    · obtain ⟨hlt, he⟩ := List.getElem?_eq_some_iff.1 hj
      simp at hlt
      have h1 := hcell j (by omega)
      have h2 : (⟨b, off, none⟩ : Addr).add j = ⟨b, off + j, none⟩ := by unfold Addr.add; split <;> simp_all
      rw [h2] at h1
      rw [h1]
      simp only [List.getElem_map, List.getElem_take] at he
      rw [← he, List.getD, List.getElem?_eq_getElem (by omega)]
      rfl
  · obtain ⟨s, hs, rfl⟩ := List.mem_map.1 hy
    have := hw s (List.mem_of_mem_take hs)
    simpa using this

/-- a slice of the call's own, in blocks from lo on and below hi -/
def OwnH (w : World) (lo hi : Nat) (v : Value) (l : List Str) : Prop := OwnS w lo v l ∧ ∀ k, v.ownBlock = some k → k < hi
theorem OwnH.of {w w' : World} {a : Option Addr} {cap : Nat} {l : List Str} (h : OwnS w' w.heap.size (.slice a l.length cap) l) : OwnH w' w.heap.size w'.heap.size (.slice a l.length cap) l :=
  ⟨h, fun k hk => (World.ownsRow.lt h k hk).2⟩
theorem OwnH.below {w w' : World} {lo hi : Nat} {v : Value} {l : List Str} (h : OwnH w lo hi v l) (hb : Below w.heap.size w w') : OwnH w' lo hi v l := ⟨h.1.below hb, h.2⟩
theorem OwnH.inS {w : World} {lo hi : Nat} {a : Option Addr} {n cap : Nat} {l : List Str} (h : OwnH w lo hi (.slice a n cap) l) : InS w a l := h.1.inS
theorem OwnS.sm {w : World} {base : Nat} {a : Option Addr} {n cap : Nat} {l : List Str} (h : OwnS w base (.slice a n cap) l) (h1 : l.length ≤ 4000000) (h2 : ∀ x ∈ l, x.length ≤ 1048576) : Sm w a l cap := ⟨h.inS, h.none_cap, h.cap_ge, h1, h2⟩
theorem OwnH.sm {w : World} {lo hi : Nat} {a : Option Addr} {n cap : Nat} {l : List Str} (h : OwnH w lo hi (.slice a n cap) l) (h1 : l.length ≤ 4000000) (h2 : ∀ x ∈ l, x.length ≤ 1048576) : Sm w a l cap := h.1.sm h1 h2
/-- what is written into one slice leaves another as it was -/
theorem OwnH.other {w w' : World} {lo hi lo' hi' : Nat} {v u : Value} {l : List Str} (h : OwnH w lo hi v l) (hg : w.grownBy w' u.ownBlock) (hu : ∀ k, u.ownBlock = some k → lo' ≤ k ∧ k < hi') (hd : hi ≤ lo' ∨ hi' ≤ lo) : OwnH w' lo hi v l := by
  refine ⟨World.ownsRow.kept h.1 hg ?_, h.2⟩
  cases hv : v.ownBlock with
  | none => exact .inl rfl
  | some k =>
    refine .inr fun e => ?_
    have h1 := (World.ownsRow.lt h.1 k hv).1
    have h2 := h.2 k hv
    have h3 := hu k e.symm
    omega
theorem OwnH.row {w : World} {lo hi : Nat} {v : Value} {l : List Str} (h : OwnH w lo hi v l) : ∀ k, v.ownBlock = some k → lo ≤ k ∧ k < hi := fun k hk => ⟨(World.ownsRow.lt h.1 k hk).1, h.2 k hk⟩
theorem below_row {w0 w w' : World} {lo hi : Nat} {v : Value} {l : List Str} (hb : Below w0.heap.size w0 w) (h : OwnH w lo hi v l) (hg : w.grownBy w' v.ownBlock) (hlo : w0.heap.size ≤ lo) : Below w0.heap.size w0 w' :=
  hb.grown hg hb.size fun k hk => Nat.le_trans hlo (h.row k hk).1

end Go.Proofs.YtpmfabpnjacegaaGreatDoor

/-
  Plain facts on edit distances, without the program: the least cost by remaining parts, alignments, reversal, the triangle inequality, the script. By an AI agent.
-/
namespace Go.Proofs.YtpmfabpnjacegaaGreatDoor

/-- the least cost of a script from a to b; sw: adjacent bytes may be exchanged -/
def lev (sw : Bool) : List UInt8 → List UInt8 → Nat
  | [], b => b.length
  | _ :: a, [] => a.length + 1
  | x :: a, y :: b =>
    let m := if x = y then lev sw a b else 1 + min (min (lev sw a b) (lev sw a (y :: b))) (lev sw (x :: a) b)
    if sw = true ∧ a.head? = some y ∧ b.head? = some x then min m (1 + lev sw a.tail b.tail) else m
termination_by a b => a.length + b.length
decreasing_by all_goals (simp <;> omega)

/-- alignments of two byte strings with their cost -/
inductive Al (sw : Bool) : List UInt8 → List UInt8 → Nat → Prop
  | nil : Al sw [] [] 0
  | keep (x : UInt8) {a b : List UInt8} {n : Nat} : Al sw a b n → Al sw (x :: a) (x :: b) n
  | rep (x y : UInt8) {a b : List UInt8} {n : Nat} : Al sw a b n → Al sw (x :: a) (y :: b) (n + 1)
  | del (x : UInt8) {a b : List UInt8} {n : Nat} : Al sw a b n → Al sw (x :: a) b (n + 1)
  | ins (y : UInt8) {a b : List UInt8} {n : Nat} : Al sw a b n → Al sw a (y :: b) (n + 1)
  | exch (x y : UInt8) {a b : List UInt8} {n : Nat} : sw = true → Al sw a b n → Al sw (x :: y :: a) (y :: x :: b) (n + 1)

theorem lev_nil (sw : Bool) (b : List UInt8) : lev sw [] b = b.length := by rw [lev]
theorem lev_nil' (sw : Bool) (a : List UInt8) : lev sw a [] = a.length := by cases a <;> rw [lev] <;> rfl

theorem Al.cast {sw : Bool} {a b : List UInt8} {n m : Nat} (h : Al sw a b n) (e : n = m) : Al sw a b m := e ▸ h

theorem Al.lens {sw : Bool} {a b : List UInt8} {n : Nat} (h : Al sw a b n) : a.length ≤ b.length + n ∧ b.length ≤ a.length + n := by
  induction h <;> simp_all <;> omega

theorem Al.symm {sw : Bool} {a b : List UInt8} {n : Nat} (h : Al sw a b n) : Al sw b a n := by
  induction h with
  | nil => exact .nil
  | keep x _ ih => exact .keep x ih
  | rep x y _ ih => exact .rep y x ih
  | del x _ ih => exact .ins x ih
  | ins y _ ih => exact .del y ih
  | exch x y e _ ih => exact .exch y x e ih

theorem Al.append {sw : Bool} {a b : List UInt8} {n : Nat} (h : Al sw a b n) {a' b' : List UInt8} {m : Nat} (h2 : Al sw a' b' m) : Al sw (a ++ a') (b ++ b') (n + m) := by
  induction h with
  | nil => simpa using h2
  | keep x _ ih => exact .keep x ih
  | rep x y _ ih => exact (Al.rep x y ih).cast (by omega)
  | del x _ ih => exact (Al.del x ih).cast (by omega)
  | ins y _ ih => exact (Al.ins y ih).cast (by omega)
  | exch x y e _ ih => exact (Al.exch x y e ih).cast (by omega)

theorem Al.rev {sw : Bool} {a b : List UInt8} {n : Nat} (h : Al sw a b n) : Al sw a.reverse b.reverse n := by
  induction h with
  | nil => exact .nil
  | keep x _ ih => simpa using ih.append (.keep x .nil)
  | rep x y _ ih => simpa using ih.append (.rep x y .nil)
  | del x _ ih => simpa using ih.append (.del x .nil)
  | ins y _ ih => simpa using ih.append (.ins y .nil)
  | exch x y e _ ih => simpa using ih.append (.exch y x e .nil)

theorem Al.all_ins (sw : Bool) (b : List UInt8) : Al sw [] b b.length := by
  induction b with
  | nil => exact .nil
  | cons y b ih => exact .ins y ih
theorem Al.all_del (sw : Bool) (a : List UInt8) : Al sw a [] a.length := (Al.all_ins sw a).symm

theorem lev_cons (sw : Bool) (x y : UInt8) (a b : List UInt8) : lev sw (x :: a) (y :: b) =
    (if sw = true ∧ a.head? = some y ∧ b.head? = some x then
      min (if x = y then lev sw a b else 1 + min (min (lev sw a b) (lev sw a (y :: b))) (lev sw (x :: a) b)) (1 + lev sw a.tail b.tail)
    else (if x = y then lev sw a b else 1 + min (min (lev sw a b) (lev sw a (y :: b))) (lev sw (x :: a) b))) := by
  rw [lev]

theorem head_tail {a : List UInt8} {y : UInt8} (h : a.head? = some y) : a = y :: a.tail := by
  cases a with
  | nil => simp at h
  | cons z a => simp at h; rw [h]; rfl

theorem lev_al (sw : Bool) : ∀ (N : Nat) (a b : List UInt8), a.length + b.length ≤ N → Al sw a b (lev sw a b) := by
  intro N
  induction N with
  | zero =>
    intro a b h
    have h1 : a = [] := List.eq_nil_of_length_eq_zero (by omega)
    have h2 : b = [] := List.eq_nil_of_length_eq_zero (by omega)
    subst h1 h2
    rw [lev_nil]; exact .nil
  | succ N ih =>
    intro a b h
    match a, b, h with
    | [], b, h => rw [lev_nil]; exact Al.all_ins sw b
    | x :: a, [], h => rw [lev_nil']; exact Al.all_del sw _
    | x :: a, y :: b, h =>
      simp only [List.length_cons] at h
      have hm : Al sw (x :: a) (y :: b) (if x = y then lev sw a b else 1 + min (min (lev sw a b) (lev sw a (y :: b))) (lev sw (x :: a) b)) := by
        split
        · rename_i e; subst e; exact .keep x (ih a b (by omega))
        · have h1 := Al.rep x y (ih a b (by omega))
          have h2 := Al.del x (ih a (y :: b) (by simp; omega))
          have h3 := Al.ins y (ih (x :: a) b (by simp; omega))
          by_cases c1 : lev sw a b ≤ lev sw a (y :: b)
          · by_cases c2 : lev sw a b ≤ lev sw (x :: a) b
            · exact h1.cast (by omega)
            · exact h3.cast (by omega)
          · by_cases c2 : lev sw a (y :: b) ≤ lev sw (x :: a) b
            · exact h2.cast (by omega)
            · exact h3.cast (by omega)
      rw [lev_cons]
      split
      · rename_i e
        obtain ⟨e1, e2, e3⟩ := e
        have ha := head_tail e2
        have hb := head_tail e3
        have l1 : a.tail.length ≤ a.length := by simp
        have l2 : b.tail.length ≤ b.length := by simp
        have hs : Al sw (x :: a) (y :: b) (1 + lev sw a.tail b.tail) := by
          have := Al.exch x y e1 (ih a.tail b.tail (by omega))
          rw [← ha, ← hb] at this
          exact this.cast (by omega)
        rcases Nat.le_total (if x = y then lev sw a b else 1 + min (min (lev sw a b) (lev sw a (y :: b))) (lev sw (x :: a) b)) (1 + lev sw a.tail b.tail) with hc | hc
        · rw [Nat.min_eq_left hc]; exact hm
        · rw [Nat.min_eq_right hc]; exact hs
      · exact hm

theorem Al.of_lev (sw : Bool) (a b : List UInt8) : Al sw a b (lev sw a b) := lev_al sw _ a b (Nat.le_refl _)

/-- an alignment less the first byte of a -/
theorem Al.drop_one {sw : Bool} {a0 b : List UInt8} {n : Nat} (h : Al sw a0 b n) : ∀ x a, a0 = x :: a → ∃ m, m ≤ n + 1 ∧ Al sw a b m := by
  induction h with
  | nil => intro x a e; cases e
  | keep z h _ => intro x a e; cases e; exact ⟨_, Nat.le_refl _, .ins z h⟩
  | rep z y h _ => intro x a e; cases e; exact ⟨_, by omega, .ins y h⟩
  | del z h _ => intro x a e; cases e; exact ⟨_, by omega, h⟩
  | ins y h ih => intro x a e; obtain ⟨m, hm, hh⟩ := ih x a e; exact ⟨_, by omega, .ins y hh⟩
  | exch z y e1 h _ => intro x a e; cases e; exact ⟨_, by omega, .keep y (.ins z h)⟩

theorem lev_le_m (sw : Bool) (x y : UInt8) (a b : List UInt8) : lev sw (x :: a) (y :: b) ≤ (if x = y then lev sw a b else 1 + min (min (lev sw a b) (lev sw a (y :: b))) (lev sw (x :: a) b)) := by
  rw [lev_cons]
  split
  · exact Nat.min_le_left _ _
  · exact Nat.le_refl _

theorem lev_min (sw : Bool) : ∀ (N : Nat) (a b : List UInt8), a.length + b.length ≤ N → ∀ n, Al sw a b n → lev sw a b ≤ n := by
  intro N
  induction N with
  | zero =>
    intro a b h n _
    have h1 : a = [] := List.eq_nil_of_length_eq_zero (by omega)
    have h2 : b = [] := List.eq_nil_of_length_eq_zero (by omega)
    subst h1 h2
    rw [lev_nil]; exact Nat.zero_le _
  | succ N ih =>
    intro a b h n hal
    cases hal with
    | nil => rw [lev_nil]; exact Nat.zero_le _
    | keep x hh =>
      simp only [List.length_cons] at h
      refine Nat.le_trans (lev_le_m _ _ _ _ _) ?_
      rw [if_pos rfl]
      exact ih _ _ (by omega) _ hh
    | rep x y hh =>
      simp only [List.length_cons] at h
      have h1 := ih _ _ (by omega) _ hh
      refine Nat.le_trans (lev_le_m _ _ _ _ _) ?_
      split <;> omega
    | @del x a b n hh =>
      simp only [List.length_cons] at h
      have h1 := ih _ _ (by omega) _ hh
      cases b with
      | nil => rw [lev_nil'] at h1 ⊢; simp; exact h1
      | cons y b =>
        refine Nat.le_trans (lev_le_m _ _ _ _ _) ?_
        split
        · obtain ⟨m, hm, h3⟩ := hh.symm.drop_one y b rfl
          simp only [List.length_cons] at h
          have := ih a b (by omega) m h3.symm
          omega
        · omega
    | @ins y a b n hh =>
      simp only [List.length_cons] at h
      have h1 := ih _ _ (by omega) _ hh
      cases a with
      | nil => rw [lev_nil] at h1 ⊢; simp; exact h1
      | cons x a =>
        refine Nat.le_trans (lev_le_m _ _ _ _ _) ?_
        split
        · obtain ⟨m, hm, h3⟩ := hh.drop_one x a rfl
          simp only [List.length_cons] at h
          have := ih a b (by omega) m h3
          omega
        · omega
    | @exch x y a b n e hh =>
      simp only [List.length_cons] at h
      have h1 := ih _ _ (by omega) _ hh
      rw [lev_cons, if_pos ⟨e, rfl, rfl⟩]
      refine Nat.le_trans (Nat.min_le_right _ _) ?_
      simp only [List.tail_cons]
      omega

theorem Al.lev_le {sw : Bool} {a b : List UInt8} {n : Nat} (h : Al sw a b n) : lev sw a b ≤ n := lev_min sw _ a b (Nat.le_refl _) n h

theorem lev_symm (sw : Bool) (a b : List UInt8) : lev sw a b = lev sw b a :=
  Nat.le_antisymm (Al.of_lev sw b a).symm.lev_le (Al.of_lev sw a b).symm.lev_le
theorem lev_rev (sw : Bool) (a b : List UInt8) : lev sw a.reverse b.reverse = lev sw a b := by
  refine Nat.le_antisymm (Al.of_lev sw a b).rev.lev_le ?_
  have h := (Al.of_lev sw a.reverse b.reverse).rev
  rw [List.reverse_reverse, List.reverse_reverse] at h
  exact h.lev_le
theorem lev_lens (sw : Bool) (a b : List UInt8) : a.length ≤ b.length + lev sw a b ∧ b.length ≤ a.length + lev sw a b := (Al.of_lev sw a b).lens
theorem al_most (sw : Bool) : ∀ a b : List UInt8, ∃ n, n ≤ max a.length b.length ∧ Al sw a b n
  | [], b => ⟨_, by simp, Al.all_ins sw b⟩
  | x :: a, [] => ⟨_, by simp, Al.all_del sw _⟩
  | x :: a, y :: b => by
    obtain ⟨n, hn, h⟩ := al_most sw a b
    exact ⟨_, by simp; omega, .rep x y h⟩
theorem lev_most (sw : Bool) (a b : List UInt8) : lev sw a b ≤ max a.length b.length := by
  obtain ⟨n, hn, h⟩ := al_most sw a b
  exact Nat.le_trans h.lev_le hn
theorem al_same (sw : Bool) : ∀ a : List UInt8, Al sw a a 0
  | [] => .nil
  | x :: a => .keep x (al_same sw a)
theorem lev_same (sw : Bool) (a : List UInt8) : lev sw a a = 0 := Nat.le_zero.1 (al_same sw a).lev_le
theorem al_zero {sw : Bool} {a b : List UInt8} {n : Nat} (h : Al sw a b n) : n = 0 → a = b := by
  induction h with
  | nil => intro _; rfl
  | keep x _ ih => intro e; rw [ih e]
  | _ => intro e; omega
theorem lev_zero {sw : Bool} {a b : List UInt8} : lev sw a b = 0 ↔ a = b := ⟨al_zero (Al.of_lev sw a b), fun e => e ▸ lev_same sw a⟩
theorem Al.more {a b : List UInt8} {n : Nat} (h : Al false a b n) : Al true a b n := by
  induction h with
  | nil => exact .nil
  | keep x _ ih => exact .keep x ih
  | rep x y _ ih => exact .rep x y ih
  | del x _ ih => exact .del x ih
  | ins y _ ih => exact .ins y ih
  | exch x y e _ ih => cases e
theorem lev_swap_le (a b : List UInt8) : lev true a b ≤ lev false a b := (Al.of_lev false a b).more.lev_le

theorem al_trans : ∀ (N : Nat) (a b c : List UInt8) (n m : Nat), a.length + b.length + c.length ≤ N → Al false a b n → Al false b c m → ∃ k, k ≤ n + m ∧ Al false a c k := by
  intro N
  induction N with
  | zero =>
    intro a b c n m h h1 h2
    have e1 : a = [] := List.eq_nil_of_length_eq_zero (by omega)
    have e2 : c = [] := List.eq_nil_of_length_eq_zero (by omega)
    subst e1 e2
    exact ⟨0, by omega, .nil⟩
  | succ N ih =>
    intro a b c n m h h1 h2
    cases h2 with
    | ins z h2 =>
      simp only [List.length_cons] at h
      obtain ⟨k, hk, hh⟩ := ih _ _ _ _ _ (by omega) h1 h2
      exact ⟨_, by omega, .ins z hh⟩
    | exch _ _ e _ => cases e
    | nil =>
      cases h1 with
      | nil => exact ⟨0, by omega, .nil⟩
      | del x h1 => exact ⟨_, by omega, .del x h1⟩
    | keep y h2 =>
      cases h1 with
      | keep _ h1 => simp only [List.length_cons] at h; obtain ⟨k, hk, hh⟩ := ih _ _ _ _ _ (by omega) h1 h2; exact ⟨_, by omega, .keep y hh⟩
      | rep x _ h1 => simp only [List.length_cons] at h; obtain ⟨k, hk, hh⟩ := ih _ _ _ _ _ (by omega) h1 h2; exact ⟨_, by omega, .rep x y hh⟩
      | del x h1 => simp only [List.length_cons] at h; obtain ⟨k, hk, hh⟩ := ih _ _ _ _ _ (by simp; omega) h1 (.keep y h2); exact ⟨_, by omega, .del x hh⟩
      | ins _ h1 => simp only [List.length_cons] at h; obtain ⟨k, hk, hh⟩ := ih _ _ _ _ _ (by omega) h1 h2; exact ⟨_, by omega, .ins y hh⟩
      | exch _ _ e _ => cases e
    | rep y z h2 =>
      cases h1 with
      | keep _ h1 => simp only [List.length_cons] at h; obtain ⟨k, hk, hh⟩ := ih _ _ _ _ _ (by omega) h1 h2; exact ⟨_, by omega, .rep y z hh⟩
      | rep x _ h1 => simp only [List.length_cons] at h; obtain ⟨k, hk, hh⟩ := ih _ _ _ _ _ (by omega) h1 h2; exact ⟨_, by omega, .rep x z hh⟩
      | del x h1 => simp only [List.length_cons] at h; obtain ⟨k, hk, hh⟩ := ih _ _ _ _ _ (by simp; omega) h1 (.rep y z h2); exact ⟨_, by omega, .del x hh⟩
      | ins _ h1 => simp only [List.length_cons] at h; obtain ⟨k, hk, hh⟩ := ih _ _ _ _ _ (by omega) h1 h2; exact ⟨_, by omega, .ins z hh⟩
      | exch _ _ e _ => cases e
    | del y h2 =>
      cases h1 with
      | keep _ h1 => simp only [List.length_cons] at h; obtain ⟨k, hk, hh⟩ := ih _ _ _ _ _ (by omega) h1 h2; exact ⟨_, by omega, .del y hh⟩
      | rep x _ h1 => simp only [List.length_cons] at h; obtain ⟨k, hk, hh⟩ := ih _ _ _ _ _ (by omega) h1 h2; exact ⟨_, by omega, .del x hh⟩
      | del x h1 => simp only [List.length_cons] at h; obtain ⟨k, hk, hh⟩ := ih _ _ _ _ _ (by simp; omega) h1 (.del y h2); exact ⟨_, by omega, .del x hh⟩
      | ins _ h1 => simp only [List.length_cons] at h; obtain ⟨k, hk, hh⟩ := ih _ _ _ _ _ (by omega) h1 h2; exact ⟨_, by omega, hh⟩
      | exch _ _ e _ => cases e

theorem lev_triangle (a c b : List UInt8) : lev false a b ≤ lev false a c + lev false c b := by
  obtain ⟨k, hk, h⟩ := al_trans _ a c b _ _ (Nat.le_refl _) (Al.of_lev false a c) (Al.of_lev false c b)
  exact Nat.le_trans h.lev_le hk

/-! the recurrences that both tables use -/

theorem lev_eqf {x y : UInt8} {a b : List UInt8} (h : x = y) : lev false (x :: a) (y :: b) = lev false a b := by
  rw [lev_cons, if_neg (by simp), if_pos h]
theorem lev_nef {x y : UInt8} {a b : List UInt8} (h : x ≠ y) : lev false (x :: a) (y :: b) = 1 + min (min (lev false a b) (lev false a (y :: b))) (lev false (x :: a) b) := by
  rw [lev_cons, if_neg (by simp), if_neg h]

/-! the script -/

def scr : List UInt8 → List UInt8 → List UInt8
  | [], [] => []
  | [], y :: b => 43 :: y :: scr [] b
  | _ :: a, [] => 45 :: scr a []
  | x :: a, y :: b =>
    if x = y then 61 :: scr a b
    else if lev false (x :: a) (y :: b) = 1 + lev false a b then 126 :: y :: scr a b
    else if lev false (x :: a) (y :: b) = 1 + lev false a (y :: b) then 45 :: scr a (y :: b)
    else 43 :: y :: scr (x :: a) b
termination_by a b => a.length + b.length
decreasing_by all_goals (simp <;> omega)

theorem scr_nil : scr [] [] = [] := by rw [scr]
theorem scr_ins (y : UInt8) (b : List UInt8) : scr [] (y :: b) = 43 :: y :: scr [] b := by rw [scr]
theorem scr_del (x : UInt8) (a : List UInt8) : scr (x :: a) [] = 45 :: scr a [] := by rw [scr]
theorem scr_keep {x y : UInt8} {a b : List UInt8} (h : x = y) : scr (x :: a) (y :: b) = 61 :: scr a b := by rw [scr, if_pos h]
theorem scr_rep {x y : UInt8} {a b : List UInt8} (h : x ≠ y) (h1 : lev false (x :: a) (y :: b) = 1 + lev false a b) : scr (x :: a) (y :: b) = 126 :: y :: scr a b := by
  rw [scr, if_neg h, if_pos h1]
theorem scr_drop {x y : UInt8} {a b : List UInt8} (h : x ≠ y) (h1 : ¬ lev false (x :: a) (y :: b) = 1 + lev false a b) (h2 : lev false (x :: a) (y :: b) = 1 + lev false a (y :: b)) : scr (x :: a) (y :: b) = 45 :: scr a (y :: b) := by
  rw [scr, if_neg h, if_neg h1, if_pos h2]
theorem scr_put {x y : UInt8} {a b : List UInt8} (h : x ≠ y) (h1 : ¬ lev false (x :: a) (y :: b) = 1 + lev false a b) (h2 : ¬ lev false (x :: a) (y :: b) = 1 + lev false a (y :: b)) : scr (x :: a) (y :: b) = 43 :: y :: scr (x :: a) b := by
  rw [scr, if_neg h, if_neg h1, if_neg h2]

/-- what a script makes of a -/
def app : List UInt8 → List UInt8 → Option (List UInt8)
  | a, [] => if a = [] then some [] else none
  | a, c :: s =>
    if c = 61 then (if a = [] then none else (app a.tail s).map (a.headD 0 :: ·))
    else if c = 126 then (if a = [] then none else if s = [] then none else (app a.tail s.tail).map (s.headD 0 :: ·))
    else if c = 45 then (if a = [] then none else app a.tail s)
    else if c = 43 then (if s = [] then none else (app a s.tail).map (s.headD 0 :: ·))
    else none
termination_by _ s => s.length
decreasing_by all_goals (simp <;> omega)

theorem app_nil (a : List UInt8) : app a [] = if a = [] then some [] else none := by rw [app]
theorem app_keep (x : UInt8) (a s : List UInt8) : app (x :: a) (61 :: s) = (app a s).map (x :: ·) := by rw [app]; simp
theorem app_rep (x y : UInt8) (a s : List UInt8) : app (x :: a) (126 :: y :: s) = (app a s).map (y :: ·) := by rw [app]; simp
theorem app_del (x : UInt8) (a s : List UInt8) : app (x :: a) (45 :: s) = app a s := by rw [app]; simp
theorem app_ins (y : UInt8) (a s : List UInt8) : app a (43 :: y :: s) = (app a s).map (y :: ·) := by rw [app]; simp
theorem app_keep_no (s : List UInt8) : app [] (61 :: s) = none := by rw [app]; simp
theorem app_rep_no (s : List UInt8) : app [] (126 :: s) = none := by rw [app]; simp
theorem app_rep_end (a : List UInt8) : app a [126] = none := by rw [app]; simp
theorem app_del_no (s : List UInt8) : app [] (45 :: s) = none := by rw [app]; simp
theorem app_ins_end (a : List UInt8) : app a [43] = none := by rw [app]; simp
theorem app_other {c : UInt8} (a s : List UInt8) (h1 : c ≠ 61) (h2 : c ≠ 126) (h3 : c ≠ 45) (h4 : c ≠ 43) : app a (c :: s) = none := by
  rw [app, if_neg h1, if_neg h2, if_neg h3, if_neg h4]

/-- the cost of a script -/
def costS : List UInt8 → Nat
  | [] => 0
  | c :: s => if c = 126 ∨ c = 43 then 1 + costS s.tail else if c = 45 then 1 + costS s else costS s
termination_by s => s.length
decreasing_by all_goals (simp <;> omega)

theorem costS_nil : costS [] = 0 := by rw [costS]
theorem costS_keep (s : List UInt8) : costS (61 :: s) = costS s := by rw [costS]; simp
theorem costS_rep (y : UInt8) (s : List UInt8) : costS (126 :: y :: s) = 1 + costS s := by rw [costS]; simp
theorem costS_ins (y : UInt8) (s : List UInt8) : costS (43 :: y :: s) = 1 + costS s := by rw [costS]; simp
theorem costS_del (s : List UInt8) : costS (45 :: s) = 1 + costS s := by rw [costS]; simp

theorem lev_put {x y : UInt8} {a b : List UInt8} (h : x ≠ y) (h1 : ¬ lev false (x :: a) (y :: b) = 1 + lev false a b) (h2 : ¬ lev false (x :: a) (y :: b) = 1 + lev false a (y :: b)) :
    lev false (x :: a) (y :: b) = 1 + lev false (x :: a) b := by
  have := lev_nef (a := a) (b := b) h
  omega

theorem scr_all : ∀ (N : Nat) (a b : List UInt8), a.length + b.length ≤ N → app a (scr a b) = some b ∧ costS (scr a b) = lev false a b ∧ (scr a b).length ≤ 2 * (a.length + b.length) := by
  intro N
  induction N with
  | zero =>
    intro a b h
    have e1 : a = [] := List.eq_nil_of_length_eq_zero (by omega)
    have e2 : b = [] := List.eq_nil_of_length_eq_zero (by omega)
    subst e1 e2
    rw [scr_nil, app_nil, costS_nil, lev_nil]; simp
  | succ N ih =>
    intro a b h
    match a, b, h with
    | [], [], _ => rw [scr_nil, app_nil, costS_nil, lev_nil]; simp
    | [], y :: b, h =>
      simp only [List.length_cons] at h
      obtain ⟨h1, h2, h3⟩ := ih [] b (by omega)
      rw [scr_ins, app_ins, h1, costS_ins, h2, lev_nil, lev_nil]
      refine ⟨rfl, by simp; omega, by simp at h3 ⊢; omega⟩
    | x :: a, [], h =>
      simp only [List.length_cons] at h
      obtain ⟨h1, h2, h3⟩ := ih a [] (by omega)
      rw [scr_del, app_del, h1, costS_del, h2, lev_nil', lev_nil']
      refine ⟨rfl, by simp; omega, by simp at h3 ⊢; omega⟩
    | x :: a, y :: b, h =>
      simp only [List.length_cons] at h
      by_cases c0 : x = y
      · obtain ⟨h1, h2, h3⟩ := ih a b (by omega)
        rw [scr_keep c0, app_keep, h1, costS_keep, h2, lev_eqf c0]
        exact ⟨by rw [c0]; rfl, rfl, by simp at h3 ⊢; omega⟩
      · by_cases c1 : lev false (x :: a) (y :: b) = 1 + lev false a b
        · obtain ⟨h1, h2, h3⟩ := ih a b (by omega)
          rw [scr_rep c0 c1, app_rep, h1, costS_rep, h2, c1]
          exact ⟨rfl, rfl, by simp at h3 ⊢; omega⟩
        · by_cases c2 : lev false (x :: a) (y :: b) = 1 + lev false a (y :: b)
          · obtain ⟨h1, h2, h3⟩ := ih a (y :: b) (by simp; omega)
            rw [scr_drop c0 c1 c2, app_del, h1, costS_del, h2, c2]
            exact ⟨rfl, rfl, by simp at h3 ⊢; omega⟩
          · obtain ⟨h1, h2, h3⟩ := ih (x :: a) b (by simp; omega)
            rw [scr_put c0 c1 c2, app_ins, h1, costS_ins, h2, lev_put c0 c1 c2]
            exact ⟨rfl, rfl, by simp at h3 ⊢; omega⟩

theorem scr_app (a b : List UInt8) : app a (scr a b) = some b := (scr_all _ a b (Nat.le_refl _)).1
theorem scr_cost (a b : List UInt8) : costS (scr a b) = lev false a b := (scr_all _ a b (Nat.le_refl _)).2.1
theorem scr_length (a b : List UInt8) : (scr a b).length ≤ 2 * (a.length + b.length) := (scr_all _ a b (Nat.le_refl _)).2.2

end Go.Proofs.YtpmfabpnjacegaaGreatDoor

/-
  A block of cells that the call stores into; a row of least costs in it. By an AI agent.
-/
namespace Go.Proofs.YtpmfabpnjacegaaGreatDoor
open Go.RowKit
set_option linter.unusedVariables false

/-- block g holds the cells cs of type t -/
def BlkV (w : World) (g : Nat) (t : TypeId) (cs : Array Value) : Prop := w.heap[g]? = some (.cells cs t (0, 0))

theorem BlkV.cell {w : World} {g : Nat} {t : TypeId} {cs : Array Value} (h : BlkV w g t cs) (i : Nat) : w.cell? ⟨g, i, none⟩ = cs[i]? := cell_of_row w g i cs t (0, 0) h
theorem BlkV.frozen {w : World} {g : Nat} {t : TypeId} {cs : Array Value} (h : BlkV w g t cs) (i : Nat) : w.frozen? ⟨g, i, none⟩ = false := by
  unfold BlkV at h
  simp [World.frozen?, h]
theorem BlkV.lt {w : World} {g : Nat} {t : TypeId} {cs : Array Value} (h : BlkV w g t cs) : g < w.heap.size := (Array.getElem?_eq_some_iff.1 h).1
theorem BlkV.new (w : World) (t : TypeId) (cs : Array Value) : BlkV (w.alloc (.cells cs t)) w.heap.size t cs := heap_alloc_new w _
theorem BlkV.set_ {w : World} {g : Nat} {t : TypeId} {cs : Array Value} (h : BlkV w g t cs) (i : Nat) (u : Value) : BlkV (w.setCell ⟨g, i, none⟩ u) g t (cs.setIfInBounds i u) := by
  unfold BlkV at h ⊢
  simp [World.setCell, Array.getElem?_modify, h]
theorem BlkV.row {w : World} {g : Nat} {t : TypeId} {cs : Array Value} (h : BlkV w g t cs) (cs' : Array Value) : BlkV (w.setRow g cs') g t cs' := setRow_heap w g cs cs' t (0, 0) h
theorem BlkV.grown {w w' : World} {g : Nat} {t : TypeId} {cs : Array Value} {row : Option Nat} (h : BlkV w g t cs) (hg : w.grownBy w' row) (hne : some g ≠ row) : BlkV w' g t cs := (hg.block g h.lt hne).trans h
theorem BlkV.n {w : World} {g : Nat} {t : TypeId} {cs : Array Value} (h : BlkV w g t cs) (k : Nat) : BlkV (w.drewN k) g t cs := h
theorem BlkV.alloc {w : World} {g : Nat} {t : TypeId} {cs : Array Value} (h : BlkV w g t cs) (o : Obj) : BlkV (w.alloc o) g t cs := h.grown (World.grownBy_alloc w o none) (by simp)
theorem BlkV.below {w w' : World} {g : Nat} {t : TypeId} {cs : Array Value} (h : BlkV w g t cs) (hb : Below w.heap.size w w') : BlkV w' g t cs := (hb.block g h.lt).trans h

theorem egrown_set (w : World) (g i : Nat) (u : Value) : w.grownBy (w.setCell ⟨g, i, none⟩ u) (some g) :=
  ⟨rfl, rfl, rfl, by simp [World.setCell], fun k _ hne => by
    have : k ≠ g := fun e => hne (by rw [e])
    simp [World.setCell, Array.getElem?_modify, Ne.symm this]⟩
theorem egrown_row (w : World) (g : Nat) (cs : Array Value) : w.grownBy (w.setRow g cs) (some g) :=
  ⟨rfl, rfl, rfl, by simp, fun k _ hne => setRow_other w g k cs (fun e => hne (by rw [e]))⟩
theorem egrown_n {a b : World} {row : Option Nat} (h : a.grownBy b row) (n : Nat) : a.grownBy (b.drewN n) row := ⟨h.os, h.tape, h.output, h.size, h.block⟩

theorem belowN {base : Nat} {w w' : World} (h : Below base w w') (n : Nat) : Below base w (w'.drewN n) := ⟨h.os, h.tape, h.output, h.size, h.block⟩
theorem below_grown {base g : Nat} {w0 w w' : World} (h : Below base w0 w) (hg : w.grownBy w' (some g)) (hb : base ≤ g) (hs : base ≤ w.heap.size) : Below base w0 w' :=
  h.grown hg hs (fun k hk => by cases hk; exact hb)

theorem toNat_lt_maxLen {n : Nat} (h : n ≤ 100000) : n ≤ maxLen := by unfold maxLen; omega

def intC (n : Nat) : Value := .int .i64 (n : Int)

/-- the row of A at o, filled from k on; ahead of k the costs behind a byte that is kept or replaced -/
def FillAt (sw : Bool) (A B : List UInt8) (cs0 cs : Array Value) (o k : Nat) : Prop :=
  cs.size = cs0.size ∧ (∀ q, k ≤ q → q ≤ B.length → cs[o + q]? = some (intC (lev sw A (B.drop q)))) ∧
    (∀ q, q < k → cs[o + q]? = some (intC (lev sw A.tail (B.drop (q + 1))))) ∧ ∀ p, p < o ∨ o + B.length + 1 ≤ p → cs[p]? = cs0[p]?

theorem set_at {cs : Array Value} {p : Nat} {u : Value} (h : p < cs.size) : (cs.setIfInBounds p u)[p]? = some u := by
  rw [Array.getElem?_setIfInBounds]; simp [h]
theorem set_ne {cs : Array Value} {p q : Nat} {u : Value} (h : p ≠ q) : (cs.setIfInBounds p u)[q]? = cs[q]? := by
  rw [Array.getElem?_setIfInBounds]; simp [h]

theorem FillAt.set {sw : Bool} {A B : List UInt8} {cs0 cs : Array Value} {o k : Nat} (h : FillAt sw A B cs0 cs o (k + 1)) (hk : k ≤ B.length) (hs : o + B.length < cs0.size) {u : Value} (hu : u = intC (lev sw A (B.drop k))) :
    FillAt sw A B cs0 (cs.setIfInBounds (o + k) u) o k := by
  obtain ⟨h1, h2, h3, h4⟩ := h
  refine ⟨by simp [h1], fun q hq hqB => ?_, fun q hq => ?_, fun p hp => ?_⟩
  · by_cases e : k = q
    · subst e
      rw [set_at (by rw [h1]; omega), hu]
    · rw [set_ne (by omega)]
      exact h2 q (by omega) hqB
  · rw [set_ne (by omega)]
    exact h3 q (by omega)
  · rw [set_ne (by omega)]
    exact h4 p hp
theorem FillAt.same {sw : Bool} {A B : List UInt8} {cs0 cs : Array Value} {o k : Nat} (h : FillAt sw A B cs0 cs o (k + 1)) (hk : k ≤ B.length) (hu : lev sw A.tail (B.drop (k + 1)) = lev sw A (B.drop k)) :
    FillAt sw A B cs0 cs o k := by
  obtain ⟨h1, h2, h3, h4⟩ := h
  refine ⟨h1, fun q hq hqB => ?_, fun q hq => h3 q (by omega), h4⟩
  by_cases e : k = q
  · subst e
    rw [h3 k (by omega), hu]
  · exact h2 q (by omega) hqB
/-- a store at k that is stored over again: the cells of the row are open there -/
def FillOpen (sw : Bool) (A B : List UInt8) (cs0 cs : Array Value) (o k : Nat) (m : Nat) : Prop :=
  FillAt sw A B cs0 (cs.setIfInBounds (o + k) (intC (lev sw A (B.drop k)))) o k ∧ cs.size = cs0.size ∧ cs[o + k]? = some (intC m)

theorem FillAt.opens {sw : Bool} {A B : List UInt8} {cs0 cs : Array Value} {o k : Nat} (h : FillAt sw A B cs0 cs o (k + 1)) (hk : k ≤ B.length) (hs : o + B.length < cs0.size) :
    FillOpen sw A B cs0 cs o k (lev sw A.tail (B.drop (k + 1))) := ⟨h.set hk hs rfl, h.1, h.2.2.1 k (by omega)⟩
theorem FillOpen.set {sw : Bool} {A B : List UInt8} {cs0 cs : Array Value} {o k m : Nat} (h : FillOpen sw A B cs0 cs o k m) (hs : o + k < cs0.size) {u : Value} {m' : Nat} (hu : u = intC m') :
    FillOpen sw A B cs0 (cs.setIfInBounds (o + k) u) o k m' := by
  obtain ⟨h1, h2, h3⟩ := h
  refine ⟨?_, by simp [h2], ?_⟩
  · rw [Array.setIfInBounds_setIfInBounds]
    exact h1
  · rw [set_at (by rw [h2]; exact hs), hu]
theorem FillOpen.far {sw : Bool} {A B : List UInt8} {cs0 cs : Array Value} {o k m : Nat} (h : FillOpen sw A B cs0 cs o k m) (hk : k ≤ B.length) {p : Nat} (hp : o + B.length + 1 ≤ p) : cs[p]? = cs0[p]? := by
  rw [← h.1.2.2.2 p (.inr hp), set_ne (by omega)]
theorem FillOpen.shut {sw : Bool} {A B : List UInt8} {cs0 cs : Array Value} {o k m : Nat} (h : FillOpen sw A B cs0 cs o k m) (hs : o + k < cs0.size) (hm : m = lev sw A (B.drop k)) : FillAt sw A B cs0 cs o k := by
  obtain ⟨h1, h2, h3⟩ := h
  subst hm
  have hlt : o + k < cs.size := by rw [h2]; exact hs
  have e : cs.setIfInBounds (o + k) (intC (lev sw A (B.drop k))) = cs := by
    apply Array.ext_getElem?
    intro p
    by_cases e : o + k = p
    · subst e
      rw [set_at hlt, h3]
    · rw [set_ne e]
  rw [e] at h1
  exact h1

/-- the cells behind copy(row, below[1:]) -/
theorem copied (cs0 : Array Value) (o W : Nat) (hW : 1 ≤ W) (hs : o + 2 * W ≤ cs0.size) : ∃ (l : List Value) (cs1 : Array Value), l.length = W - 1 ∧ (∀ q, q < W - 1 → l[q]? = cs0[o + W + (1 + q)]?) ∧
    cs1 = (cs0.toList.take o ++ l ++ cs0.toList.drop (o + l.length)).toArray ∧ cs1.size = cs0.size ∧ (∀ q, q < W - 1 → cs1[o + q]? = cs0[o + W + (1 + q)]?) ∧
    ∀ p, p < o ∨ o + (W - 1) ≤ p → cs1[p]? = cs0[p]? := by
  have hlen : cs0.toList.length = cs0.size := by simp
  refine ⟨(cs0.toList.drop (o + W + 1)).take (W - 1), _, by simp; omega, fun q hq => ?_, rfl, ?_, fun q hq => ?_, fun p hp => ?_⟩
  · rw [List.getElem?_take_of_lt hq, List.getElem?_drop, Array.getElem?_toList]
    congr 1; omega
  · simp; omega
  · rw [List.getElem?_toArray, List.append_assoc, List.getElem?_append_right (by simp; omega)]
    have e : o + q - (cs0.toList.take o).length = q := by simp; omega
    rw [e, List.getElem?_append_left (by simp; omega), List.getElem?_take_of_lt hq, List.getElem?_drop, Array.getElem?_toList]
    congr 1; omega
  · rw [List.getElem?_toArray]
    rcases hp with hp | hp
    · rw [List.append_assoc, List.getElem?_append_left (by simp; omega), List.getElem?_take_of_lt hp, Array.getElem?_toList]
    · have e2 : ((cs0.toList.drop (o + W + 1)).take (W - 1)).length = W - 1 := by simp; omega
      have e1 : (cs0.toList.take o ++ (cs0.toList.drop (o + W + 1)).take (W - 1)).length = o + (W - 1) := by rw [List.length_append, e2]; simp; omega
      rw [List.getElem?_append_right (by rw [e1]; exact hp), e1, List.getElem?_drop, e2, Array.getElem?_toList]
      congr 1; omega

/-- copy(row, below[1:]) -/
theorem run_copied (w : World) (gc o W : Nat) (src : Addr) (cs0 : Array Value) (l : List Value) (cs1 : Array Value) (hB : BlkV w gc 3 cs0) (hl : l.length = W - 1) (hW : 1 ≤ W) (hs : o + 2 * W ≤ cs0.size)
    (hsrc : ∀ q, q < W - 1 → ∃ n, l[q]? = some (intC n) ∧ w.cell? (src.add q) = some (intC n)) (h1 : cs1 = (cs0.toList.take o ++ l ++ cs0.toList.drop (o + l.length)).toArray) :
    ∃ w2, (Builtin.copy_ #[27, 27] 3 #[.slice (some ⟨gc, o, none⟩) W W, .slice (some src) (W - 1) (W - 1)]).run Tryz.prog w = .ok (goInt l.length) w2 ∧ BlkV w2 gc 3 cs1 ∧ w.grownBy w2 (some gc) := by
  refine ⟨_, run_copy_row Tryz.prog w 27 27 3 3 gc o W W src (W - 1) (W - 1) cs0 3 l Tryz.underlying27 (by kernel_rfl) hB ?_ ?_ ?_ ?_, ?_, ?_⟩
  · rw [hl]
    exact (Nat.min_eq_left (by omega)).symm
  · intro j v hv
    obtain ⟨n, e1, e2⟩ := hsrc j (by rw [← hl]; exact (List.getElem?_eq_some_iff.1 hv).1)
    rw [e2, ← e1, hv]
  · rw [hl]; omega
  · intro v hv
    obtain ⟨j, hj⟩ := List.getElem?_of_mem hv
    obtain ⟨n, e1, e2⟩ := hsrc j (by rw [← hl]; exact (List.getElem?_eq_some_iff.1 hj).1)
    rw [hj] at e1
    cases e1
    rfl
  · rw [h1]; exact hB.row _
  · rw [← h1]; exact egrown_row _ _ _

/-- what lies below the row -/
def BelowAt (sw : Bool) (A B : List UInt8) (cs : Array Value) (o : Nat) : Prop :=
  o + 2 * (B.length + 1) ≤ cs.size ∧ (∀ q, q ≤ B.length → cs[o + (B.length + 1) + q]? = some (intC (lev sw A.tail (B.drop q)))) ∧
    (1 < A.length → o + 3 * (B.length + 1) ≤ cs.size ∧ ∀ q, q ≤ B.length → cs[o + 2 * (B.length + 1) + q]? = some (intC (lev sw A.tail.tail (B.drop q))))

theorem BelowAt.fill {sw : Bool} {A B : List UInt8} {cs0 cs : Array Value} {o k : Nat} (h : BelowAt sw A B cs0 o) (hf : FillAt sw A B cs0 cs o k) : BelowAt sw A B cs o := by
  obtain ⟨h1, h2, h3⟩ := h
  obtain ⟨f1, f2, f3, f4⟩ := hf
  refine ⟨by rw [f1]; exact h1, fun q hq => ?_, fun hA => ⟨by rw [f1]; exact (h3 hA).1, fun q hq => ?_⟩⟩
  · rw [f4 _ (.inr (by omega))]; exact h2 q hq
  · rw [f4 _ (.inr (by omega))]; exact (h3 hA).2 q hq

end Go.Proofs.YtpmfabpnjacegaaGreatDoor

/-
  Rows of the call's own of any elements: what is read of them, what is kept; blocks of two and of three cells. By an AI agent.
-/
namespace Go.Proofs.YtpmfabpnjacegaaGreatDoor
open Go.RowKit
set_option linter.unusedVariables false

/-- what is written into the blocks from lo on and below hi alone -/
structure Chg (w w' : World) (lo hi : Nat) : Prop where
  os : w'.os = w.os
  tape : w'.tape = w.tape
  output : w'.output = w.output
  size : w.heap.size ≤ w'.heap.size
  block : ∀ k, k < w.heap.size → ¬ (lo ≤ k ∧ k < hi) → w'.heap[k]? = w.heap[k]?
theorem Chg.refl (w : World) (lo hi : Nat) : Chg w w lo hi := ⟨rfl, rfl, rfl, Nat.le_refl _, fun _ _ _ => rfl⟩
theorem Chg.grown {w w1 w2 : World} {lo hi : Nat} {r : Option Nat} (h : Chg w w1 lo hi) (hg : w1.grownBy w2 r) (hr : ∀ k, r = some k → lo ≤ k ∧ k < hi) : Chg w w2 lo hi :=
  ⟨hg.os.trans h.os, hg.tape.trans h.tape, hg.output.trans h.output, Nat.le_trans h.size hg.size, fun k hk hn => (hg.block k (Nat.lt_of_lt_of_le hk h.size) (fun e => hn (hr k e.symm))).trans (h.block k hk hn)⟩
theorem below_chg {w0 w w' : World} {lo hi : Nat} (hb : Below w0.heap.size w0 w) (h : Chg w w' lo hi) (hlo : w0.heap.size ≤ lo) : Below w0.heap.size w0 w' :=
  ⟨h.os.trans hb.os, h.tape.trans hb.tape, h.output.trans hb.output, Nat.le_trans hb.size h.size, fun k hk => (h.block k (Nat.lt_of_lt_of_le hk hb.size) (by omega)).trans (hb.block k hk)⟩
theorem row_chg {w w' : World} {lo hi base : Nat} {e : TypeId} {size n : Nat} {v : Value} {xs : List Value} (h : w.ownsRow base e size v n xs) (hc : Chg w w' lo hi) (hn : ∀ k, v.ownBlock = some k → ¬ (lo ≤ k ∧ k < hi)) : w'.ownsRow base e size v n xs := by
  refine ⟨h.1, ?_⟩
  rcases h.2 with h1 | ⟨g, cap, cur, rfl, hb, hg, rest⟩
  · exact .inl h1
  · exact .inr ⟨g, cap, cur, rfl, hb, (hc.block g (Array.getElem?_eq_some_iff.1 hg).1 (hn g rfl)).trans hg, rest⟩
theorem OwnH.chg {w w' : World} {lo hi lo' hi' : Nat} {v : Value} {l : List Str} (h : OwnH w lo hi v l) (hc : Chg w w' lo' hi') (hd : hi ≤ lo' ∨ hi' ≤ lo) : OwnH w' lo hi v l :=
  ⟨row_chg h.1 hc fun k hk => by have := h.row k hk; omega, h.2⟩
theorem cell_own {w : World} {base : Nat} {e : TypeId} {a : Option Addr} {n cap : Nat} {xs : List Value} (h : w.ownsRow base e 1 (.slice a n cap) n xs) (h0 : 0 < n) : ∃ g, a = some ⟨g, 0, none⟩ ∧ base ≤ g ∧ g < w.heap.size ∧ ∀ j u, xs[j]? = some u → w.cell? ⟨g, 0 + j, none⟩ = some u := by
  rcases h.2 with ⟨_, h1⟩ | ⟨g, cap', cur, hv, hb, hg, _, _, _, ht⟩
  · omega
  · simp only [Value.slice.injEq] at hv
    refine ⟨g, hv.1, hb, (Array.getElem?_eq_some_iff.1 hg).1, fun j u hj => ?_⟩
    have hlt := (List.getElem?_eq_some_iff.1 hj).1
    rw [h.1] at hlt
    rw [Nat.zero_add, cell_of_row w g j cur _ (0, 0) hg, ← Array.getElem?_toList]
    have h2 : (cur.toList.take (n * 1))[j]? = xs[j]? := by rw [ht]
    rw [List.getElem?_take_of_lt hlt] at h2
    rw [h2, hj]

theorem row_mono {w : World} {base base' : Nat} {e : TypeId} {size n : Nat} {v : Value} {xs : List Value} (h : w.ownsRow base e size v n xs) (hb : base' ≤ base) : w.ownsRow base' e size v n xs := by
  refine ⟨h.1, ?_⟩
  rcases h.2 with hn | ⟨g, cap', cur, hv, hbg, rest⟩
  · exact .inl hn
  · exact .inr ⟨g, cap', cur, hv, Nat.le_trans hb hbg, rest⟩
theorem rowX_none {w : World} {base : Nat} {e : TypeId} {size : Nat} {a : Option Addr} {n cap : Nat} {xs : List Value} (h : w.ownsRow base e size (.slice a n cap) n xs) : a = none → cap = 0 := by
  intro e
  rcases h.2 with ⟨hv, h1⟩ | ⟨g, cap', cur, hv, _⟩
  · simp only [Value.slice.injEq] at hv
    exact hv.2.2
  · simp only [Value.slice.injEq] at hv
    rw [e] at hv
    cases hv.1
theorem rowX_cap {w : World} {base : Nat} {e : TypeId} {size : Nat} {a : Option Addr} {n cap : Nat} {xs : List Value} (h : w.ownsRow base e size (.slice a n cap) n xs) : n ≤ cap := by
  rcases h.2 with ⟨hv, h1⟩ | ⟨g, cap', cur, hv, _, _, h2, _⟩
  · omega
  · simp only [Value.slice.injEq] at hv
    omega
theorem rowX_at {w : World} {base : Nat} {e : TypeId} {size : Nat} {a : Option Addr} {n cap : Nat} {xs : List Value} (h : w.ownsRow base e size (.slice a n cap) n xs) (h0 : 0 < n) : ∃ g, a = some ⟨g, 0, none⟩ ∧ base ≤ g ∧ g < w.heap.size ∧ ∀ (j : Nat) (u : Value), xs[j]? = some u → w.cell? ⟨g, 0 + j, none⟩ = some u := by
  rcases h.2 with ⟨_, h1⟩ | ⟨g, cap', cur, hv, hb, hg, _, _, _, ht⟩
  · omega
  · simp only [Value.slice.injEq] at hv
    refine ⟨g, hv.1, hb, (Array.getElem?_eq_some_iff.1 hg).1, fun j u hj => ?_⟩
    have hlt := (List.getElem?_eq_some_iff.1 hj).1
    rw [h.1] at hlt
    rw [Nat.zero_add, cell_of_row w g j cur _ (0, 0) hg, ← Array.getElem?_toList]
    have h2 : (cur.toList.take (n * size))[j]? = xs[j]? := by rw [ht]
    rw [List.getElem?_take_of_lt hlt] at h2
    rw [h2, hj]

theorem BlkV.two0 {w : World} {g : Nat} {t : TypeId} {a b : Value} (h : BlkV w g t #[a, b]) : w.cell? ⟨g, 0, none⟩ = some a := h.cell 0
theorem BlkV.two1 {w : World} {g : Nat} {t : TypeId} {a b : Value} (h : BlkV w g t #[a, b]) : w.cell? ⟨g, 1, none⟩ = some b := h.cell 1
theorem BlkV.three0 {w : World} {g : Nat} {t : TypeId} {a b c : Value} (h : BlkV w g t #[a, b, c]) : w.cell? ⟨g, 0, none⟩ = some a := h.cell 0
theorem BlkV.three1 {w : World} {g : Nat} {t : TypeId} {a b c : Value} (h : BlkV w g t #[a, b, c]) : w.cell? ⟨g, 1, none⟩ = some b := h.cell 1
theorem BlkV.three2 {w : World} {g : Nat} {t : TypeId} {a b c : Value} (h : BlkV w g t #[a, b, c]) : w.cell? ⟨g, 2, none⟩ = some c := h.cell 2
theorem BlkV.other {w : World} {g : Nat} {t : TypeId} {cs : Array Value} (h : BlkV w g t cs) (p : Addr) (u : Value) (hne : g ≠ p.block) : BlkV (w.setCell p u) g t cs := (Below.heap_setCell w p u g hne).trans h
theorem BlkV.new_ (w : World) (t : TypeId) (cs : Array Value) (g : Nat) (hg : w.heap.size = g) : BlkV (w.alloc (.cells cs t)) g t cs := by subst hg; exact BlkV.new w t cs
theorem row_setCell {w : World} {base : Nat} {e : TypeId} {size n : Nat} {v : Value} {xs : List Value} (h : w.ownsRow base e size v n xs) (p : Addr) (u : Value) (hp : p.block < base) : (w.setCell p u).ownsRow base e size v n xs := by
  refine World.ownsRow.kept (w' := w.setCell p u) h (row := some p.block) ⟨rfl, rfl, rfl, by simp [World.setCell], fun i hi hne => Below.heap_setCell w p u i (fun e => hne (by rw [e]))⟩ ?_
  cases hv : v.ownBlock with
  | none => exact .inl rfl
  | some k =>
    refine .inr fun e => ?_
    have h1 := (World.ownsRow.lt h k hv).1
    simp only [Option.some.injEq] at e
    omega
theorem gap2_at {p : List Value} {k : Nat} {y0 y1 : Value} {r : List Value} (h : p.length = k * 2) : (p ++ y0 :: y1 :: r)[k * 2]? = some y0 ∧ (p ++ y0 :: y1 :: r)[k * 2 + 1]? = some y1 := by
  constructor
  · rw [List.getElem?_append_right (by omega), h, Nat.sub_self]; rfl
  · rw [List.getElem?_append_right (by omega), h, show k * 2 + 1 - k * 2 = 1 by omega]; rfl
theorem gap2_set {p : List Value} {k : Nat} {y0 y1 u0 u1 : Value} {r : List Value} (h : p.length = k * 2) : ((p ++ y0 :: y1 :: r).set (k * 2) u0).set (k * 2 + 1) u1 = (p ++ [u0, u1]) ++ r := by
  rw [List.set_append_right _ _ (by omega), h, Nat.sub_self, List.set_append_right _ _ (by omega), h, show k * 2 + 1 - k * 2 = 1 by omega]
  simp
theorem gap2_rest {p rest : List Value} {k n : Nat} (h : (p ++ rest).length = n * 2) (hp : p.length = k * 2) (hk : k < n) : ∃ y0 y1 r, rest = y0 :: y1 :: r := by
  rw [List.length_append, hp] at h
  match rest, h with
  | [], h => simp at h; omega
  | [_], h => simp at h; omega
  | y0 :: y1 :: r, _ => exact ⟨y0, y1, r, rfl⟩

theorem row_keptO {w w' : World} {base : Nat} {e : TypeId} {size n : Nat} {v : Value} {xs : List Value} {r : Option Nat} (h : w.ownsRow base e size v n xs) (hg : w.grownBy w' r) (hn : ∀ k, r = some k → v.ownBlock ≠ some k) : w'.ownsRow base e size v n xs := by
  refine World.ownsRow.kept h hg ?_
  cases hv : v.ownBlock with
  | none => exact .inl rfl
  | some k => exact .inr fun e => hn k e.symm hv
theorem Chg.trans {w w1 w2 : World} {lo hi : Nat} (h : Chg w w1 lo hi) (h' : Chg w1 w2 lo hi) : Chg w w2 lo hi :=
  ⟨h'.os.trans h.os, h'.tape.trans h.tape, h'.output.trans h.output, Nat.le_trans h.size h'.size, fun k hk hn => (h'.block k (Nat.lt_of_lt_of_le hk h.size) hn).trans (h.block k hk hn)⟩
theorem row_block {w w' : World} {base : Nat} {e : TypeId} {size n : Nat} {v : Value} {xs : List Value} (h : w.ownsRow base e size v n xs) (hb : ∀ k, v.ownBlock = some k → w'.heap[k]? = w.heap[k]?) : w'.ownsRow base e size v n xs := by
  refine ⟨h.1, ?_⟩
  rcases h.2 with h1 | ⟨g, cap, cur, rfl, hbg, hg, rest⟩
  · exact .inl h1
  · exact .inr ⟨g, cap, cur, rfl, hbg, (hb g rfl).trans hg, rest⟩

theorem row_kept {w w' : World} {base : Nat} {v : Value} {l : List Str} {g : Nat} (h : OwnS w base v l) (hg : w.grownBy w' (some g)) (hn : ∀ k, v.ownBlock = some k → k ≠ g) : OwnS w' base v l := by
  refine World.ownsRow.kept h hg ?_
  cases hv : v.ownBlock with
  | none => exact .inl rfl
  | some k => exact .inr fun e => hn k hv (by injection e)
theorem snoc_at {α : Type} {vs : List α} {u x : α} {j : Nat} (h : (vs ++ [u])[j]? = some x) : vs[j]? = some x ∨ (j = vs.length ∧ x = u) := by
  rcases Nat.lt_or_ge j vs.length with hlt | hge
  · rw [List.getElem?_append_left hlt] at h; exact .inl h
  · rw [List.getElem?_append_right hge] at h
    have : j - vs.length = 0 := by have := (List.getElem?_eq_some_iff.1 h).1; simp at this; omega
    rw [this] at h
    simp at h
    exact .inr ⟨by omega, h.symm⟩
theorem ss_row_at {vs rest : List Value} {k n : Nat} (h : (vs ++ rest).length = n) (hv : vs.length = k) (hk : k < n) : ∃ y r, rest = y :: r ∧ (vs ++ y :: r)[k]? = some y ∧ ∀ u, (vs ++ y :: r).set k u = (vs ++ [u]) ++ r := by
  match rest, h with
  | [], h => simp at h; omega
  | y :: r, _ =>
    refine ⟨y, r, rfl, ?_, fun u => ?_⟩
    · rw [List.getElem?_append_right (by omega), hv, Nat.sub_self]; rfl
    · rw [List.set_append_right _ _ (by omega), hv, Nat.sub_self, List.set_cons_zero]; simp

theorem two_cells (w : World) (x y : Value) (T : TypeId) : ∀ j u, [x, y][j]? = some u → (w.alloc (.cells #[x, y] T)).cell? ((⟨w.heap.size, 0, none⟩ : Addr).add j) = some u := by
  intro j u hj
  match j, hj with
  | 0, hj => simp at hj; subst hj; simp [go_sem, Addr.add]
  | 1, hj => simp at hj; subst hj; simp [go_sem, Addr.add]
/-- what is written into blocks that are newer changes nothing -/
theorem Chg.high {w w1 w2 : World} {lo hi : Nat} {r : Option Nat} (h : Chg w w1 lo hi) (hg : w1.grownBy w2 r) (hr : ∀ k, r = some k → (lo ≤ k ∧ k < hi) ∨ w.heap.size ≤ k) : Chg w w2 lo hi :=
  ⟨hg.os.trans h.os, hg.tape.trans h.tape, hg.output.trans h.output, Nat.le_trans h.size hg.size, fun k hk hn => (hg.block k (Nat.lt_of_lt_of_le hk h.size) (fun e => by rcases hr k e.symm with h1 | h1; exact hn h1; omega)).trans (h.block k hk hn)⟩
theorem Chg.belowR {w w1 w2 : World} {lo hi : Nat} (h : Chg w w1 lo hi) (hb : Below w1.heap.size w1 w2) : Chg w w2 lo hi :=
  ⟨hb.os.trans h.os, hb.tape.trans h.tape, hb.output.trans h.output, Nat.le_trans h.size hb.size, fun k hk hn => (hb.block k (Nat.lt_of_lt_of_le hk h.size)).trans (h.block k hk hn)⟩

end Go.Proofs.YtpmfabpnjacegaaGreatDoor

/-
  Slices of nodes of a diagram: one that reads as a list, one of the call's own. By an AI agent.
-/
namespace Go.Proofs.YtpmfabpnjacegaaGreatDoor
open Go.RowKit
set_option linter.unusedVariables false
set_option linter.unusedSimpArgs false
set_option linter.unnecessarySimpa false

def encDn (x : DN) : List Value := [.int .i64 x.1.1, .int .i64 x.1.2, .int .i64 x.2.1, .int .i64 x.2.2]
abbrev aggDn (x : DN) : Value := .agg #[.int .i64 x.1.1, .int .i64 x.1.2, .int .i64 x.2.1, .int .i64 x.2.2]
def flatDn (l : List DN) : List Value := l.flatMap encDn
theorem flatDn_nil : flatDn [] = [] := rfl
theorem flatDn_cons (x : DN) (l : List DN) : flatDn (x :: l) = .int .i64 x.1.1 :: .int .i64 x.1.2 :: .int .i64 x.2.1 :: .int .i64 x.2.2 :: flatDn l := by simp [flatDn, encDn]
theorem flatDn_len (l : List DN) : (flatDn l).length = l.length * 4 := by
  induction l with
  | nil => rfl
  | cons x l ih =>
    rw [flatDn_cons]
    simp only [List.length_cons, ih]
    omega
theorem flatDn_snoc (l : List DN) (x : DN) : flatDn (l ++ [x]) = flatDn l ++ encDn x := by simp [flatDn]
theorem flatDn_append (l m : List DN) : flatDn (l ++ m) = flatDn l ++ flatDn m := by simp [flatDn]
theorem flatDn_at : ∀ {l : List DN} {j : Nat} {x : DN}, l[j]? = some x → (flatDn l)[j * 4]? = some (.int .i64 x.1.1) ∧ (flatDn l)[j * 4 + 1]? = some (.int .i64 x.1.2) ∧ (flatDn l)[j * 4 + 2]? = some (.int .i64 x.2.1) ∧ (flatDn l)[j * 4 + 3]? = some (.int .i64 x.2.2)
  | [], j, x, h => by simp at h
  | y :: l, j, x, h => by
    rw [flatDn_cons]
    cases j with
    | zero =>
      simp at h
      subst h
      exact ⟨rfl, rfl, rfl, rfl⟩
    | succ j =>
      have h1 : l[j]? = some x := by simpa using h
      have h2 := flatDn_at h1
      rw [show (j + 1) * 4 = j * 4 + 1 + 1 + 1 + 1 by omega]
      exact h2
theorem encDn_one (x : DN) : ∀ v ∈ encDn x, v.oneCell' = true := by
  intro v hv
  simp [encDn] at hv
  rcases hv with rfl | rfl | rfl | rfl <;> rfl

/-- the cells of a node -/
def NodeAt (w : World) (b o : Nat) (x : DN) : Prop :=
  w.cell? ⟨b, o, none⟩ = some (.int .i64 x.1.1) ∧ w.cell? ⟨b, o + 1, none⟩ = some (.int .i64 x.1.2) ∧ w.cell? ⟨b, o + 2, none⟩ = some (.int .i64 x.2.1) ∧ w.cell? ⟨b, o + 3, none⟩ = some (.int .i64 x.2.2)
theorem NodeAt.of_block {w w' : World} {b o : Nat} {x : DN} (h : NodeAt w b o x) (hk : w'.heap[b]? = w.heap[b]?) : NodeAt w' b o x :=
  ⟨(World.cell?_of_block hk).trans h.1, (World.cell?_of_block hk).trans h.2.1, (World.cell?_of_block hk).trans h.2.2.1, (World.cell?_of_block hk).trans h.2.2.2⟩
/-- a slice whose elements are the nodes of a list -/
def InDn (w : World) (a : Option Addr) (l : List DN) : Prop :=
  0 < l.length → ∃ b off, a = some ⟨b, off, none⟩ ∧ b < w.heap.size ∧ ∀ j x, l[j]? = some x → NodeAt w b (off + j * 4) x
theorem InDn.keep {w w' : World} {a : Option Addr} {l : List DN} (h : InDn w a l) (hs : w.heap.size ≤ w'.heap.size) (hk : ∀ b off, a = some ⟨b, off, none⟩ → b < w.heap.size → w'.heap[b]? = w.heap[b]?) : InDn w' a l := by
  intro h0
  obtain ⟨b, off, ha, hlt, hc⟩ := h h0
  have hk := hk b off ha hlt
  exact ⟨b, off, ha, Nat.lt_of_lt_of_le hlt hs, fun j x hj => (hc j x hj).of_block hk⟩
theorem InDn.below {w w' : World} {a : Option Addr} {l : List DN} (h : InDn w a l) (hb : Below w.heap.size w w') : InDn w' a l := h.keep hb.size fun b _ _ hlt => hb.block b hlt
theorem InDn.alloc {w : World} {a : Option Addr} {l : List DN} (h : InDn w a l) (o : Obj) : InDn (w.alloc o) a l := h.below ((Below.refl _ _).alloc (Nat.le_refl _) o)
/-- the first nodes of a list -/
theorem InDn.take {w : World} {a : Option Addr} {l : List DN} (h : InDn w a l) (k : Nat) : InDn w a (l.take k) := by
  intro h0
  obtain ⟨b, off, ha, hlt, hc⟩ := h (by rw [List.length_take] at h0; omega)
  refine ⟨b, off, ha, hlt, fun j x hj => hc j x ?_⟩
  have := (List.getElem?_eq_some_iff.1 hj).1
  rw [List.length_take] at this
  rwa [List.getElem?_take_of_lt (by omega)] at hj

/-- a slice of the call's own -/
def OwnDn (w : World) (base : Nat) (v : Value) (l : List DN) : Prop := w.ownsRow base 59 4 v l.length (flatDn l)
theorem info_dn : (Tryz.prog.info? 59).map (fun i => (i.zero, i.size, i.bytes)) = some (some (.agg #[.int .i64 0, .int .i64 0, .int .i64 0, .int .i64 0]), 4, 32) := by kernel_rfl
theorem OwnDn.shape {w : World} {base : Nat} {v : Value} {l : List DN} (h : OwnDn w base v l) : ∃ a cap, v = .slice a l.length cap := by
  rcases h.2 with ⟨rfl, h0⟩ | ⟨g, cap, cur, rfl, _⟩
  · exact ⟨none, 0, by rw [h0]⟩
  · exact ⟨_, _, rfl⟩
theorem OwnDn.inDn {w : World} {base : Nat} {a : Option Addr} {n cap : Nat} {l : List DN} (h : OwnDn w base (.slice a n cap) l) : InDn w a l := by
  intro h0
  obtain ⟨a', cap', e⟩ := h.shape
  injection e with e1 e2 e3
  subst e2
  obtain ⟨g, rfl, _, hg, hc⟩ := rowX_at h h0
  refine ⟨g, 0, rfl, hg, fun j x hj => ?_⟩
  obtain ⟨h1, h2, h3, h4⟩ := flatDn_at hj
  exact ⟨hc _ _ h1, by rw [Nat.add_assoc]; exact hc _ _ h2, by rw [Nat.add_assoc]; exact hc _ _ h3, by rw [Nat.add_assoc]; exact hc _ _ h4⟩
theorem OwnDn.alloc {w : World} {base : Nat} {v : Value} {l : List DN} (h : OwnDn w base v l) (o : Obj) : OwnDn (w.alloc o) base v l := World.ownsRow.alloc h o
theorem OwnDn.below {w w' : World} {base : Nat} {v : Value} {l : List DN} (h : OwnDn w base v l) (hb : Below w.heap.size w w') : OwnDn w' base v l :=
  World.ownsRow.kept h (row := none) ⟨hb.os, hb.tape, hb.output, hb.size, fun i hi _ => hb.block i hi⟩ (by cases hv : v.ownBlock <;> simp)
theorem OwnDn.mono {w : World} {base base' : Nat} {v : Value} {l : List DN} (h : OwnDn w base v l) (hb : base' ≤ base) : OwnDn w base' v l := row_mono h hb
theorem OwnDn.nil (w : World) (base : Nat) : OwnDn w base (.slice none 0 0) [] := World.ownsRow_nil _ _ _ _
theorem OwnDn.setCell {w : World} {lo : Nat} {v : Value} {l : List DN} (h : OwnDn w lo v l) (p : Addr) (u : Value) (hp : p.block < lo) : OwnDn (w.setCell p u) lo v l := row_setCell h p u hp

/-- an argument of moderate size -/
def SmDn (w : World) (a : Option Addr) (l : List DN) (c : Nat) : Prop := InDn w a l ∧ (a = none → c = 0) ∧ l.length ≤ c ∧ l.length ≤ 4000000
theorem SmDn.below {w w' : World} {a : Option Addr} {l : List DN} {c : Nat} (h : SmDn w a l c) (hb : Below w.heap.size w w') : SmDn w' a l c := ⟨h.1.below hb, h.2⟩
theorem SmDn.alloc {w : World} {a : Option Addr} {l : List DN} {c : Nat} (h : SmDn w a l c) (o : Obj) : SmDn (w.alloc o) a l c := ⟨h.1.alloc o, h.2⟩
theorem SmDn.inDn {w : World} {a : Option Addr} {l : List DN} {c : Nat} (h : SmDn w a l c) : InDn w a l := h.1
theorem SmDn.len {w : World} {a : Option Addr} {l : List DN} {c : Nat} (h : SmDn w a l c) : l.length ≤ 4000000 := h.2.2.2
theorem SmDn.take {w : World} {a : Option Addr} {l : List DN} {c : Nat} (h : SmDn w a l c) (k : Nat) : SmDn w a (l.take k) c := ⟨h.1.take k, h.2.1, by have := h.2.2.1; rw [List.length_take]; omega, by have := h.2.2.2; rw [List.length_take]; omega⟩
theorem OwnDn.smDn {w : World} {base : Nat} {a : Option Addr} {n cap : Nat} {l : List DN} (h : OwnDn w base (.slice a n cap) l) (h1 : l.length ≤ 4000000) : SmDn w a l cap := by
  obtain ⟨a', cap', e⟩ := h.shape
  injection e with e1 e2 e3
  subst e2
  exact ⟨h.inDn, rowX_none h, rowX_cap h, h1⟩
/-- an element of a slice of nodes -/
theorem InDn.at_ {w : World} {a : Option Addr} {l : List DN} {j : Nat} (h : InDn w a l) (hj : j < l.length) : ∃ (b off : Nat) (f t u z : Int), a = some ⟨b, off, none⟩ ∧ b < w.heap.size ∧ l[j]? = some ((f, t), (u, z)) ∧ w.cell? ⟨b, off + j * 4, none⟩ = some (.int .i64 f) ∧ w.cell? ⟨b, off + j * 4 + 1, none⟩ = some (.int .i64 t) ∧ w.cell? ⟨b, off + j * 4 + 2, none⟩ = some (.int .i64 u) ∧ w.cell? ⟨b, off + j * 4 + 3, none⟩ = some (.int .i64 z) := by
  obtain ⟨b, off, ha, hlt, hc⟩ := h (by omega)
  have hx := List.getElem?_eq_getElem hj
  obtain ⟨h1, h2, h3, h4⟩ := hc j _ hx
  exact ⟨b, off, _, _, _, _, ha, hlt, hx, h1, h2, h3, h4⟩

/-- an argument of a law -/
def ArgDn (w : World) (a : Option Addr) (l : List DN) : Prop := InDn w a l ∧ l.length ≤ maxLen
theorem ArgDn.below {w w' : World} {a : Option Addr} {l : List DN} (h : ArgDn w a l) (hb : Below w.heap.size w w') : ArgDn w' a l := ⟨h.1.below hb, h.2⟩
theorem argDn_of {w : World} {x : Addr} {len cap : Nat} (hl : len ≤ cap) (hm : cap ≤ maxLen) (h : ∀ i, i < len → ∃ (f t u z : Int), w.cell? (x.add (i * 4)) = some (.int .i64 f) ∧ w.cell? (x.add (i * 4 + 1)) = some (.int .i64 t) ∧ w.cell? (x.add (i * 4 + 2)) = some (.int .i64 u) ∧ w.cell? (x.add (i * 4 + 3)) = some (.int .i64 z)) : ∃ L : List DN, len = L.length ∧ ArgDn w (some x) L := by
  obtain ⟨f, hf⟩ := Go.Deep.choose_lt (n := len) (p := fun i (q : DN) => w.cell? (x.add (i * 4)) = some (.int .i64 q.1.1) ∧ w.cell? (x.add (i * 4 + 1)) = some (.int .i64 q.1.2) ∧ w.cell? (x.add (i * 4 + 2)) = some (.int .i64 q.2.1) ∧ w.cell? (x.add (i * 4 + 3)) = some (.int .i64 q.2.2)) (fun i hi => by obtain ⟨f, t, u, z, h1⟩ := h i hi; exact ⟨((f, t), (u, z)), h1⟩)
  refine ⟨(List.range len).map f, by simp, fun h0 => ?_, by simp; omega⟩
  simp at h0
  obtain ⟨b, off, spot⟩ := x
  have hspot : spot = none := by simpa [Addr.add] using World.cell?_spot (hf 0 (by omega)).1
  subst hspot
  have hadd : ∀ j, (⟨b, off, none⟩ : Addr).add j = ⟨b, off + j, none⟩ := fun j => by unfold Addr.add; split <;> simp_all
  refine ⟨b, off, rfl, World.block_lt_of_cell? w _ (hf 0 (by omega)).1, fun j y hj => ?_⟩
  obtain ⟨hlt, he⟩ := List.getElem?_eq_some_iff.1 hj
  simp at hlt he
  obtain ⟨h1, h2, h3, h4⟩ := hf j hlt
  rw [hadd] at h1 h2 h3 h4
  subst he
  exact ⟨h1, h2, h3, h4⟩

theorem gap4_at {p : List Value} {k : Nat} {y0 y1 y2 y3 : Value} {r : List Value} (h : p.length = k * 4) : (p ++ y0 :: y1 :: y2 :: y3 :: r)[k * 4]? = some y0 ∧ (p ++ y0 :: y1 :: y2 :: y3 :: r)[k * 4 + 1]? = some y1 ∧ (p ++ y0 :: y1 :: y2 :: y3 :: r)[k * 4 + 2]? = some y2 ∧ (p ++ y0 :: y1 :: y2 :: y3 :: r)[k * 4 + 3]? = some y3 := by
  refine ⟨?_, ?_, ?_, ?_⟩
  · rw [List.getElem?_append_right (by omega), h, Nat.sub_self]; rfl
  · rw [List.getElem?_append_right (by omega), h, show k * 4 + 1 - k * 4 = 1 by omega]; rfl
  · rw [List.getElem?_append_right (by omega), h, show k * 4 + 2 - k * 4 = 2 by omega]; rfl
  · rw [List.getElem?_append_right (by omega), h, show k * 4 + 3 - k * 4 = 3 by omega]; rfl
theorem gap4_set {p : List Value} {k : Nat} {y0 y1 y2 y3 u0 u1 u2 u3 : Value} {r : List Value} (h : p.length = k * 4) : ((((p ++ y0 :: y1 :: y2 :: y3 :: r).set (k * 4) u0).set (k * 4 + 1) u1).set (k * 4 + 2) u2).set (k * 4 + 3) u3 = (p ++ [u0, u1, u2, u3]) ++ r := by
  rw [List.set_append_right _ _ (by omega), h, Nat.sub_self, List.set_append_right _ _ (by omega), h, show k * 4 + 1 - k * 4 = 1 by omega, List.set_append_right _ _ (by omega), h, show k * 4 + 2 - k * 4 = 2 by omega, List.set_append_right _ _ (by omega), h, show k * 4 + 3 - k * 4 = 3 by omega]
  simp
theorem gap4_rest {p rest : List Value} {k n : Nat} (h : (p ++ rest).length = n * 4) (hp : p.length = k * 4) (hk : k < n) : ∃ y0 y1 y2 y3 r, rest = y0 :: y1 :: y2 :: y3 :: r := by
  rw [List.length_append, hp] at h
  match rest, h with
  | [], h => simp at h; omega
  | [_], h => simp at h; omega
  | [_, _], h => simp at h; omega
  | [_, _, _], h => simp at h; omega
  | y0 :: y1 :: y2 :: y3 :: r, _ => exact ⟨y0, y1, y2, y3, r, rfl⟩

end Go.Proofs.YtpmfabpnjacegaaGreatDoor

/-
  Maps of the call's own whose keys are structs: tests without Below, nodes. By an AI agent.
-/
namespace Go.Proofs.YtpmfabpnjacegaaGreatDoor
open Go.RowKit Go.Maps
set_option linter.unusedVariables false
set_option linter.unusedSimpArgs false
set_option linter.unnecessarySimpa false

def heldK (v : Value) : Option (DataW Value × List MemPlace) := some (.held v, [])
theorem heldK_inv {v u : Value} {ps : List MemPlace} (h : heldK v = some (.held u, ps)) : v = u := by
  unfold heldK at h
  injection h with h
  injection h with h1 h2
  injection h1
/-- a key type, its keys and their literals -/
structure KeyOk {α : Type} (k : TypeId) (kl : α → Lit) (ke : α → Value) (ok : α → Prop) : Prop where
  keyed : Keyed Tryz.prog k
  of : ∀ x, ok x → keyOf Tryz.prog k (ke x) = some (kl x)
  inj : ∀ x y, ke x = ke y → x = y
def GMap {α : Type} (k : TypeId) (kl : α → Lit) (ok : α → Prop) (w : World) (b n : Nat) (f : α → Option Value) : Prop :=
  ∃ D : DataW Value, w.ownsMap Tryz.prog k heldK b n D ∧ (∀ x, ok x → Maps.has D (kl x) = (f x).isSome) ∧ ∀ x z, ok x → D.atKey (kl x) (.held z) = .held ((f x).getD z)
section
variable {α : Type} {k : TypeId} {kl : α → Lit} {ke : α → Value} {ok : α → Prop} {w w' : World} {b n : Nat} {f : α → Option Value}
theorem GMap.made (w : World) : GMap k kl ok (w.alloc (.map #[] 0)) w.heap.size 0 (fun _ => none) :=
  ⟨.map [], World.ownsMap_made _ _ _ _, fun x _ => by simp [Maps.has], fun x z _ => by simp [DataW.atKey]⟩
theorem GMap.kept {row : Option Nat} (h : GMap k kl ok w b n f) (hg : w.grownBy w' row) (hne : some b ≠ row) : GMap k kl ok w' b n f := by
  obtain ⟨D, h1, h2⟩ := h
  exact ⟨D, h1.kept hg hne, h2⟩
theorem GMap.lt (h : GMap k kl ok w b n f) : b < w.heap.size := by obtain ⟨D, h1, _⟩ := h; exact h1.lt
theorem GMap.below (h : GMap k kl ok w b n f) (hb : Below w.heap.size w w') : GMap k kl ok w' b n f :=
  h.kept (row := none) ⟨hb.os, hb.tape, hb.output, hb.size, fun i hi _ => hb.block i hi⟩ (by simp)
theorem GMap.mono {n' : Nat} (h : GMap k kl ok w b n f) (hn : n ≤ n') : GMap k kl ok w b n' f := by
  obtain ⟨D, h1, h2⟩ := h
  exact ⟨D, h1.mono hn, h2⟩
theorem GMap.look (h : GMap k kl ok w b n f) (K : KeyOk k kl ke ok) {t e : TypeId} (ht : Tryz.prog.underlying t = some (.map k e)) {z : Value} (hz : (zeroValue e).run Tryz.prog w = .ok z w) (y : α) (hy : ok y) :
    (Instr.lookup t (.map (some b)) (ke y) false).run Tryz.prog w = .ok ((f y).getD z) w := by
  obtain ⟨D, hown, _, hat⟩ := h
  obtain ⟨v, ps, hrun, hv⟩ := hown.lookup K.keyed ht hz (zd := .held z) (zp := []) rfl (K.of y hy)
  rw [hat y z hy] at hv
  rw [hrun, heldK_inv hv]
theorem GMap.look_ok (h : GMap k kl ok w b n f) (K : KeyOk k kl ke ok) {t e : TypeId} (ht : Tryz.prog.underlying t = some (.map k e)) {z : Value} (hz : (zeroValue e).run Tryz.prog w = .ok z w) (y : α) (hy : ok y) :
    (Instr.lookup t (.map (some b)) (ke y) true).run Tryz.prog w = .ok (.tuple #[(f y).getD z, .bool (f y).isSome]) w := by
  obtain ⟨D, hown, hhas, hat⟩ := h
  obtain ⟨v, ps, hrun, hv⟩ := hown.look_ok K.keyed ht hz (zd := .held z) (zp := []) rfl (K.of y hy)
  rw [hat y z hy] at hv
  rw [hrun, heldK_inv hv, hhas y hy]
theorem GMap.store [DecidableEq α] (h : GMap k kl ok w b n f) (K : KeyOk k kl ke ok) {t e : TypeId} (ht : Tryz.prog.underlying t = some (.map k e)) (hn : n < maxLen) (y : α) (hy : ok y) (u : Value) :
    ∃ w', (Instr.mapUpdate t (.map (some b)) (ke y) u).run Tryz.prog w = .ok () w' ∧ GMap k kl ok w' b (n + 1) (fun x => if x = y then some u else f x) ∧ w.grownBy w' (some b) := by
  obtain ⟨D, hown, hhas, hat⟩ := h
  obtain ⟨w', hrun, h1, h2⟩ := hown.update K.keyed ht hn (K.of y hy) (show heldK u = some (.held u, []) from rfl)
  have hD : Maps.IsMap D := by obtain ⟨es, _, _, _, _, e⟩ := hown; exact ⟨_, e⟩
  have hne : ∀ x, ok x → x ≠ y → kl x ≠ kl y := fun x hx hxy e => hxy (K.inj x y (K.keyed.inj (K.of x hx) (by rw [e]; exact K.of y hy)))
  refine ⟨w', hrun, ⟨_, h1, fun x hx => ?_, fun x z hx => ?_⟩, h2⟩
  · by_cases e : x = y
    · subst e
      rw [Maps.has_put_same hD (K.keyed.key (K.of x hx))]; simp
    · rw [Maps.has_put_other (hne x hx e), hhas x hx]; simp [e]
  · by_cases e : x = y
    · subst e
      rw [Maps.atKey_put_same hD (K.keyed.key (K.of x hx))]; simp
    · rw [Maps.atKey_put_other (hne x hx e), hat x z hx]; simp [e]
end

set_option maxRecDepth 100000 in
theorem laidOutK : laidOutB Tryz.prog = true := by kernel_rfl
set_option maxRecDepth 100000 in
theorem rowKT : (86 : TypeId) < Tryz.prog.types.size := of_decide_eq_true (by kernel_rfl)
set_option maxRecDepth 100000 in
theorem rowKN : (59 : TypeId) < Tryz.prog.types.size := of_decide_eq_true (by kernel_rfl)
theorem wideKT : (match Tryz.prog.underlying 86 with | some (.array _ _) | some (.struct _) => true | _ => false) = true := by rw [Tryz.underlying86]
theorem wideKN : (match Tryz.prog.underlying 59 with | some (.array _ _) | some (.struct _) => true | _ => false) = true := by rw [Tryz.underlying59]
set_option maxRecDepth 100000 in
theorem lawKT : WideMaps.KeyLaw Tryz.prog 86 := deep_law_laid laidOutK (m := 3) (by omega) rowKT (by kernel_rfl) wideKT
set_option maxRecDepth 100000 in
theorem lawKN : WideMaps.KeyLaw Tryz.prog 59 := deep_law_laid laidOutK (m := 3) (by omega) rowKN (by kernel_rfl) wideKN

def okV (p : IQ) : Prop := (Lit.int .i64 p.1).wf = true ∧ (Lit.int .i64 p.2).wf = true
def okN (x : DN) : Prop := ((Lit.int .i64 x.1.1).wf = true ∧ (Lit.int .i64 x.1.2).wf = true) ∧ (Lit.int .i64 x.2.1).wf = true ∧ (Lit.int .i64 x.2.2).wf = true
def klV (p : IQ) : Lit := .string (keyBytes [.int .i64 p.1, .int .i64 p.2, .bool false])
def klN (x : DN) : Lit := .string (keyBytes [.int .i64 x.1.1, .int .i64 x.1.2, .int .i64 x.2.1, .int .i64 x.2.2])
def keV (p : IQ) : Value := .agg #[.int .i64 p.1, .int .i64 p.2, .bool false]
def keN (x : DN) : Value := .agg #[.int .i64 x.1.1, .int .i64 x.1.2, .int .i64 x.2.1, .int .i64 x.2.2]
theorem cellsKT : Tryz.prog.cellsOf 86 = 3 := by kernel_rfl
theorem cellsKN : Tryz.prog.cellsOf 59 = 4 := by kernel_rfl
theorem cellsKI : Tryz.prog.cellsOf 3 = 1 := by kernel_rfl
theorem cellsKB : Tryz.prog.cellsOf 4 = 1 := by kernel_rfl
theorem typeKT : Tryz.prog.keyType 86 = true := by kernel_rfl
theorem typeKN : Tryz.prog.keyType 59 = true := by kernel_rfl
theorem sizeK {n : Nat} (h : 0 < n) : ∃ m, n + 1 = m + 2 := ⟨n - 1, by omega⟩
theorem posK : 0 < Tryz.prog.types.size := Nat.lt_of_le_of_lt (Nat.zero_le _) rowKT
set_option maxRecDepth 100000 in
theorem lits_T (m : Nat) (p : IQ) (h : okV p) : Tryz.prog.keyLits (m + 2) 86 [.int .i64 p.1, .int .i64 p.2, .bool false] = some [.int .i64 p.1, .int .i64 p.2, .bool false] := by
  have h1 := h.1
  have h2 := h.2
  simp [Program.keyLits, cellsKT, cellsKI, cellsKB, Tryz.underlying86, Tryz.underlying3, Tryz.underlying4, h1, h2]
set_option maxRecDepth 100000 in
theorem lits_N (m : Nat) (x : DN) (h : okN x) : Tryz.prog.keyLits (m + 2) 59 [.int .i64 x.1.1, .int .i64 x.1.2, .int .i64 x.2.1, .int .i64 x.2.2] = some [.int .i64 x.1.1, .int .i64 x.1.2, .int .i64 x.2.1, .int .i64 x.2.2] := by
  have h1 := h.1.1
  have h2 := h.1.2
  have h3 := h.2.1
  have h4 := h.2.2
  simp [Program.keyLits, cellsKN, cellsKI, Tryz.underlying59, Tryz.underlying3, h1, h2, h3, h4]
theorem formT (p : IQ) : (keV p).formed Tryz.prog 86 = true := by
  unfold keV
  simp [Value.formed, Tryz.underlying86, cellsKT]
theorem formN (x : DN) : (keN x).formed Tryz.prog 59 = true := by
  unfold keN
  simp [Value.formed, Tryz.underlying59, cellsKN]
theorem of_V (p : IQ) (h : okV p) : keyOf Tryz.prog 86 (keV p) = some (klV p) := by
  obtain ⟨m, hm⟩ := sizeK posK
  have h1 : Tryz.prog.keyLits (Tryz.prog.types.size + 1) 86 (keV p).cells.toList = some [.int .i64 p.1, .int .i64 p.2, .bool false] := by rw [hm]; exact lits_T m p h
  unfold keyOf
  rw [Tryz.underlying86]
  show (if _ then _ else _) = _
  rw [if_pos (by rw [typeKT, formT]; rfl), h1]
  rfl
theorem of_N (x : DN) (h : okN x) : keyOf Tryz.prog 59 (keN x) = some (klN x) := by
  obtain ⟨m, hm⟩ := sizeK posK
  have h1 : Tryz.prog.keyLits (Tryz.prog.types.size + 1) 59 (keN x).cells.toList = some [.int .i64 x.1.1, .int .i64 x.1.2, .int .i64 x.2.1, .int .i64 x.2.2] := by rw [hm]; exact lits_N m x h
  unfold keyOf
  rw [Tryz.underlying59]
  show (if _ then _ else _) = _
  rw [if_pos (by rw [typeKN, formN]; rfl), h1]
  rfl
theorem keyV : KeyOk 86 klV keV okV := ⟨Keyed.of_law lawKT, of_V, fun x y e => by
  unfold keV at e
  injection e with e
  simp at e
  exact Prod.ext e.1 e.2⟩
theorem keyN' : KeyOk 59 klN keN okN := ⟨Keyed.of_law lawKN, of_N, fun x y e => by
  unfold keN at e
  injection e with e
  simp at e
  exact Prod.ext (Prod.ext e.1 e.2.1) (Prod.ext e.2.2.1 e.2.2.2)⟩
theorem wf_small {z : Int} (h : -1000000000 ≤ z) (h2 : z ≤ 1000000000) : (Lit.int .i64 z).wf = true := by
  have e : IntKind.i64.min = -9223372036854775808 := by rfl
  simp [Lit.wf, e]
  omega
abbrev TMap (w : World) (b n : Nat) (f : IQ → Option Value) : Prop := GMap 86 klV okV w b n f
abbrev DMap (w : World) (b n : Nat) (f : DN → Option Value) : Prop := GMap 59 klN okN w b n f

end Go.Proofs.YtpmfabpnjacegaaGreatDoor

