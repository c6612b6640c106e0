/-
  Slices of strings: one that reads as a list, one of the call's own; what the laws' own szStringS, toStringS and eqStringS do. By an AI agent.
-/
import Derived.Test.YtookcggmapldeaaOwnBytes
import Derived.Test.YtookcggmapldeaaPlainSet
import Derived.BigQuiet
import Derived.Deep.QuietTactic
import Derived.OwnWalk
import Derived.Laws.OwnMore
import Derived.Maps.AppendAt
import Derived.Sort.EncStr
namespace Go.Proofs.Ytookcggmapldeaa
open Go.RowKit
set_option linter.unusedVariables false

/-- a slice whose elements are the strings of a list -/
def InS (w : World) (a : Option Addr) (l : List Str) : Prop :=
  0 < l.length → ∃ b off, a = some ⟨b, off, none⟩ ∧ b < w.heap.size ∧ ∀ j x, l[j]? = some x → w.cell? ⟨b, off + j, none⟩ = some (encStr x)

/-- a slice of the call's own -/
def OwnS (w : World) (base : Nat) (v : Value) (l : List Str) : Prop := w.ownsRow base 9 1 v l.length (l.map encStr)

theorem info_str : (Try.prog.info? 9).map (fun i => (i.zero, i.size, i.bytes)) = some (some (.string ⟨#[]⟩), 1, 16) := by kernel_rfl

theorem InS.keep {w w' : World} {a : Option Addr} {l : List Str} (h : InS w a l) (hs : w.heap.size ≤ w'.heap.size) (hk : ∀ b off, a = some ⟨b, off, none⟩ → b < w.heap.size → w'.heap[b]? = w.heap[b]?) : InS w' a l := by
  intro h0
  obtain ⟨b, off, ha, hb, hc⟩ := h h0
  exact ⟨b, off, ha, Nat.lt_of_lt_of_le hb hs, fun j x hj => (World.cell?_of_block (hk b off ha hb)).trans (hc j x hj)⟩
theorem InS.below {w w' : World} {a : Option Addr} {l : List Str} (h : InS w a l) (hb : Below w.heap.size w w') : InS w' a l :=
  h.keep hb.size fun b _ _ hlt => hb.block b hlt
theorem InS.alloc {w : World} {a : Option Addr} {l : List Str} (h : InS w a l) (o : Obj) : InS (w.alloc o) a l := h.below ((Below.refl _ _).alloc (Nat.le_refl _) o)

theorem OwnS.shape {w : World} {base : Nat} {v : Value} {l : List Str} (h : OwnS w base v l) : ∃ a cap, v = .slice a l.length cap := by
  rcases h.2 with ⟨rfl, h0⟩ | ⟨g, cap, cur, rfl, _⟩
  · exact ⟨none, 0, by rw [h0]⟩
  · exact ⟨_, _, rfl⟩
theorem OwnS.inS {w : World} {base : Nat} {a : Option Addr} {n cap : Nat} {l : List Str} (h : OwnS w base (.slice a n cap) l) : InS w a l := by
  intro h0
  rcases h.2 with ⟨_, h1⟩ | ⟨g, cap', cur, hv, hb, hg, _, _, _, ht⟩
  · omega
  · simp only [Value.slice.injEq] at hv
    obtain ⟨rfl, -, -⟩ := hv
    refine ⟨g, 0, rfl, (Array.getElem?_eq_some_iff.1 hg).1, fun j x hj => ?_⟩
    obtain ⟨hlt, he⟩ := List.getElem?_eq_some_iff.1 hj
    rw [Nat.zero_add, cell_of_row w g j cur _ (0, 0) hg, ← Array.getElem?_toList]
    have h2 : (cur.toList.take (l.length * 1))[j]? = (l.map encStr)[j]? := by rw [ht]
    rw [List.getElem?_take_of_lt (by omega)] at h2
    rw [h2]
    simp [he, hlt]
theorem OwnS.len_le {w : World} {base : Nat} {v : Value} {l : List Str} (h : OwnS w base v l) : l.length ≤ maxLen := by
  rcases h.2 with ⟨_, h1⟩ | ⟨g, cap', cur, hv, hb, hg, h2, h3, _, ht⟩
  · omega
  · omega
theorem OwnS.alloc {w : World} {base : Nat} {v : Value} {l : List Str} (h : OwnS w base v l) (o : Obj) : OwnS (w.alloc o) base v l := World.ownsRow.alloc h o
theorem OwnS.below {w w' : World} {base : Nat} {v : Value} {l : List Str} (h : OwnS w base v l) (hb : Below w.heap.size w w') : OwnS w' base v l :=
  World.ownsRow.kept h (row := none) ⟨hb.os, hb.tape, hb.output, hb.size, fun i hi _ => hb.block i hi⟩ (by cases hv : v.ownBlock <;> simp)
theorem OwnS.mono {w : World} {base base' : Nat} {v : Value} {l : List Str} (h : OwnS w base v l) (hb : base' ≤ base) : OwnS w base' v l := by
  refine ⟨h.1, ?_⟩
  rcases h.2 with hn | ⟨g, cap', cur, hv, hbg, rest⟩
  · exact .inl hn
  · exact .inr ⟨g, cap', cur, hv, Nat.le_trans hb hbg, rest⟩
theorem OwnS.nil (w : World) (base : Nat) : OwnS w base (.slice none 0 0) [] := World.ownsRow_nil _ _ _ _
theorem OwnS.made (w : World) (base : Nat) (cur : Array Value) (cap : Nat) (hb : base ≤ w.heap.size) (hm : cap ≤ maxLen) (hs : cur.size = cap) :
    OwnS (w.alloc (.cells cur 9)) base (.slice (some ⟨w.heap.size, 0, none⟩) 0 cap) [] :=
  World.ownsRow_made w cur cap hb hm (by omega)

/-- a slice of the call's own is handed back -/
def GivesS (w : World) (l : List Str) (e : Ending) (w' : World) : Prop :=
  ∃ a cap, e = .returned (.slice a l.length cap) ∧ OwnS w' w.heap.size (.slice a l.length cap) l ∧ Below w.heap.size w w'

theorem GivesS.mk {w w' : World} {v : Value} {l : List Str} (h : OwnS w' w.heap.size v l) (hb : Below w.heap.size w w') : GivesS w l (.returned v) w' := by
  obtain ⟨a, cap, rfl⟩ := h.shape
  exact ⟨a, cap, rfl, h, hb⟩

/-- the values and letters of a list -/
def szT (l : List Str) (k : Nat) : Nat := l.length + ((l.take k).map List.length).sum
def szL (l : List Str) : Nat := szT l l.length
theorem szT_succ {l : List Str} {k : Nat} {x : Str} (h : l[k]? = some x) : szT l (k + 1) = szT l k + x.length := by
  obtain ⟨hlt, he⟩ := List.getElem?_eq_some_iff.1 h
  unfold szT
  rw [List.take_succ_eq_append_getElem hlt, he]
  simp
  omega
theorem szT_le {l : List Str} {j k : Nat} (h : j ≤ k) : szT l j ≤ szT l k := by
  obtain ⟨d, rfl⟩ : ∃ d, k = j + d := ⟨k - j, by omega⟩
  unfold szT
  rw [List.take_add]
  simp
theorem szL_len (l : List Str) : l.length ≤ szL l := by unfold szL szT; omega
theorem szL_mem {l : List Str} {x : Str} (h : x ∈ l) : x.length ≤ szL l := by
  obtain ⟨k, hk⟩ := List.getElem?_of_mem h
  have h1 := szT_succ hk
  have h2 := szT_le (l := l) (show k + 1 ≤ l.length from (List.getElem?_eq_some_iff.1 hk).1)
  unfold szL
  omega

theorem take_snoc' {l : List Str} {k : Nat} {x : Str} (h : l[k]? = some x) : l.take (k + 1) = l.take k ++ [x] := by
  obtain ⟨hlt, he⟩ := List.getElem?_eq_some_iff.1 h
  rw [List.take_succ_eq_append_getElem hlt, he]

/-- a string of the list, with its bytes apart -/
theorem ret_int {k : IntKind} {a b : Int} (h : a = b) : Ending.returned (.int k a) = .returned (.int k b) := by rw [h]

theorem str_at {l : List Str} {k : Nat} (h : k < l.length) : ∃ (x : Str) (s : ByteArray), l[k]? = some x ∧ s.data.toList = x ∧ encStr x = .string s ∧ s.size = x.length := by
  refine ⟨l[k], ⟨l[k].toArray⟩, List.getElem?_eq_getElem h, by simp, rfl, ?_⟩
  simp [ByteArray.size]

/-- what is left of 'left', or -1 -/
def szR (l : List Str) (left : Nat) : Int := if szL l ≤ left then (left : Int) - (szL l : Int) else -1
theorem szR_yes {l : List Str} {left : Nat} (h : szL l ≤ left) : szR l left = ((left - szL l : Nat) : Int) := by unfold szR; rw [if_pos h]; omega
theorem szR_no {l : List Str} {left : Nat} (h : ¬ szL l ≤ left) : szR l left = -1 := by unfold szR; rw [if_neg h]

/-- an argument of moderate size -/
def Sm (w : World) (a : Option Addr) (l : List Str) (c : Nat) : Prop := InS w a l ∧ (a = none → c = 0) ∧ l.length ≤ c ∧ l.length ≤ 4000000 ∧ ∀ x ∈ l, x.length ≤ 1048576
theorem Sm.below {w w' : World} {a : Option Addr} {l : List Str} {c : Nat} (h : Sm w a l c) (hb : Below w.heap.size w w') : Sm w' a l c := ⟨h.1.below hb, h.2⟩
theorem sz_len {l : List Str} (hs : szL l ≤ 1048576) : l.length ≤ 4000000 := by have := szL_len l; omega
theorem sz_mem {l : List Str} (hs : szL l ≤ 1048576) : ∀ x ∈ l, x.length ≤ 1048576 := fun x hx => by have := szL_mem hx; omega
theorem Sm.ml {w : World} {a : Option Addr} {l : List Str} {c : Nat} (h : Sm w a l c) : l.length ≤ maxLen := by have := h.2.2.2.1; unfold maxLen; omega
theorem OwnS.none_cap {w : World} {base : Nat} {a : Option Addr} {n cap : Nat} {l : List Str} (h : OwnS w base (.slice a n cap) l) : a = none → cap = 0 := by
  intro e
  rcases h.2 with ⟨hv, h1⟩ | ⟨g, cap', cur, hv, _⟩
  · simp only [Value.slice.injEq] at hv
    exact hv.2.2
  · simp only [Value.slice.injEq] at hv
    rw [e] at hv
    cases hv.1
theorem OwnS.cap_ge {w : World} {base : Nat} {a : Option Addr} {n cap : Nat} {l : List Str} (h : OwnS w base (.slice a n cap) l) : l.length ≤ cap := by
  rcases h.2 with ⟨hv, h1⟩ | ⟨g, cap', cur, hv, _, _, h2, _⟩
  · omega
  · simp only [Value.slice.injEq] at hv
    omega

/-- an argument of a law -/
def ArgS (w : World) (a : Option Addr) (l : List Str) : Prop := InS w a l ∧ l.length ≤ maxLen ∧ ∀ x ∈ l, x.length ≤ maxLen

theorem argS_of {w : World} {x : Addr} {l c : Nat} {ss : List ByteArray} (hl : l ≤ c) (hm : c ≤ maxLen) (hz : ss.length = c)
    (hcell : ∀ i, i < ss.length → w.cell? (x.add i) = some (.string (ss.getD i ByteArray.empty))) (hw : ∀ s ∈ ss, s.size ≤ maxLen) : ∃ L : List Str, l = L.length ∧ ArgS w (some x) L := by
  refine ⟨(ss.take l).map (·.data.toList), by simp; omega, fun h0 => ?_, by simp; omega, fun y hy => ?_⟩
  · simp at h0
    obtain ⟨b, off, spot⟩ := x
    have hspot : spot = none := by simpa [Addr.add] using World.cell?_spot (hcell 0 (by omega))
    subst hspot
    refine ⟨b, off, rfl, ?_, fun j y hj => ?_⟩
    · exact World.block_lt_of_cell? w _ (hcell 0 (by omega))
    · obtain ⟨hlt, he⟩ := List.getElem?_eq_some_iff.1 hj
      simp at hlt
      have h1 := hcell j (by omega)
      have h2 : (⟨b, off, none⟩ : Addr).add j = ⟨b, off + j, none⟩ := by unfold Addr.add; split <;> simp_all
      rw [h2] at h1
      rw [h1]
      simp only [List.getElem_map, List.getElem_take] at he
      rw [← he, List.getD, List.getElem?_eq_getElem (by omega)]
      rfl
  · obtain ⟨s, hs, rfl⟩ := List.mem_map.1 hy
    have := hw s (List.mem_of_mem_take hs)
    simpa using this

/-- a slice of the call's own, in blocks from lo on and below hi -/
def OwnH (w : World) (lo hi : Nat) (v : Value) (l : List Str) : Prop := OwnS w lo v l ∧ ∀ k, v.ownBlock = some k → k < hi
theorem OwnH.of {w w' : World} {a : Option Addr} {cap : Nat} {l : List Str} (h : OwnS w' w.heap.size (.slice a l.length cap) l) : OwnH w' w.heap.size w'.heap.size (.slice a l.length cap) l :=
  ⟨h, fun k hk => (World.ownsRow.lt h k hk).2⟩
theorem OwnH.below {w w' : World} {lo hi : Nat} {v : Value} {l : List Str} (h : OwnH w lo hi v l) (hb : Below w.heap.size w w') : OwnH w' lo hi v l := ⟨h.1.below hb, h.2⟩
theorem OwnH.inS {w : World} {lo hi : Nat} {a : Option Addr} {n cap : Nat} {l : List Str} (h : OwnH w lo hi (.slice a n cap) l) : InS w a l := h.1.inS
theorem OwnS.sm {w : World} {base : Nat} {a : Option Addr} {n cap : Nat} {l : List Str} (h : OwnS w base (.slice a n cap) l) (h1 : l.length ≤ 4000000) (h2 : ∀ x ∈ l, x.length ≤ 1048576) : Sm w a l cap := ⟨h.inS, h.none_cap, h.cap_ge, h1, h2⟩
theorem OwnH.sm {w : World} {lo hi : Nat} {a : Option Addr} {n cap : Nat} {l : List Str} (h : OwnH w lo hi (.slice a n cap) l) (h1 : l.length ≤ 4000000) (h2 : ∀ x ∈ l, x.length ≤ 1048576) : Sm w a l cap := h.1.sm h1 h2
/-- what is written into one slice leaves another as it was -/
theorem OwnH.other {w w' : World} {lo hi lo' hi' : Nat} {v u : Value} {l : List Str} (h : OwnH w lo hi v l) (hg : w.grownBy w' u.ownBlock) (hu : ∀ k, u.ownBlock = some k → lo' ≤ k ∧ k < hi') (hd : hi ≤ lo' ∨ hi' ≤ lo) : OwnH w' lo hi v l := by
  refine ⟨World.ownsRow.kept h.1 hg ?_, h.2⟩
  cases hv : v.ownBlock with
  | none => exact .inl rfl
  | some k =>
    refine .inr fun e => ?_
    have h1 := (World.ownsRow.lt h.1 k hv).1
    have h2 := h.2 k hv
    have h3 := hu k e.symm
    omega
theorem OwnH.row {w : World} {lo hi : Nat} {v : Value} {l : List Str} (h : OwnH w lo hi v l) : ∀ k, v.ownBlock = some k → lo ≤ k ∧ k < hi := fun k hk => ⟨(World.ownsRow.lt h.1 k hk).1, h.2 k hk⟩
theorem below_row {w0 w w' : World} {lo hi : Nat} {v : Value} {l : List Str} (hb : Below w0.heap.size w0 w) (h : OwnH w lo hi v l) (hg : w.grownBy w' v.ownBlock) (hlo : w0.heap.size ≤ lo) : Below w0.heap.size w0 w' :=
  hb.grown hg hb.size fun k hk => Nat.le_trans hlo (h.row k hk).1

end Go.Proofs.Ytookcggmapldeaa
