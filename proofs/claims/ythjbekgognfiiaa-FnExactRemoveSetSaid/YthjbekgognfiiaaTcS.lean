/-
  Slices of tokens with counts: one that reads as a list, one of the call's own. By an AI agent.
-/
import Derived.Test.YthjbekgognfiiaaJ1
import Derived.Test.YthjbekgognfiiaaPlainFreq
import Derived.Deep.Slices
namespace Go.Proofs.Ythjbekgognfiiaa
open Go.RowKit
set_option linter.unusedVariables false

def encT (x : TC) : List Value := [encStr x.1, .int .i64 x.2]
def flatT (l : List TC) : List Value := l.flatMap encT
theorem flat_nil : flatT [] = [] := rfl
theorem flat_len (l : List TC) : (flatT l).length = l.length * 2 := by
  induction l with
  | nil => rfl
  | cons x l ih =>
    have e : flatT (x :: l) = encT x ++ flatT l := by simp [flatT]
    rw [e, List.length_append, ih, List.length_cons]
    show 2 + l.length * 2 = _
    omega
theorem flat_snoc (l : List TC) (x : TC) : flatT (l ++ [x]) = flatT l ++ encT x := by simp [flatT]
theorem flat_append (l m : List TC) : flatT (l ++ m) = flatT l ++ flatT m := by simp [flatT]
theorem flat_at : ∀ {l : List TC} {j : Nat} {x : TC}, l[j]? = some x → (flatT l)[j * 2]? = some (encStr x.1) ∧ (flatT l)[j * 2 + 1]? = some (.int .i64 x.2)
  | [], j, x, h => by simp at h
  | y :: l, j, x, h => by
    have e : flatT (y :: l) = encStr y.1 :: .int .i64 y.2 :: flatT l := by simp [flatT, encT]
    rw [e]
    cases j with
    | zero =>
      simp at h
      subst h
      exact ⟨rfl, rfl⟩
    | succ j =>
      have h1 : l[j]? = some x := by simpa using h
      have h2 := flat_at h1
      rw [show (j + 1) * 2 = j * 2 + 1 + 1 by omega]
      exact h2
theorem one_str (x : Str) : (encStr x).oneCell' = true := rfl
theorem encT_one (x : TC) : ∀ v ∈ encT x, v.oneCell' = true := by
  intro v hv
  simp [encT] at hv
  rcases hv with rfl | rfl <;> rfl
theorem flat_one (l : List TC) : ∀ v ∈ flatT l, v.oneCell' = true := by
  intro v hv
  obtain ⟨x, _, h⟩ := List.mem_flatMap.1 hv
  exact encT_one x v h

/-- a slice whose elements are the pairs of a list -/
def InT (w : World) (a : Option Addr) (l : List TC) : Prop :=
  0 < l.length → ∃ b off, a = some ⟨b, off, none⟩ ∧ b < w.heap.size ∧ ∀ j x, l[j]? = some x → w.cell? ⟨b, off + j * 2, none⟩ = some (encStr x.1) ∧ w.cell? ⟨b, off + j * 2 + 1, none⟩ = some (.int .i64 x.2)
theorem InT.below {w w' : World} {a : Option Addr} {l : List TC} (h : InT w a l) (hb : Below w.heap.size w w') : InT w' a l := by
  intro h0
  obtain ⟨b, off, ha, hlt, hc⟩ := h h0
  have hk := hb.block b hlt
  exact ⟨b, off, ha, Nat.lt_of_lt_of_le hlt hb.size, fun j x hj => ⟨(World.cell?_of_block hk).trans (hc j x hj).1, (World.cell?_of_block hk).trans (hc j x hj).2⟩⟩
theorem InT.alloc {w : World} {a : Option Addr} {l : List TC} (h : InT w a l) (o : Obj) : InT (w.alloc o) a l := h.below ((Below.refl _ _).alloc (Nat.le_refl _) o)

/-- a slice of the call's own -/
def OwnT (w : World) (base : Nat) (v : Value) (l : List TC) : Prop := w.ownsRow base 71 2 v l.length (flatT l)
theorem info_tc : (Try.prog.info? 71).map (fun i => (i.zero, i.size, i.bytes)) = some (some (.agg #[.string ⟨#[]⟩, .int .i64 0]), 2, 24) := by kernel_rfl

theorem OwnT.shape {w : World} {base : Nat} {v : Value} {l : List TC} (h : OwnT w base v l) : ∃ a cap, v = .slice a l.length cap := by
  rcases h.2 with ⟨rfl, h0⟩ | ⟨g, cap, cur, rfl, _⟩
  · exact ⟨none, 0, by rw [h0]⟩
  · exact ⟨_, _, rfl⟩
theorem OwnT.inT {w : World} {base : Nat} {a : Option Addr} {n cap : Nat} {l : List TC} (h : OwnT w base (.slice a n cap) l) : InT w a l := by
  intro h0
  rcases h.2 with ⟨_, h1⟩ | ⟨g, cap', cur, hv, hb, hg, _, _, _, ht⟩
  · omega
  · simp only [Value.slice.injEq] at hv
    obtain ⟨rfl, -, -⟩ := hv
    have hcell : ∀ i u, (flatT l)[i]? = some u → w.cell? ⟨g, 0 + i, none⟩ = some u := by
      intro i u hi
      have hlt := (List.getElem?_eq_some_iff.1 hi).1
      rw [flat_len] at hlt
      rw [Nat.zero_add, cell_of_row w g i cur _ (0, 0) hg, ← Array.getElem?_toList]
      have h2 : (cur.toList.take (l.length * 2))[i]? = (flatT l)[i]? := by rw [ht]
      rw [List.getElem?_take_of_lt hlt] at h2
      rw [h2, hi]
    refine ⟨g, 0, rfl, (Array.getElem?_eq_some_iff.1 hg).1, fun j x hj => ?_⟩
    obtain ⟨e1, e2⟩ := flat_at hj
    exact ⟨hcell _ _ e1, by rw [Nat.add_assoc]; exact hcell _ _ e2⟩
theorem OwnT.len_le {w : World} {base : Nat} {v : Value} {l : List TC} (h : OwnT w base v l) : l.length ≤ maxLen := by
  rcases h.2 with ⟨_, h1⟩ | ⟨g, cap', cur, hv, hb, hg, h2, h3, _, ht⟩
  · omega
  · omega
theorem OwnT.alloc {w : World} {base : Nat} {v : Value} {l : List TC} (h : OwnT w base v l) (o : Obj) : OwnT (w.alloc o) base v l := World.ownsRow.alloc h o
theorem OwnT.below {w w' : World} {base : Nat} {v : Value} {l : List TC} (h : OwnT w base v l) (hb : Below w.heap.size w w') : OwnT w' base v l :=
  World.ownsRow.kept h (row := none) ⟨hb.os, hb.tape, hb.output, hb.size, fun i hi _ => hb.block i hi⟩ (by cases hv : v.ownBlock <;> simp)
theorem OwnT.mono {w : World} {base base' : Nat} {v : Value} {l : List TC} (h : OwnT w base v l) (hb : base' ≤ base) : OwnT w base' v l := by
  refine ⟨h.1, ?_⟩
  rcases h.2 with hn | ⟨g, cap', cur, hv, hbg, rest⟩
  · exact .inl hn
  · exact .inr ⟨g, cap', cur, hv, Nat.le_trans hb hbg, rest⟩
theorem OwnT.nil (w : World) (base : Nat) : OwnT w base (.slice none 0 0) [] := World.ownsRow_nil _ _ _ _
theorem OwnT.none_cap {w : World} {base : Nat} {a : Option Addr} {n cap : Nat} {l : List TC} (h : OwnT w base (.slice a n cap) l) : a = none → cap = 0 := by
  intro e
  rcases h.2 with ⟨hv, h1⟩ | ⟨g, cap', cur, hv, _⟩
  · simp only [Value.slice.injEq] at hv
    exact hv.2.2
  · simp only [Value.slice.injEq] at hv
    rw [e] at hv
    cases hv.1
theorem OwnT.cap_ge {w : World} {base : Nat} {a : Option Addr} {n cap : Nat} {l : List TC} (h : OwnT w base (.slice a n cap) l) : l.length ≤ cap := by
  rcases h.2 with ⟨hv, h1⟩ | ⟨g, cap', cur, hv, _, _, h2, _⟩
  · omega
  · simp only [Value.slice.injEq] at hv
    omega
theorem ownT_at {w : World} {base : Nat} {a : Option Addr} {n cap : Nat} {xs : List Value} (h : w.ownsRow base 71 2 (.slice a n cap) n xs) (h0 : 0 < n) : ∃ g, a = some ⟨g, 0, none⟩ ∧ base ≤ g ∧ g < w.heap.size := by
  rcases h.2 with ⟨_, h1⟩ | ⟨g, cap', cur, hv, hb, hg, _⟩
  · omega
  · simp only [Value.slice.injEq] at hv
    exact ⟨g, hv.1, hb, (Array.getElem?_eq_some_iff.1 hg).1⟩

/-- a slice of the call's own is handed back -/
def GivesT (w : World) (l : List TC) (e : Ending) (w' : World) : Prop :=
  ∃ a cap, e = .returned (.slice a l.length cap) ∧ OwnT w' w.heap.size (.slice a l.length cap) l ∧ Below w.heap.size w w'
theorem GivesT.mk {w w' : World} {v : Value} {l : List TC} (h : OwnT w' w.heap.size v l) (hb : Below w.heap.size w w') : GivesT w l (.returned v) w' := by
  obtain ⟨a, cap, rfl⟩ := h.shape
  exact ⟨a, cap, rfl, h, hb⟩

/-- an argument of moderate size -/
def SmT (w : World) (a : Option Addr) (l : List TC) (c : Nat) : Prop := InT w a l ∧ (a = none → c = 0) ∧ l.length ≤ c ∧ l.length ≤ 4000000 ∧ ∀ x ∈ l, x.1.length ≤ 1048576
theorem SmT.below {w w' : World} {a : Option Addr} {l : List TC} {c : Nat} (h : SmT w a l c) (hb : Below w.heap.size w w') : SmT w' a l c := ⟨h.1.below hb, h.2⟩
theorem SmT.alloc {w : World} {a : Option Addr} {l : List TC} {c : Nat} (h : SmT w a l c) (o : Obj) : SmT (w.alloc o) a l c := ⟨h.1.alloc o, h.2⟩
theorem OwnT.smT {w : World} {base : Nat} {a : Option Addr} {n cap : Nat} {l : List TC} (h : OwnT w base (.slice a n cap) l) (h1 : l.length ≤ 4000000) (h2 : ∀ x ∈ l, x.1.length ≤ 1048576) : SmT w a l cap := ⟨h.inT, h.none_cap, h.cap_ge, h1, h2⟩

/-- a pair of the list, with its bytes apart -/
theorem tc_at {l : List TC} {k : Nat} (h : k < l.length) : ∃ (x : TC) (s : ByteArray), l[k]? = some x ∧ s.data.toList = x.1 ∧ encStr x.1 = .string s ∧ s.size = x.1.length := by
  refine ⟨l[k], ⟨l[k].1.toArray⟩, List.getElem?_eq_getElem h, by simp, rfl, ?_⟩
  simp [ByteArray.size]

/-- the values and letters of a list -/
def tzT (l : List TC) (k : Nat) : Nat := l.length + ((l.take k).map fun x => x.1.length).sum
def tzL (l : List TC) : Nat := tzT l l.length
theorem tzT_succ {l : List TC} {k : Nat} {x : TC} (h : l[k]? = some x) : tzT l (k + 1) = tzT l k + x.1.length := by
  obtain ⟨hlt, he⟩ := List.getElem?_eq_some_iff.1 h
  unfold tzT
  rw [List.take_succ_eq_append_getElem hlt, he]
  simp
  omega
theorem tzT_le {l : List TC} {j k : Nat} (h : j ≤ k) : tzT l j ≤ tzT l k := by
  obtain ⟨d, rfl⟩ : ∃ d, k = j + d := ⟨k - j, by omega⟩
  unfold tzT
  rw [List.take_add]
  simp
theorem tzL_len (l : List TC) : l.length ≤ tzL l := by unfold tzL tzT; omega
theorem tzL_mem {l : List TC} {x : TC} (h : x ∈ l) : x.1.length ≤ tzL l := by
  obtain ⟨k, hk⟩ := List.getElem?_of_mem h
  have h1 := tzT_succ hk
  have h2 := tzT_le (l := l) (show k + 1 ≤ l.length from (List.getElem?_eq_some_iff.1 hk).1)
  unfold tzL
  omega
theorem tz_len {l : List TC} (hs : tzL l ≤ 1048576) : l.length ≤ 4000000 := by have := tzL_len l; omega
theorem tz_mem {l : List TC} (hs : tzL l ≤ 1048576) : ∀ x ∈ l, x.1.length ≤ 1048576 := fun x hx => by have := tzL_mem hx; omega
def tzR (l : List TC) (left : Nat) : Int := if tzL l ≤ left then (left : Int) - (tzL l : Int) else -1
theorem tzR_yes {l : List TC} {left : Nat} (h : tzL l ≤ left) : tzR l left = ((left - tzL l : Nat) : Int) := by unfold tzR; rw [if_pos h]; omega
theorem tzR_no {l : List TC} {left : Nat} (h : ¬ tzL l ≤ left) : tzR l left = -1 := by unfold tzR; rw [if_neg h]

/-- an argument of a law -/
def ArgT (w : World) (a : Option Addr) (l : List TC) : Prop := InT w a l ∧ l.length ≤ maxLen ∧ ∀ x ∈ l, x.1.length ≤ maxLen

theorem argT_of {w : World} {x : Addr} {len cap : Nat} (hl : len ≤ cap) (hm : cap ≤ maxLen) (h : ∀ i, i < len → ∃ (s : ByteArray) (z : Int), w.cell? (x.add (i * 2)) = some (.string s) ∧ w.cell? (x.add (i * 2 + 1)) = some (.int .i64 z) ∧ s.size ≤ maxLen) : ∃ L : List TC, len = L.length ∧ ArgT w (some x) L := by
  obtain ⟨f, hf⟩ := Go.Deep.choose_lt (n := len) (p := fun i (q : ByteArray × Int) => w.cell? (x.add (i * 2)) = some (.string q.1) ∧ w.cell? (x.add (i * 2 + 1)) = some (.int .i64 q.2) ∧ q.1.size ≤ maxLen) (fun i hi => by obtain ⟨s, z, h1⟩ := h i hi; exact ⟨(s, z), h1⟩)
  refine ⟨(List.range len).map fun i => ((f i).1.data.toList, (f i).2), by simp, fun h0 => ?_, by simp; omega, fun y hy => ?_⟩
  · simp at h0
    obtain ⟨b, off, spot⟩ := x
    have hspot : spot = none := by simpa [Addr.add] using World.cell?_spot (hf 0 (by omega)).1
    subst hspot
    have hadd : ∀ j, (⟨b, off, none⟩ : Addr).add j = ⟨b, off + j, none⟩ := fun j => by unfold Addr.add; split <;> simp_all
    refine ⟨b, off, rfl, World.block_lt_of_cell? w _ (hf 0 (by omega)).1, fun j y hj => ?_⟩
    obtain ⟨hlt, he⟩ := List.getElem?_eq_some_iff.1 hj
    simp at hlt he
    obtain ⟨h1, h2, _⟩ := hf j hlt
    rw [hadd] at h1 h2
    subst he
    exact ⟨h1, h2⟩
  · obtain ⟨i, hi, rfl⟩ := List.mem_map.1 hy
    have := (hf i (List.mem_range.1 hi)).2.2
    simpa using this

/-- a slice of the call's own, in blocks from lo on and below hi -/
def OwnHT (w : World) (lo hi : Nat) (v : Value) (l : List TC) : Prop := OwnT w lo v l ∧ ∀ k, v.ownBlock = some k → k < hi
theorem OwnHT.of {w w' : World} {a : Option Addr} {cap : Nat} {l : List TC} (h : OwnT w' w.heap.size (.slice a l.length cap) l) : OwnHT w' w.heap.size w'.heap.size (.slice a l.length cap) l :=
  ⟨h, fun k hk => (World.ownsRow.lt h k hk).2⟩
theorem OwnHT.below {w w' : World} {lo hi : Nat} {v : Value} {l : List TC} (h : OwnHT w lo hi v l) (hb : Below w.heap.size w w') : OwnHT w' lo hi v l := ⟨h.1.below hb, h.2⟩
theorem OwnHT.inT {w : World} {lo hi : Nat} {a : Option Addr} {n cap : Nat} {l : List TC} (h : OwnHT w lo hi (.slice a n cap) l) : InT w a l := h.1.inT
theorem OwnHT.smT {w : World} {lo hi : Nat} {a : Option Addr} {n cap : Nat} {l : List TC} (h : OwnHT w lo hi (.slice a n cap) l) (h1 : l.length ≤ 4000000) (h2 : ∀ x ∈ l, x.1.length ≤ 1048576) : SmT w a l cap := h.1.smT h1 h2
theorem OwnHT.row {w : World} {lo hi : Nat} {v : Value} {l : List TC} (h : OwnHT w lo hi v l) : ∀ k, v.ownBlock = some k → lo ≤ k ∧ k < hi := fun k hk => ⟨(World.ownsRow.lt h.1 k hk).1, h.2 k hk⟩
theorem OwnHT.other {w w' : World} {lo hi lo' hi' : Nat} {v u : Value} {l : List TC} (h : OwnHT w lo hi v l) (hg : w.grownBy w' u.ownBlock) (hu : ∀ k, u.ownBlock = some k → lo' ≤ k ∧ k < hi') (hd : hi ≤ lo' ∨ hi' ≤ lo) : OwnHT w' lo hi v l := by
  refine ⟨World.ownsRow.kept h.1 hg ?_, h.2⟩
  cases hv : v.ownBlock with
  | none => exact .inl rfl
  | some k =>
    refine .inr fun e => ?_
    have h1 := (World.ownsRow.lt h.1 k hv).1
    have h2 := h.2 k hv
    have h3 := hu k e.symm
    omega
theorem below_rowT {w0 w w' : World} {lo hi : Nat} {v : Value} {l : List TC} (hb : Below w0.heap.size w0 w) (h : OwnHT w lo hi v l) (hg : w.grownBy w' v.ownBlock) (hlo : w0.heap.size ≤ lo) : Below w0.heap.size w0 w' :=
  hb.grown hg hb.size fun k hk => Nat.le_trans hlo (h.row k hk).1

end Go.Proofs.Ythjbekgognfiiaa
