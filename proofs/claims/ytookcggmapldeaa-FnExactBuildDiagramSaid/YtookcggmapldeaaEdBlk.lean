/-
  A block of cells that the call stores into; a row of least costs in it. By an AI agent.
-/
import Derived.Test.YtookcggmapldeaaPlainEdit
import Derived.Test.YtookcggmapldeaaOwnBytes
import Derived.Laws.CopyRow
import Derived.Laws.AppendOwn
import Derived.Maps.AppendAt
namespace Go.Proofs.Ytookcggmapldeaa
open Go.RowKit
set_option linter.unusedVariables false

/-- block g holds the cells cs of type t -/
def BlkV (w : World) (g : Nat) (t : TypeId) (cs : Array Value) : Prop := w.heap[g]? = some (.cells cs t (0, 0))

theorem BlkV.cell {w : World} {g : Nat} {t : TypeId} {cs : Array Value} (h : BlkV w g t cs) (i : Nat) : w.cell? ⟨g, i, none⟩ = cs[i]? := cell_of_row w g i cs t (0, 0) h
theorem BlkV.frozen {w : World} {g : Nat} {t : TypeId} {cs : Array Value} (h : BlkV w g t cs) (i : Nat) : w.frozen? ⟨g, i, none⟩ = false := by
  unfold BlkV at h
  simp [World.frozen?, h]
theorem BlkV.lt {w : World} {g : Nat} {t : TypeId} {cs : Array Value} (h : BlkV w g t cs) : g < w.heap.size := (Array.getElem?_eq_some_iff.1 h).1
theorem BlkV.new (w : World) (t : TypeId) (cs : Array Value) : BlkV (w.alloc (.cells cs t)) w.heap.size t cs := heap_alloc_new w _
theorem BlkV.set_ {w : World} {g : Nat} {t : TypeId} {cs : Array Value} (h : BlkV w g t cs) (i : Nat) (u : Value) : BlkV (w.setCell ⟨g, i, none⟩ u) g t (cs.setIfInBounds i u) := by
  unfold BlkV at h ⊢
  simp [World.setCell, Array.getElem?_modify, h]
theorem BlkV.row {w : World} {g : Nat} {t : TypeId} {cs : Array Value} (h : BlkV w g t cs) (cs' : Array Value) : BlkV (w.setRow g cs') g t cs' := setRow_heap w g cs cs' t (0, 0) h
theorem BlkV.grown {w w' : World} {g : Nat} {t : TypeId} {cs : Array Value} {row : Option Nat} (h : BlkV w g t cs) (hg : w.grownBy w' row) (hne : some g ≠ row) : BlkV w' g t cs := (hg.block g h.lt hne).trans h
theorem BlkV.n {w : World} {g : Nat} {t : TypeId} {cs : Array Value} (h : BlkV w g t cs) (k : Nat) : BlkV (w.drewN k) g t cs := h
theorem BlkV.alloc {w : World} {g : Nat} {t : TypeId} {cs : Array Value} (h : BlkV w g t cs) (o : Obj) : BlkV (w.alloc o) g t cs := h.grown (World.grownBy_alloc w o none) (by simp)
theorem BlkV.below {w w' : World} {g : Nat} {t : TypeId} {cs : Array Value} (h : BlkV w g t cs) (hb : Below w.heap.size w w') : BlkV w' g t cs := (hb.block g h.lt).trans h

theorem egrown_set (w : World) (g i : Nat) (u : Value) : w.grownBy (w.setCell ⟨g, i, none⟩ u) (some g) :=
  ⟨rfl, rfl, rfl, by simp [World.setCell], fun k _ hne => by
    have : k ≠ g := fun e => hne (by rw [e])
    simp [World.setCell, Array.getElem?_modify, Ne.symm this]⟩
theorem egrown_row (w : World) (g : Nat) (cs : Array Value) : w.grownBy (w.setRow g cs) (some g) :=
  ⟨rfl, rfl, rfl, by simp, fun k _ hne => setRow_other w g k cs (fun e => hne (by rw [e]))⟩
theorem egrown_n {a b : World} {row : Option Nat} (h : a.grownBy b row) (n : Nat) : a.grownBy (b.drewN n) row := ⟨h.os, h.tape, h.output, h.size, h.block⟩

theorem belowN {base : Nat} {w w' : World} (h : Below base w w') (n : Nat) : Below base w (w'.drewN n) := ⟨h.os, h.tape, h.output, h.size, h.block⟩
theorem below_grown {base g : Nat} {w0 w w' : World} (h : Below base w0 w) (hg : w.grownBy w' (some g)) (hb : base ≤ g) (hs : base ≤ w.heap.size) : Below base w0 w' :=
  h.grown hg hs (fun k hk => by cases hk; exact hb)

theorem toNat_lt_maxLen {n : Nat} (h : n ≤ 100000) : n ≤ maxLen := by unfold maxLen; omega

def intC (n : Nat) : Value := .int .i64 (n : Int)

/-- the row of A at o, filled from k on; ahead of k the costs behind a byte that is kept or replaced -/
def FillAt (sw : Bool) (A B : List UInt8) (cs0 cs : Array Value) (o k : Nat) : Prop :=
  cs.size = cs0.size ∧ (∀ q, k ≤ q → q ≤ B.length → cs[o + q]? = some (intC (lev sw A (B.drop q)))) ∧
    (∀ q, q < k → cs[o + q]? = some (intC (lev sw A.tail (B.drop (q + 1))))) ∧ ∀ p, p < o ∨ o + B.length + 1 ≤ p → cs[p]? = cs0[p]?

theorem set_at {cs : Array Value} {p : Nat} {u : Value} (h : p < cs.size) : (cs.setIfInBounds p u)[p]? = some u := by
  rw [Array.getElem?_setIfInBounds]; simp [h]
theorem set_ne {cs : Array Value} {p q : Nat} {u : Value} (h : p ≠ q) : (cs.setIfInBounds p u)[q]? = cs[q]? := by
  rw [Array.getElem?_setIfInBounds]; simp [h]

theorem FillAt.set {sw : Bool} {A B : List UInt8} {cs0 cs : Array Value} {o k : Nat} (h : FillAt sw A B cs0 cs o (k + 1)) (hk : k ≤ B.length) (hs : o + B.length < cs0.size) {u : Value} (hu : u = intC (lev sw A (B.drop k))) :
    FillAt sw A B cs0 (cs.setIfInBounds (o + k) u) o k := by
  obtain ⟨h1, h2, h3, h4⟩ := h
  refine ⟨by simp [h1], fun q hq hqB => ?_, fun q hq => ?_, fun p hp => ?_⟩
  · by_cases e : k = q
    · subst e
      rw [set_at (by rw [h1]; omega), hu]
    · rw [set_ne (by omega)]
      exact h2 q (by omega) hqB
  · rw [set_ne (by omega)]
    exact h3 q (by omega)
  · rw [set_ne (by omega)]
    exact h4 p hp
theorem FillAt.same {sw : Bool} {A B : List UInt8} {cs0 cs : Array Value} {o k : Nat} (h : FillAt sw A B cs0 cs o (k + 1)) (hk : k ≤ B.length) (hu : lev sw A.tail (B.drop (k + 1)) = lev sw A (B.drop k)) :
    FillAt sw A B cs0 cs o k := by
  obtain ⟨h1, h2, h3, h4⟩ := h
  refine ⟨h1, fun q hq hqB => ?_, fun q hq => h3 q (by omega), h4⟩
  by_cases e : k = q
  · subst e
    rw [h3 k (by omega), hu]
  · exact h2 q (by omega) hqB
/-- a store at k that is stored over again: the cells of the row are open there -/
def FillOpen (sw : Bool) (A B : List UInt8) (cs0 cs : Array Value) (o k : Nat) (m : Nat) : Prop :=
  FillAt sw A B cs0 (cs.setIfInBounds (o + k) (intC (lev sw A (B.drop k)))) o k ∧ cs.size = cs0.size ∧ cs[o + k]? = some (intC m)

theorem FillAt.opens {sw : Bool} {A B : List UInt8} {cs0 cs : Array Value} {o k : Nat} (h : FillAt sw A B cs0 cs o (k + 1)) (hk : k ≤ B.length) (hs : o + B.length < cs0.size) :
    FillOpen sw A B cs0 cs o k (lev sw A.tail (B.drop (k + 1))) := ⟨h.set hk hs rfl, h.1, h.2.2.1 k (by omega)⟩
theorem FillOpen.set {sw : Bool} {A B : List UInt8} {cs0 cs : Array Value} {o k m : Nat} (h : FillOpen sw A B cs0 cs o k m) (hs : o + k < cs0.size) {u : Value} {m' : Nat} (hu : u = intC m') :
    FillOpen sw A B cs0 (cs.setIfInBounds (o + k) u) o k m' := by
  obtain ⟨h1, h2, h3⟩ := h
  refine ⟨?_, by simp [h2], ?_⟩
  · rw [Array.setIfInBounds_setIfInBounds]
    exact h1
  · rw [set_at (by rw [h2]; exact hs), hu]
theorem FillOpen.far {sw : Bool} {A B : List UInt8} {cs0 cs : Array Value} {o k m : Nat} (h : FillOpen sw A B cs0 cs o k m) (hk : k ≤ B.length) {p : Nat} (hp : o + B.length + 1 ≤ p) : cs[p]? = cs0[p]? := by
  rw [← h.1.2.2.2 p (.inr hp), set_ne (by omega)]
theorem FillOpen.shut {sw : Bool} {A B : List UInt8} {cs0 cs : Array Value} {o k m : Nat} (h : FillOpen sw A B cs0 cs o k m) (hs : o + k < cs0.size) (hm : m = lev sw A (B.drop k)) : FillAt sw A B cs0 cs o k := by
  obtain ⟨h1, h2, h3⟩ := h
  subst hm
  have hlt : o + k < cs.size := by rw [h2]; exact hs
  have e : cs.setIfInBounds (o + k) (intC (lev sw A (B.drop k))) = cs := by
    apply Array.ext_getElem?
    intro p
    by_cases e : o + k = p
    · subst e
      rw [set_at hlt, h3]
    · rw [set_ne e]
  rw [e] at h1
  exact h1

/-- the cells behind copy(row, below[1:]) -/
theorem copied (cs0 : Array Value) (o W : Nat) (hW : 1 ≤ W) (hs : o + 2 * W ≤ cs0.size) : ∃ (l : List Value) (cs1 : Array Value), l.length = W - 1 ∧ (∀ q, q < W - 1 → l[q]? = cs0[o + W + (1 + q)]?) ∧
    cs1 = (cs0.toList.take o ++ l ++ cs0.toList.drop (o + l.length)).toArray ∧ cs1.size = cs0.size ∧ (∀ q, q < W - 1 → cs1[o + q]? = cs0[o + W + (1 + q)]?) ∧
    ∀ p, p < o ∨ o + (W - 1) ≤ p → cs1[p]? = cs0[p]? := by
  have hlen : cs0.toList.length = cs0.size := by simp
  refine ⟨(cs0.toList.drop (o + W + 1)).take (W - 1), _, by simp; omega, fun q hq => ?_, rfl, ?_, fun q hq => ?_, fun p hp => ?_⟩
  · rw [List.getElem?_take_of_lt hq, List.getElem?_drop, Array.getElem?_toList]
    congr 1; omega
  · simp; omega
  · rw [List.getElem?_toArray, List.append_assoc, List.getElem?_append_right (by simp; omega)]
    have e : o + q - (cs0.toList.take o).length = q := by simp; omega
    rw [e, List.getElem?_append_left (by simp; omega), List.getElem?_take_of_lt hq, List.getElem?_drop, Array.getElem?_toList]
    congr 1; omega
  · rw [List.getElem?_toArray]
    rcases hp with hp | hp
    · rw [List.append_assoc, List.getElem?_append_left (by simp; omega), List.getElem?_take_of_lt hp, Array.getElem?_toList]
    · have e2 : ((cs0.toList.drop (o + W + 1)).take (W - 1)).length = W - 1 := by simp; omega
      have e1 : (cs0.toList.take o ++ (cs0.toList.drop (o + W + 1)).take (W - 1)).length = o + (W - 1) := by rw [List.length_append, e2]; simp; omega
      rw [List.getElem?_append_right (by rw [e1]; exact hp), e1, List.getElem?_drop, e2, Array.getElem?_toList]
      congr 1; omega

/-- copy(row, below[1:]) -/
theorem run_copied (w : World) (gc o W : Nat) (src : Addr) (cs0 : Array Value) (l : List Value) (cs1 : Array Value) (hB : BlkV w gc 3 cs0) (hl : l.length = W - 1) (hW : 1 ≤ W) (hs : o + 2 * W ≤ cs0.size)
    (hsrc : ∀ q, q < W - 1 → ∃ n, l[q]? = some (intC n) ∧ w.cell? (src.add q) = some (intC n)) (h1 : cs1 = (cs0.toList.take o ++ l ++ cs0.toList.drop (o + l.length)).toArray) :
    ∃ w2, (Builtin.copy_ #[51, 51] 3 #[.slice (some ⟨gc, o, none⟩) W W, .slice (some src) (W - 1) (W - 1)]).run Try.prog w = .ok (goInt l.length) w2 ∧ BlkV w2 gc 3 cs1 ∧ w.grownBy w2 (some gc) := by
  refine ⟨_, run_copy_row Try.prog w 51 51 3 3 gc o W W src (W - 1) (W - 1) cs0 3 l Try.underlying51 (by kernel_rfl) hB ?_ ?_ ?_ ?_, ?_, ?_⟩
  · rw [hl]
    exact (Nat.min_eq_left (by omega)).symm
  · intro j v hv
    obtain ⟨n, e1, e2⟩ := hsrc j (by rw [← hl]; exact (List.getElem?_eq_some_iff.1 hv).1)
    rw [e2, ← e1, hv]
  · rw [hl]; omega
  · intro v hv
    obtain ⟨j, hj⟩ := List.getElem?_of_mem hv
    obtain ⟨n, e1, e2⟩ := hsrc j (by rw [← hl]; exact (List.getElem?_eq_some_iff.1 hj).1)
    rw [hj] at e1
    cases e1
    rfl
  · rw [h1]; exact hB.row _
  · rw [← h1]; exact egrown_row _ _ _

/-- what lies below the row -/
def BelowAt (sw : Bool) (A B : List UInt8) (cs : Array Value) (o : Nat) : Prop :=
  o + 2 * (B.length + 1) ≤ cs.size ∧ (∀ q, q ≤ B.length → cs[o + (B.length + 1) + q]? = some (intC (lev sw A.tail (B.drop q)))) ∧
    (1 < A.length → o + 3 * (B.length + 1) ≤ cs.size ∧ ∀ q, q ≤ B.length → cs[o + 2 * (B.length + 1) + q]? = some (intC (lev sw A.tail.tail (B.drop q))))

theorem BelowAt.fill {sw : Bool} {A B : List UInt8} {cs0 cs : Array Value} {o k : Nat} (h : BelowAt sw A B cs0 o) (hf : FillAt sw A B cs0 cs o k) : BelowAt sw A B cs o := by
  obtain ⟨h1, h2, h3⟩ := h
  obtain ⟨f1, f2, f3, f4⟩ := hf
  refine ⟨by rw [f1]; exact h1, fun q hq => ?_, fun hA => ⟨by rw [f1]; exact (h3 hA).1, fun q hq => ?_⟩⟩
  · rw [f4 _ (.inr (by omega))]; exact h2 q hq
  · rw [f4 _ (.inr (by omega))]; exact (h3 hA).2 q hq

end Go.Proofs.Ytookcggmapldeaa
