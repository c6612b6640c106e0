/-
  Slices of tests: one that reads as a list, one of the call's own. By an AI agent.
-/
import Derived.Test.YtookcggmapldeaaRowX
import Derived.Test.YtookcggmapldeaaPlainRul
import Derived.Deep.Slices
namespace Go.Proofs.Ytookcggmapldeaa
open Go.RowKit
set_option linter.unusedVariables false

def encTs (x : TS) : List Value := [.int .i64 x.1.1, .int .i64 x.1.2, .bool x.2]
abbrev aggTs (x : TS) : Value := .agg #[.int .i64 x.1.1, .int .i64 x.1.2, .bool x.2]
def flatTs (l : List TS) : List Value := l.flatMap encTs
theorem flatTs_nil : flatTs [] = [] := rfl
theorem flatTs_cons (x : TS) (l : List TS) : flatTs (x :: l) = .int .i64 x.1.1 :: .int .i64 x.1.2 :: .bool x.2 :: flatTs l := by simp [flatTs, encTs]
theorem flatTs_len (l : List TS) : (flatTs l).length = l.length * 3 := by
  induction l with
  | nil => rfl
  | cons x l ih =>
    rw [flatTs_cons]
    simp only [List.length_cons, ih]
    omega
theorem flatTs_snoc (l : List TS) (x : TS) : flatTs (l ++ [x]) = flatTs l ++ encTs x := by simp [flatTs]
theorem flatTs_append (l m : List TS) : flatTs (l ++ m) = flatTs l ++ flatTs m := by simp [flatTs]
theorem flatTs_at : ∀ {l : List TS} {j : Nat} {x : TS}, l[j]? = some x → (flatTs l)[j * 3]? = some (.int .i64 x.1.1) ∧ (flatTs l)[j * 3 + 1]? = some (.int .i64 x.1.2) ∧ (flatTs l)[j * 3 + 2]? = some (.bool x.2)
  | [], j, x, h => by simp at h
  | y :: l, j, x, h => by
    rw [flatTs_cons]
    cases j with
    | zero =>
      simp at h
      subst h
      exact ⟨rfl, rfl, rfl⟩
    | succ j =>
      have h1 : l[j]? = some x := by simpa using h
      have h2 := flatTs_at h1
      rw [show (j + 1) * 3 = j * 3 + 1 + 1 + 1 by omega]
      exact h2
theorem encTs_one (x : TS) : ∀ v ∈ encTs x, v.oneCell' = true := by
  intro v hv
  simp [encTs] at hv
  rcases hv with rfl | rfl | rfl <;> rfl

/-- a slice whose elements are the tests of a list -/
def InTs (w : World) (a : Option Addr) (l : List TS) : Prop :=
  0 < l.length → ∃ b off, a = some ⟨b, off, none⟩ ∧ b < w.heap.size ∧ ∀ j x, l[j]? = some x → w.cell? ⟨b, off + j * 3, none⟩ = some (.int .i64 x.1.1) ∧ w.cell? ⟨b, off + j * 3 + 1, none⟩ = some (.int .i64 x.1.2) ∧ w.cell? ⟨b, off + j * 3 + 2, none⟩ = some (.bool x.2)
theorem InTs.keep {w w' : World} {a : Option Addr} {l : List TS} (h : InTs w a l) (hs : w.heap.size ≤ w'.heap.size) (hk : ∀ b off, a = some ⟨b, off, none⟩ → b < w.heap.size → w'.heap[b]? = w.heap[b]?) : InTs w' a l := by
  intro h0
  obtain ⟨b, off, ha, hlt, hc⟩ := h h0
  have hk := hk b off ha hlt
  exact ⟨b, off, ha, Nat.lt_of_lt_of_le hlt hs, fun j x hj => ⟨(World.cell?_of_block hk).trans (hc j x hj).1, (World.cell?_of_block hk).trans (hc j x hj).2.1, (World.cell?_of_block hk).trans (hc j x hj).2.2⟩⟩
theorem InTs.below {w w' : World} {a : Option Addr} {l : List TS} (h : InTs w a l) (hb : Below w.heap.size w w') : InTs w' a l := h.keep hb.size fun b _ _ hlt => hb.block b hlt
theorem InTs.alloc {w : World} {a : Option Addr} {l : List TS} (h : InTs w a l) (o : Obj) : InTs (w.alloc o) a l := h.below ((Below.refl _ _).alloc (Nat.le_refl _) o)

/-- a slice of the call's own -/
def OwnTs (w : World) (base : Nat) (v : Value) (l : List TS) : Prop := w.ownsRow base 62 3 v l.length (flatTs l)
theorem info_ts : (Try.prog.info? 62).map (fun i => (i.zero, i.size, i.bytes)) = some (some (.agg #[.int .i64 0, .int .i64 0, .bool false]), 3, 24) := by kernel_rfl
theorem OwnTs.shape {w : World} {base : Nat} {v : Value} {l : List TS} (h : OwnTs w base v l) : ∃ a cap, v = .slice a l.length cap := by
  rcases h.2 with ⟨rfl, h0⟩ | ⟨g, cap, cur, rfl, _⟩
  · exact ⟨none, 0, by rw [h0]⟩
  · exact ⟨_, _, rfl⟩
theorem OwnTs.inTs {w : World} {base : Nat} {a : Option Addr} {n cap : Nat} {l : List TS} (h : OwnTs w base (.slice a n cap) l) : InTs w a l := by
  intro h0
  obtain ⟨a', cap', e⟩ := h.shape
  injection e with e1 e2 e3
  subst e2
  obtain ⟨g, rfl, _, hg, hc⟩ := rowX_at h h0
  refine ⟨g, 0, rfl, hg, fun j x hj => ?_⟩
  obtain ⟨h1, h2, h3⟩ := flatTs_at hj
  exact ⟨hc _ _ h1, by rw [Nat.add_assoc]; exact hc _ _ h2, by rw [Nat.add_assoc]; exact hc _ _ h3⟩
theorem OwnTs.alloc {w : World} {base : Nat} {v : Value} {l : List TS} (h : OwnTs w base v l) (o : Obj) : OwnTs (w.alloc o) base v l := World.ownsRow.alloc h o
theorem OwnTs.below {w w' : World} {base : Nat} {v : Value} {l : List TS} (h : OwnTs w base v l) (hb : Below w.heap.size w w') : OwnTs w' base v l :=
  World.ownsRow.kept h (row := none) ⟨hb.os, hb.tape, hb.output, hb.size, fun i hi _ => hb.block i hi⟩ (by cases hv : v.ownBlock <;> simp)
theorem OwnTs.mono {w : World} {base base' : Nat} {v : Value} {l : List TS} (h : OwnTs w base v l) (hb : base' ≤ base) : OwnTs w base' v l := row_mono h hb
theorem OwnTs.nil (w : World) (base : Nat) : OwnTs w base (.slice none 0 0) [] := World.ownsRow_nil _ _ _ _

/-- a slice of the call's own is handed back -/
def GivesTs (w : World) (l : List TS) (e : Ending) (w' : World) : Prop :=
  ∃ a cap, e = .returned (.slice a l.length cap) ∧ OwnTs w' w.heap.size (.slice a l.length cap) l ∧ Below w.heap.size w w'

/-- an argument of moderate size -/
def SmTs (w : World) (a : Option Addr) (l : List TS) (c : Nat) : Prop := InTs w a l ∧ (a = none → c = 0) ∧ l.length ≤ c ∧ l.length ≤ 4000000
theorem SmTs.below {w w' : World} {a : Option Addr} {l : List TS} {c : Nat} (h : SmTs w a l c) (hb : Below w.heap.size w w') : SmTs w' a l c := ⟨h.1.below hb, h.2⟩
theorem SmTs.alloc {w : World} {a : Option Addr} {l : List TS} {c : Nat} (h : SmTs w a l c) (o : Obj) : SmTs (w.alloc o) a l c := ⟨h.1.alloc o, h.2⟩
theorem SmTs.inTs {w : World} {a : Option Addr} {l : List TS} {c : Nat} (h : SmTs w a l c) : InTs w a l := h.1
theorem SmTs.len {w : World} {a : Option Addr} {l : List TS} {c : Nat} (h : SmTs w a l c) : l.length ≤ 4000000 := h.2.2.2
theorem OwnTs.smTs {w : World} {base : Nat} {a : Option Addr} {n cap : Nat} {l : List TS} (h : OwnTs w base (.slice a n cap) l) (h1 : l.length ≤ 4000000) : SmTs w a l cap := by
  obtain ⟨a', cap', e⟩ := h.shape
  injection e with e1 e2 e3
  subst e2
  exact ⟨h.inTs, rowX_none h, rowX_cap h, h1⟩
/-- an element of a slice of tests -/
theorem InTs.at_ {w : World} {a : Option Addr} {l : List TS} {j : Nat} (h : InTs w a l) (hj : j < l.length) : ∃ (b off : Nat) (f t : Int) (u : Bool), a = some ⟨b, off, none⟩ ∧ b < w.heap.size ∧ l[j]? = some ((f, t), u) ∧ w.cell? ⟨b, off + j * 3, none⟩ = some (.int .i64 f) ∧ w.cell? ⟨b, off + j * 3 + 1, none⟩ = some (.int .i64 t) ∧ w.cell? ⟨b, off + j * 3 + 2, none⟩ = some (.bool u) := by
  obtain ⟨b, off, ha, hlt, hc⟩ := h (by omega)
  have hx := List.getElem?_eq_getElem hj
  obtain ⟨h1, h2, h3⟩ := hc j _ hx
  exact ⟨b, off, _, _, _, ha, hlt, hx, h1, h2, h3⟩

/-- an argument of a law -/
def ArgTs (w : World) (a : Option Addr) (l : List TS) : Prop := InTs w a l ∧ l.length ≤ maxLen
theorem ArgTs.below {w w' : World} {a : Option Addr} {l : List TS} (h : ArgTs w a l) (hb : Below w.heap.size w w') : ArgTs w' a l := ⟨h.1.below hb, h.2⟩
theorem argTs_of {w : World} {x : Addr} {len cap : Nat} (hl : len ≤ cap) (hm : cap ≤ maxLen) (h : ∀ i, i < len → ∃ (f t : Int) (u : Bool), w.cell? (x.add (i * 3)) = some (.int .i64 f) ∧ w.cell? (x.add (i * 3 + 1)) = some (.int .i64 t) ∧ w.cell? (x.add (i * 3 + 2)) = some (.bool u)) : ∃ L : List TS, len = L.length ∧ ArgTs w (some x) L := by
  obtain ⟨f, hf⟩ := Go.Deep.choose_lt (n := len) (p := fun i (q : TS) => w.cell? (x.add (i * 3)) = some (.int .i64 q.1.1) ∧ w.cell? (x.add (i * 3 + 1)) = some (.int .i64 q.1.2) ∧ w.cell? (x.add (i * 3 + 2)) = some (.bool q.2)) (fun i hi => by obtain ⟨f, t, u, h1⟩ := h i hi; exact ⟨((f, t), u), h1⟩)
  refine ⟨(List.range len).map f, by simp, fun h0 => ?_, by simp; omega⟩
  simp at h0
  obtain ⟨b, off, spot⟩ := x
  have hspot : spot = none := by simpa [Addr.add] using World.cell?_spot (hf 0 (by omega)).1
  subst hspot
  have hadd : ∀ j, (⟨b, off, none⟩ : Addr).add j = ⟨b, off + j, none⟩ := fun j => by unfold Addr.add; split <;> simp_all
  refine ⟨b, off, rfl, World.block_lt_of_cell? w _ (hf 0 (by omega)).1, fun j y hj => ?_⟩
  obtain ⟨hlt, he⟩ := List.getElem?_eq_some_iff.1 hj
  simp at hlt he
  obtain ⟨h1, h2, h3⟩ := hf j hlt
  rw [hadd] at h1 h2 h3
  subst he
  exact ⟨h1, h2, h3⟩

theorem ts_take {S : List TS} {k : Nat} {x : TS} (h : S[k]? = some x) : S.take (k + 1) = S.take k ++ [x] := by
  obtain ⟨hlt, he⟩ := List.getElem?_eq_some_iff.1 h
  rw [List.take_succ_eq_append_getElem hlt, he]
theorem gap3_at {p : List Value} {k : Nat} {y0 y1 y2 : Value} {r : List Value} (h : p.length = k * 3) : (p ++ y0 :: y1 :: y2 :: r)[k * 3]? = some y0 ∧ (p ++ y0 :: y1 :: y2 :: r)[k * 3 + 1]? = some y1 ∧ (p ++ y0 :: y1 :: y2 :: r)[k * 3 + 2]? = some y2 := by
  refine ⟨?_, ?_, ?_⟩
  · rw [List.getElem?_append_right (by omega), h, Nat.sub_self]; rfl
  · rw [List.getElem?_append_right (by omega), h, show k * 3 + 1 - k * 3 = 1 by omega]; rfl
  · rw [List.getElem?_append_right (by omega), h, show k * 3 + 2 - k * 3 = 2 by omega]; rfl
theorem gap3_set {p : List Value} {k : Nat} {y0 y1 y2 u0 u1 u2 : Value} {r : List Value} (h : p.length = k * 3) : (((p ++ y0 :: y1 :: y2 :: r).set (k * 3) u0).set (k * 3 + 1) u1).set (k * 3 + 2) u2 = (p ++ [u0, u1, u2]) ++ r := by
  rw [List.set_append_right _ _ (by omega), h, Nat.sub_self, List.set_append_right _ _ (by omega), h, show k * 3 + 1 - k * 3 = 1 by omega, List.set_append_right _ _ (by omega), h, show k * 3 + 2 - k * 3 = 2 by omega]
  simp
theorem gap3_rest {p rest : List Value} {k n : Nat} (h : (p ++ rest).length = n * 3) (hp : p.length = k * 3) (hk : k < n) : ∃ y0 y1 y2 r, rest = y0 :: y1 :: y2 :: r := by
  rw [List.length_append, hp] at h
  match rest, h with
  | [], h => simp at h; omega
  | [_], h => simp at h; omega
  | [_, _], h => simp at h; omega
  | y0 :: y1 :: y2 :: r, _ => exact ⟨y0, y1, y2, r, rfl⟩

end Go.Proofs.Ytookcggmapldeaa
