/-
  Slices of nodes of a diagram: one that reads as a list, one of the call's own. By an AI agent.
-/
import Derived.Test.YtookcggmapldeaaRowX
import Derived.Test.YtookcggmapldeaaPlainDg
import Derived.Deep.Slices
namespace Go.Proofs.Ytookcggmapldeaa
open Go.RowKit
set_option linter.unusedVariables false
set_option linter.unusedSimpArgs false
set_option linter.unnecessarySimpa false

def encDn (x : DN) : List Value := [.int .i64 x.1.1, .int .i64 x.1.2, .int .i64 x.2.1, .int .i64 x.2.2]
abbrev aggDn (x : DN) : Value := .agg #[.int .i64 x.1.1, .int .i64 x.1.2, .int .i64 x.2.1, .int .i64 x.2.2]
def flatDn (l : List DN) : List Value := l.flatMap encDn
theorem flatDn_nil : flatDn [] = [] := rfl
theorem flatDn_cons (x : DN) (l : List DN) : flatDn (x :: l) = .int .i64 x.1.1 :: .int .i64 x.1.2 :: .int .i64 x.2.1 :: .int .i64 x.2.2 :: flatDn l := by simp [flatDn, encDn]
theorem flatDn_len (l : List DN) : (flatDn l).length = l.length * 4 := by
  induction l with
  | nil => rfl
  | cons x l ih =>
    rw [flatDn_cons]
    simp only [List.length_cons, ih]
    omega
theorem flatDn_snoc (l : List DN) (x : DN) : flatDn (l ++ [x]) = flatDn l ++ encDn x := by simp [flatDn]
theorem flatDn_append (l m : List DN) : flatDn (l ++ m) = flatDn l ++ flatDn m := by simp [flatDn]
theorem flatDn_at : ∀ {l : List DN} {j : Nat} {x : DN}, l[j]? = some x → (flatDn l)[j * 4]? = some (.int .i64 x.1.1) ∧ (flatDn l)[j * 4 + 1]? = some (.int .i64 x.1.2) ∧ (flatDn l)[j * 4 + 2]? = some (.int .i64 x.2.1) ∧ (flatDn l)[j * 4 + 3]? = some (.int .i64 x.2.2)
  | [], j, x, h => by simp at h
  | y :: l, j, x, h => by
    rw [flatDn_cons]
    cases j with
    | zero =>
      simp at h
      subst h
      exact ⟨rfl, rfl, rfl, rfl⟩
    | succ j =>
      have h1 : l[j]? = some x := by simpa using h
      have h2 := flatDn_at h1
      rw [show (j + 1) * 4 = j * 4 + 1 + 1 + 1 + 1 by omega]
      exact h2
theorem encDn_one (x : DN) : ∀ v ∈ encDn x, v.oneCell' = true := by
  intro v hv
  simp [encDn] at hv
  rcases hv with rfl | rfl | rfl | rfl <;> rfl

/-- the cells of a node -/
def NodeAt (w : World) (b o : Nat) (x : DN) : Prop :=
  w.cell? ⟨b, o, none⟩ = some (.int .i64 x.1.1) ∧ w.cell? ⟨b, o + 1, none⟩ = some (.int .i64 x.1.2) ∧ w.cell? ⟨b, o + 2, none⟩ = some (.int .i64 x.2.1) ∧ w.cell? ⟨b, o + 3, none⟩ = some (.int .i64 x.2.2)
theorem NodeAt.of_block {w w' : World} {b o : Nat} {x : DN} (h : NodeAt w b o x) (hk : w'.heap[b]? = w.heap[b]?) : NodeAt w' b o x :=
  ⟨(World.cell?_of_block hk).trans h.1, (World.cell?_of_block hk).trans h.2.1, (World.cell?_of_block hk).trans h.2.2.1, (World.cell?_of_block hk).trans h.2.2.2⟩
/-- a slice whose elements are the nodes of a list -/
def InDn (w : World) (a : Option Addr) (l : List DN) : Prop :=
  0 < l.length → ∃ b off, a = some ⟨b, off, none⟩ ∧ b < w.heap.size ∧ ∀ j x, l[j]? = some x → NodeAt w b (off + j * 4) x
theorem InDn.keep {w w' : World} {a : Option Addr} {l : List DN} (h : InDn w a l) (hs : w.heap.size ≤ w'.heap.size) (hk : ∀ b off, a = some ⟨b, off, none⟩ → b < w.heap.size → w'.heap[b]? = w.heap[b]?) : InDn w' a l := by
  intro h0
  obtain ⟨b, off, ha, hlt, hc⟩ := h h0
  have hk := hk b off ha hlt
  exact ⟨b, off, ha, Nat.lt_of_lt_of_le hlt hs, fun j x hj => (hc j x hj).of_block hk⟩
theorem InDn.below {w w' : World} {a : Option Addr} {l : List DN} (h : InDn w a l) (hb : Below w.heap.size w w') : InDn w' a l := h.keep hb.size fun b _ _ hlt => hb.block b hlt
theorem InDn.alloc {w : World} {a : Option Addr} {l : List DN} (h : InDn w a l) (o : Obj) : InDn (w.alloc o) a l := h.below ((Below.refl _ _).alloc (Nat.le_refl _) o)
/-- the first nodes of a list -/
theorem InDn.take {w : World} {a : Option Addr} {l : List DN} (h : InDn w a l) (k : Nat) : InDn w a (l.take k) := by
  intro h0
  obtain ⟨b, off, ha, hlt, hc⟩ := h (by rw [List.length_take] at h0; omega)
  refine ⟨b, off, ha, hlt, fun j x hj => hc j x ?_⟩
  have := (List.getElem?_eq_some_iff.1 hj).1
  rw [List.length_take] at this
  rwa [List.getElem?_take_of_lt (by omega)] at hj

/-- a slice of the call's own -/
def OwnDn (w : World) (base : Nat) (v : Value) (l : List DN) : Prop := w.ownsRow base 86 4 v l.length (flatDn l)
theorem info_dn : (Try.prog.info? 86).map (fun i => (i.zero, i.size, i.bytes)) = some (some (.agg #[.int .i64 0, .int .i64 0, .int .i64 0, .int .i64 0]), 4, 32) := by kernel_rfl
theorem OwnDn.shape {w : World} {base : Nat} {v : Value} {l : List DN} (h : OwnDn w base v l) : ∃ a cap, v = .slice a l.length cap := by
  rcases h.2 with ⟨rfl, h0⟩ | ⟨g, cap, cur, rfl, _⟩
  · exact ⟨none, 0, by rw [h0]⟩
  · exact ⟨_, _, rfl⟩
theorem OwnDn.inDn {w : World} {base : Nat} {a : Option Addr} {n cap : Nat} {l : List DN} (h : OwnDn w base (.slice a n cap) l) : InDn w a l := by
  intro h0
  obtain ⟨a', cap', e⟩ := h.shape
  injection e with e1 e2 e3
  subst e2
  obtain ⟨g, rfl, _, hg, hc⟩ := rowX_at h h0
  refine ⟨g, 0, rfl, hg, fun j x hj => ?_⟩
  obtain ⟨h1, h2, h3, h4⟩ := flatDn_at hj
  exact ⟨hc _ _ h1, by rw [Nat.add_assoc]; exact hc _ _ h2, by rw [Nat.add_assoc]; exact hc _ _ h3, by rw [Nat.add_assoc]; exact hc _ _ h4⟩
theorem OwnDn.alloc {w : World} {base : Nat} {v : Value} {l : List DN} (h : OwnDn w base v l) (o : Obj) : OwnDn (w.alloc o) base v l := World.ownsRow.alloc h o
theorem OwnDn.below {w w' : World} {base : Nat} {v : Value} {l : List DN} (h : OwnDn w base v l) (hb : Below w.heap.size w w') : OwnDn w' base v l :=
  World.ownsRow.kept h (row := none) ⟨hb.os, hb.tape, hb.output, hb.size, fun i hi _ => hb.block i hi⟩ (by cases hv : v.ownBlock <;> simp)
theorem OwnDn.mono {w : World} {base base' : Nat} {v : Value} {l : List DN} (h : OwnDn w base v l) (hb : base' ≤ base) : OwnDn w base' v l := row_mono h hb
theorem OwnDn.nil (w : World) (base : Nat) : OwnDn w base (.slice none 0 0) [] := World.ownsRow_nil _ _ _ _
theorem OwnDn.setCell {w : World} {lo : Nat} {v : Value} {l : List DN} (h : OwnDn w lo v l) (p : Addr) (u : Value) (hp : p.block < lo) : OwnDn (w.setCell p u) lo v l := row_setCell h p u hp

/-- an argument of moderate size -/
def SmDn (w : World) (a : Option Addr) (l : List DN) (c : Nat) : Prop := InDn w a l ∧ (a = none → c = 0) ∧ l.length ≤ c ∧ l.length ≤ 4000000
theorem SmDn.below {w w' : World} {a : Option Addr} {l : List DN} {c : Nat} (h : SmDn w a l c) (hb : Below w.heap.size w w') : SmDn w' a l c := ⟨h.1.below hb, h.2⟩
theorem SmDn.alloc {w : World} {a : Option Addr} {l : List DN} {c : Nat} (h : SmDn w a l c) (o : Obj) : SmDn (w.alloc o) a l c := ⟨h.1.alloc o, h.2⟩
theorem SmDn.inDn {w : World} {a : Option Addr} {l : List DN} {c : Nat} (h : SmDn w a l c) : InDn w a l := h.1
theorem SmDn.len {w : World} {a : Option Addr} {l : List DN} {c : Nat} (h : SmDn w a l c) : l.length ≤ 4000000 := h.2.2.2
theorem SmDn.take {w : World} {a : Option Addr} {l : List DN} {c : Nat} (h : SmDn w a l c) (k : Nat) : SmDn w a (l.take k) c := ⟨h.1.take k, h.2.1, by have := h.2.2.1; rw [List.length_take]; omega, by have := h.2.2.2; rw [List.length_take]; omega⟩
theorem OwnDn.smDn {w : World} {base : Nat} {a : Option Addr} {n cap : Nat} {l : List DN} (h : OwnDn w base (.slice a n cap) l) (h1 : l.length ≤ 4000000) : SmDn w a l cap := by
  obtain ⟨a', cap', e⟩ := h.shape
  injection e with e1 e2 e3
  subst e2
  exact ⟨h.inDn, rowX_none h, rowX_cap h, h1⟩
/-- an element of a slice of nodes -/
theorem InDn.at_ {w : World} {a : Option Addr} {l : List DN} {j : Nat} (h : InDn w a l) (hj : j < l.length) : ∃ (b off : Nat) (f t u z : Int), a = some ⟨b, off, none⟩ ∧ b < w.heap.size ∧ l[j]? = some ((f, t), (u, z)) ∧ w.cell? ⟨b, off + j * 4, none⟩ = some (.int .i64 f) ∧ w.cell? ⟨b, off + j * 4 + 1, none⟩ = some (.int .i64 t) ∧ w.cell? ⟨b, off + j * 4 + 2, none⟩ = some (.int .i64 u) ∧ w.cell? ⟨b, off + j * 4 + 3, none⟩ = some (.int .i64 z) := by
  obtain ⟨b, off, ha, hlt, hc⟩ := h (by omega)
  have hx := List.getElem?_eq_getElem hj
  obtain ⟨h1, h2, h3, h4⟩ := hc j _ hx
  exact ⟨b, off, _, _, _, _, ha, hlt, hx, h1, h2, h3, h4⟩

/-- an argument of a law -/
def ArgDn (w : World) (a : Option Addr) (l : List DN) : Prop := InDn w a l ∧ l.length ≤ maxLen
theorem ArgDn.below {w w' : World} {a : Option Addr} {l : List DN} (h : ArgDn w a l) (hb : Below w.heap.size w w') : ArgDn w' a l := ⟨h.1.below hb, h.2⟩
theorem argDn_of {w : World} {x : Addr} {len cap : Nat} (hl : len ≤ cap) (hm : cap ≤ maxLen) (h : ∀ i, i < len → ∃ (f t u z : Int), w.cell? (x.add (i * 4)) = some (.int .i64 f) ∧ w.cell? (x.add (i * 4 + 1)) = some (.int .i64 t) ∧ w.cell? (x.add (i * 4 + 2)) = some (.int .i64 u) ∧ w.cell? (x.add (i * 4 + 3)) = some (.int .i64 z)) : ∃ L : List DN, len = L.length ∧ ArgDn w (some x) L := by
  obtain ⟨f, hf⟩ := Go.Deep.choose_lt (n := len) (p := fun i (q : DN) => w.cell? (x.add (i * 4)) = some (.int .i64 q.1.1) ∧ w.cell? (x.add (i * 4 + 1)) = some (.int .i64 q.1.2) ∧ w.cell? (x.add (i * 4 + 2)) = some (.int .i64 q.2.1) ∧ w.cell? (x.add (i * 4 + 3)) = some (.int .i64 q.2.2)) (fun i hi => by obtain ⟨f, t, u, z, h1⟩ := h i hi; exact ⟨((f, t), (u, z)), h1⟩)
  refine ⟨(List.range len).map f, by simp, fun h0 => ?_, by simp; omega⟩
  simp at h0
  obtain ⟨b, off, spot⟩ := x
  have hspot : spot = none := by simpa [Addr.add] using World.cell?_spot (hf 0 (by omega)).1
  subst hspot
  have hadd : ∀ j, (⟨b, off, none⟩ : Addr).add j = ⟨b, off + j, none⟩ := fun j => by unfold Addr.add; split <;> simp_all
  refine ⟨b, off, rfl, World.block_lt_of_cell? w _ (hf 0 (by omega)).1, fun j y hj => ?_⟩
  obtain ⟨hlt, he⟩ := List.getElem?_eq_some_iff.1 hj
  simp at hlt he
  obtain ⟨h1, h2, h3, h4⟩ := hf j hlt
  rw [hadd] at h1 h2 h3 h4
  subst he
  exact ⟨h1, h2, h3, h4⟩

theorem gap4_at {p : List Value} {k : Nat} {y0 y1 y2 y3 : Value} {r : List Value} (h : p.length = k * 4) : (p ++ y0 :: y1 :: y2 :: y3 :: r)[k * 4]? = some y0 ∧ (p ++ y0 :: y1 :: y2 :: y3 :: r)[k * 4 + 1]? = some y1 ∧ (p ++ y0 :: y1 :: y2 :: y3 :: r)[k * 4 + 2]? = some y2 ∧ (p ++ y0 :: y1 :: y2 :: y3 :: r)[k * 4 + 3]? = some y3 := by
  refine ⟨?_, ?_, ?_, ?_⟩
  · rw [List.getElem?_append_right (by omega), h, Nat.sub_self]; rfl
  · rw [List.getElem?_append_right (by omega), h, show k * 4 + 1 - k * 4 = 1 by omega]; rfl
  · rw [List.getElem?_append_right (by omega), h, show k * 4 + 2 - k * 4 = 2 by omega]; rfl
  · rw [List.getElem?_append_right (by omega), h, show k * 4 + 3 - k * 4 = 3 by omega]; rfl
theorem gap4_set {p : List Value} {k : Nat} {y0 y1 y2 y3 u0 u1 u2 u3 : Value} {r : List Value} (h : p.length = k * 4) : ((((p ++ y0 :: y1 :: y2 :: y3 :: r).set (k * 4) u0).set (k * 4 + 1) u1).set (k * 4 + 2) u2).set (k * 4 + 3) u3 = (p ++ [u0, u1, u2, u3]) ++ r := by
  rw [List.set_append_right _ _ (by omega), h, Nat.sub_self, List.set_append_right _ _ (by omega), h, show k * 4 + 1 - k * 4 = 1 by omega, List.set_append_right _ _ (by omega), h, show k * 4 + 2 - k * 4 = 2 by omega, List.set_append_right _ _ (by omega), h, show k * 4 + 3 - k * 4 = 3 by omega]
  simp
theorem gap4_rest {p rest : List Value} {k n : Nat} (h : (p ++ rest).length = n * 4) (hp : p.length = k * 4) (hk : k < n) : ∃ y0 y1 y2 y3 r, rest = y0 :: y1 :: y2 :: y3 :: r := by
  rw [List.length_append, hp] at h
  match rest, h with
  | [], h => simp at h; omega
  | [_], h => simp at h; omega
  | [_, _], h => simp at h; omega
  | [_, _, _], h => simp at h; omega
  | y0 :: y1 :: y2 :: y3 :: r, _ => exact ⟨y0, y1, y2, y3, r, rfl⟩

end Go.Proofs.Ytookcggmapldeaa
