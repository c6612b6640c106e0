/-
  Rows of the call's own of any elements: what is read of them, what is kept; blocks of two and of three cells. By an AI agent.
-/
import Derived.Test.YtookcggmapldeaaStrS
import Derived.Test.YtookcggmapldeaaEdBlk
namespace Go.Proofs.Ytookcggmapldeaa
open Go.RowKit
set_option linter.unusedVariables false

/-- what is written into the blocks from lo on and below hi alone -/
structure Chg (w w' : World) (lo hi : Nat) : Prop where
  os : w'.os = w.os
  tape : w'.tape = w.tape
  output : w'.output = w.output
  size : w.heap.size ≤ w'.heap.size
  block : ∀ k, k < w.heap.size → ¬ (lo ≤ k ∧ k < hi) → w'.heap[k]? = w.heap[k]?
theorem Chg.refl (w : World) (lo hi : Nat) : Chg w w lo hi := ⟨rfl, rfl, rfl, Nat.le_refl _, fun _ _ _ => rfl⟩
theorem Chg.grown {w w1 w2 : World} {lo hi : Nat} {r : Option Nat} (h : Chg w w1 lo hi) (hg : w1.grownBy w2 r) (hr : ∀ k, r = some k → lo ≤ k ∧ k < hi) : Chg w w2 lo hi :=
  ⟨hg.os.trans h.os, hg.tape.trans h.tape, hg.output.trans h.output, Nat.le_trans h.size hg.size, fun k hk hn => (hg.block k (Nat.lt_of_lt_of_le hk h.size) (fun e => hn (hr k e.symm))).trans (h.block k hk hn)⟩
theorem below_chg {w0 w w' : World} {lo hi : Nat} (hb : Below w0.heap.size w0 w) (h : Chg w w' lo hi) (hlo : w0.heap.size ≤ lo) : Below w0.heap.size w0 w' :=
  ⟨h.os.trans hb.os, h.tape.trans hb.tape, h.output.trans hb.output, Nat.le_trans hb.size h.size, fun k hk => (h.block k (Nat.lt_of_lt_of_le hk hb.size) (by omega)).trans (hb.block k hk)⟩
theorem row_chg {w w' : World} {lo hi base : Nat} {e : TypeId} {size n : Nat} {v : Value} {xs : List Value} (h : w.ownsRow base e size v n xs) (hc : Chg w w' lo hi) (hn : ∀ k, v.ownBlock = some k → ¬ (lo ≤ k ∧ k < hi)) : w'.ownsRow base e size v n xs := by
  refine ⟨h.1, ?_⟩
  rcases h.2 with h1 | ⟨g, cap, cur, rfl, hb, hg, rest⟩
  · exact .inl h1
  · exact .inr ⟨g, cap, cur, rfl, hb, (hc.block g (Array.getElem?_eq_some_iff.1 hg).1 (hn g rfl)).trans hg, rest⟩
theorem OwnH.chg {w w' : World} {lo hi lo' hi' : Nat} {v : Value} {l : List Str} (h : OwnH w lo hi v l) (hc : Chg w w' lo' hi') (hd : hi ≤ lo' ∨ hi' ≤ lo) : OwnH w' lo hi v l :=
  ⟨row_chg h.1 hc fun k hk => by have := h.row k hk; omega, h.2⟩
theorem cell_own {w : World} {base : Nat} {e : TypeId} {a : Option Addr} {n cap : Nat} {xs : List Value} (h : w.ownsRow base e 1 (.slice a n cap) n xs) (h0 : 0 < n) : ∃ g, a = some ⟨g, 0, none⟩ ∧ base ≤ g ∧ g < w.heap.size ∧ ∀ j u, xs[j]? = some u → w.cell? ⟨g, 0 + j, none⟩ = some u := by
  rcases h.2 with ⟨_, h1⟩ | ⟨g, cap', cur, hv, hb, hg, _, _, _, ht⟩
  · omega
  · simp only [Value.slice.injEq] at hv
    refine ⟨g, hv.1, hb, (Array.getElem?_eq_some_iff.1 hg).1, fun j u hj => ?_⟩
    have hlt := (List.getElem?_eq_some_iff.1 hj).1
    rw [h.1] at hlt
    rw [Nat.zero_add, cell_of_row w g j cur _ (0, 0) hg, ← Array.getElem?_toList]
    have h2 : (cur.toList.take (n * 1))[j]? = xs[j]? := by rw [ht]
    rw [List.getElem?_take_of_lt hlt] at h2
    rw [h2, hj]

theorem row_mono {w : World} {base base' : Nat} {e : TypeId} {size n : Nat} {v : Value} {xs : List Value} (h : w.ownsRow base e size v n xs) (hb : base' ≤ base) : w.ownsRow base' e size v n xs := by
  refine ⟨h.1, ?_⟩
  rcases h.2 with hn | ⟨g, cap', cur, hv, hbg, rest⟩
  · exact .inl hn
  · exact .inr ⟨g, cap', cur, hv, Nat.le_trans hb hbg, rest⟩
theorem rowX_none {w : World} {base : Nat} {e : TypeId} {size : Nat} {a : Option Addr} {n cap : Nat} {xs : List Value} (h : w.ownsRow base e size (.slice a n cap) n xs) : a = none → cap = 0 := by
  intro e
  rcases h.2 with ⟨hv, h1⟩ | ⟨g, cap', cur, hv, _⟩
  · simp only [Value.slice.injEq] at hv
    exact hv.2.2
  · simp only [Value.slice.injEq] at hv
    rw [e] at hv
    cases hv.1
theorem rowX_cap {w : World} {base : Nat} {e : TypeId} {size : Nat} {a : Option Addr} {n cap : Nat} {xs : List Value} (h : w.ownsRow base e size (.slice a n cap) n xs) : n ≤ cap := by
  rcases h.2 with ⟨hv, h1⟩ | ⟨g, cap', cur, hv, _, _, h2, _⟩
  · omega
  · simp only [Value.slice.injEq] at hv
    omega
theorem rowX_at {w : World} {base : Nat} {e : TypeId} {size : Nat} {a : Option Addr} {n cap : Nat} {xs : List Value} (h : w.ownsRow base e size (.slice a n cap) n xs) (h0 : 0 < n) : ∃ g, a = some ⟨g, 0, none⟩ ∧ base ≤ g ∧ g < w.heap.size ∧ ∀ (j : Nat) (u : Value), xs[j]? = some u → w.cell? ⟨g, 0 + j, none⟩ = some u := by
  rcases h.2 with ⟨_, h1⟩ | ⟨g, cap', cur, hv, hb, hg, _, _, _, ht⟩
  · omega
  · simp only [Value.slice.injEq] at hv
    refine ⟨g, hv.1, hb, (Array.getElem?_eq_some_iff.1 hg).1, fun j u hj => ?_⟩
    have hlt := (List.getElem?_eq_some_iff.1 hj).1
    rw [h.1] at hlt
    rw [Nat.zero_add, cell_of_row w g j cur _ (0, 0) hg, ← Array.getElem?_toList]
    have h2 : (cur.toList.take (n * size))[j]? = xs[j]? := by rw [ht]
    rw [List.getElem?_take_of_lt hlt] at h2
    rw [h2, hj]

theorem BlkV.two0 {w : World} {g : Nat} {t : TypeId} {a b : Value} (h : BlkV w g t #[a, b]) : w.cell? ⟨g, 0, none⟩ = some a := h.cell 0
theorem BlkV.two1 {w : World} {g : Nat} {t : TypeId} {a b : Value} (h : BlkV w g t #[a, b]) : w.cell? ⟨g, 1, none⟩ = some b := h.cell 1
theorem BlkV.three0 {w : World} {g : Nat} {t : TypeId} {a b c : Value} (h : BlkV w g t #[a, b, c]) : w.cell? ⟨g, 0, none⟩ = some a := h.cell 0
theorem BlkV.three1 {w : World} {g : Nat} {t : TypeId} {a b c : Value} (h : BlkV w g t #[a, b, c]) : w.cell? ⟨g, 1, none⟩ = some b := h.cell 1
theorem BlkV.three2 {w : World} {g : Nat} {t : TypeId} {a b c : Value} (h : BlkV w g t #[a, b, c]) : w.cell? ⟨g, 2, none⟩ = some c := h.cell 2
theorem BlkV.other {w : World} {g : Nat} {t : TypeId} {cs : Array Value} (h : BlkV w g t cs) (p : Addr) (u : Value) (hne : g ≠ p.block) : BlkV (w.setCell p u) g t cs := (Below.heap_setCell w p u g hne).trans h
theorem BlkV.new_ (w : World) (t : TypeId) (cs : Array Value) (g : Nat) (hg : w.heap.size = g) : BlkV (w.alloc (.cells cs t)) g t cs := by subst hg; exact BlkV.new w t cs
theorem row_setCell {w : World} {base : Nat} {e : TypeId} {size n : Nat} {v : Value} {xs : List Value} (h : w.ownsRow base e size v n xs) (p : Addr) (u : Value) (hp : p.block < base) : (w.setCell p u).ownsRow base e size v n xs := by
  refine World.ownsRow.kept (w' := w.setCell p u) h (row := some p.block) ⟨rfl, rfl, rfl, by simp [World.setCell], fun i hi hne => Below.heap_setCell w p u i (fun e => hne (by rw [e]))⟩ ?_
  cases hv : v.ownBlock with
  | none => exact .inl rfl
  | some k =>
    refine .inr fun e => ?_
    have h1 := (World.ownsRow.lt h k hv).1
    simp only [Option.some.injEq] at e
    omega
theorem gap2_at {p : List Value} {k : Nat} {y0 y1 : Value} {r : List Value} (h : p.length = k * 2) : (p ++ y0 :: y1 :: r)[k * 2]? = some y0 ∧ (p ++ y0 :: y1 :: r)[k * 2 + 1]? = some y1 := by
  constructor
  · rw [List.getElem?_append_right (by omega), h, Nat.sub_self]; rfl
  · rw [List.getElem?_append_right (by omega), h, show k * 2 + 1 - k * 2 = 1 by omega]; rfl
theorem gap2_set {p : List Value} {k : Nat} {y0 y1 u0 u1 : Value} {r : List Value} (h : p.length = k * 2) : ((p ++ y0 :: y1 :: r).set (k * 2) u0).set (k * 2 + 1) u1 = (p ++ [u0, u1]) ++ r := by
  rw [List.set_append_right _ _ (by omega), h, Nat.sub_self, List.set_append_right _ _ (by omega), h, show k * 2 + 1 - k * 2 = 1 by omega]
  simp
theorem gap2_rest {p rest : List Value} {k n : Nat} (h : (p ++ rest).length = n * 2) (hp : p.length = k * 2) (hk : k < n) : ∃ y0 y1 r, rest = y0 :: y1 :: r := by
  rw [List.length_append, hp] at h
  match rest, h with
  | [], h => simp at h; omega
  | [_], h => simp at h; omega
  | y0 :: y1 :: r, _ => exact ⟨y0, y1, r, rfl⟩

theorem row_keptO {w w' : World} {base : Nat} {e : TypeId} {size n : Nat} {v : Value} {xs : List Value} {r : Option Nat} (h : w.ownsRow base e size v n xs) (hg : w.grownBy w' r) (hn : ∀ k, r = some k → v.ownBlock ≠ some k) : w'.ownsRow base e size v n xs := by
  refine World.ownsRow.kept h hg ?_
  cases hv : v.ownBlock with
  | none => exact .inl rfl
  | some k => exact .inr fun e => hn k e.symm hv
theorem Chg.trans {w w1 w2 : World} {lo hi : Nat} (h : Chg w w1 lo hi) (h' : Chg w1 w2 lo hi) : Chg w w2 lo hi :=
  ⟨h'.os.trans h.os, h'.tape.trans h.tape, h'.output.trans h.output, Nat.le_trans h.size h'.size, fun k hk hn => (h'.block k (Nat.lt_of_lt_of_le hk h.size) hn).trans (h.block k hk hn)⟩
theorem row_block {w w' : World} {base : Nat} {e : TypeId} {size n : Nat} {v : Value} {xs : List Value} (h : w.ownsRow base e size v n xs) (hb : ∀ k, v.ownBlock = some k → w'.heap[k]? = w.heap[k]?) : w'.ownsRow base e size v n xs := by
  refine ⟨h.1, ?_⟩
  rcases h.2 with h1 | ⟨g, cap, cur, rfl, hbg, hg, rest⟩
  · exact .inl h1
  · exact .inr ⟨g, cap, cur, rfl, hbg, (hb g rfl).trans hg, rest⟩

theorem row_kept {w w' : World} {base : Nat} {v : Value} {l : List Str} {g : Nat} (h : OwnS w base v l) (hg : w.grownBy w' (some g)) (hn : ∀ k, v.ownBlock = some k → k ≠ g) : OwnS w' base v l := by
  refine World.ownsRow.kept h hg ?_
  cases hv : v.ownBlock with
  | none => exact .inl rfl
  | some k => exact .inr fun e => hn k hv (by injection e)
theorem snoc_at {α : Type} {vs : List α} {u x : α} {j : Nat} (h : (vs ++ [u])[j]? = some x) : vs[j]? = some x ∨ (j = vs.length ∧ x = u) := by
  rcases Nat.lt_or_ge j vs.length with hlt | hge
  · rw [List.getElem?_append_left hlt] at h; exact .inl h
  · rw [List.getElem?_append_right hge] at h
    have : j - vs.length = 0 := by have := (List.getElem?_eq_some_iff.1 h).1; simp at this; omega
    rw [this] at h
    simp at h
    exact .inr ⟨by omega, h.symm⟩
theorem ss_row_at {vs rest : List Value} {k n : Nat} (h : (vs ++ rest).length = n) (hv : vs.length = k) (hk : k < n) : ∃ y r, rest = y :: r ∧ (vs ++ y :: r)[k]? = some y ∧ ∀ u, (vs ++ y :: r).set k u = (vs ++ [u]) ++ r := by
  match rest, h with
  | [], h => simp at h; omega
  | y :: r, _ =>
    refine ⟨y, r, rfl, ?_, fun u => ?_⟩
    · rw [List.getElem?_append_right (by omega), hv, Nat.sub_self]; rfl
    · rw [List.set_append_right _ _ (by omega), hv, Nat.sub_self, List.set_cons_zero]; simp

theorem two_cells (w : World) (x y : Value) (T : TypeId) : ∀ j u, [x, y][j]? = some u → (w.alloc (.cells #[x, y] T)).cell? ((⟨w.heap.size, 0, none⟩ : Addr).add j) = some u := by
  intro j u hj
  match j, hj with
  | 0, hj => simp at hj; subst hj; simp [go_sem, Addr.add]
  | 1, hj => simp at hj; subst hj; simp [go_sem, Addr.add]
/-- what is written into blocks that are newer changes nothing -/
theorem Chg.high {w w1 w2 : World} {lo hi : Nat} {r : Option Nat} (h : Chg w w1 lo hi) (hg : w1.grownBy w2 r) (hr : ∀ k, r = some k → (lo ≤ k ∧ k < hi) ∨ w.heap.size ≤ k) : Chg w w2 lo hi :=
  ⟨hg.os.trans h.os, hg.tape.trans h.tape, hg.output.trans h.output, Nat.le_trans h.size hg.size, fun k hk hn => (hg.block k (Nat.lt_of_lt_of_le hk h.size) (fun e => by rcases hr k e.symm with h1 | h1; exact hn h1; omega)).trans (h.block k hk hn)⟩
theorem Chg.belowR {w w1 w2 : World} {lo hi : Nat} (h : Chg w w1 lo hi) (hb : Below w1.heap.size w1 w2) : Chg w w2 lo hi :=
  ⟨hb.os.trans h.os, hb.tape.trans h.tape, hb.output.trans h.output, Nat.le_trans h.size hb.size, fun k hk hn => (hb.block k (Nat.lt_of_lt_of_le hk h.size)).trans (h.block k hk hn)⟩

end Go.Proofs.Ytookcggmapldeaa
