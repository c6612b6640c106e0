/-
  Slices of indexed sets: one that reads as a list, one of the call's own; indexes of sets as values. By an AI agent.
-/
import Derived.Test.YthjbekgognfiiaaSsS
import Derived.Test.YthjbekgognfiiaaJ3
import Derived.Test.YthjbekgognfiiaaTcW
namespace Go.Proofs.Ythjbekgognfiiaa
open Go.RowKit
set_option linter.unusedVariables false

/-- an element of a slice of the call's own: the set, and the value of its tokens -/
abbrev XS := IS × Value
def encX (p : XS) : List Value := [.int .i64 p.1.1, p.2]
def flatX (q : List XS) : List Value := q.flatMap encX
def setsX (q : List XS) : List IS := q.map Prod.fst
theorem setsX_len (q : List XS) : (setsX q).length = q.length := by simp [setsX]
theorem flatX_len (q : List XS) : (flatX q).length = q.length * 2 := by
  induction q with
  | nil => rfl
  | cons x l ih =>
    have e : flatX (x :: l) = encX x ++ flatX l := by simp [flatX]
    rw [e, List.length_append, ih, List.length_cons]
    show 2 + l.length * 2 = _
    omega
theorem flatX_cons (x : XS) (q : List XS) : flatX (x :: q) = .int .i64 x.1.1 :: x.2 :: flatX q := by simp [flatX, encX]
theorem flatX_append (q r : List XS) : flatX (q ++ r) = flatX q ++ flatX r := by simp [flatX]
theorem flatX_snoc (q : List XS) (x : XS) : flatX (q ++ [x]) = flatX q ++ encX x := by simp [flatX]
theorem flatX_at : ∀ {q : List XS} {j : Nat} {x : XS}, q[j]? = some x → (flatX q)[j * 2]? = some (.int .i64 x.1.1) ∧ (flatX q)[j * 2 + 1]? = some x.2
  | [], j, x, h => by simp at h
  | y :: l, j, x, h => by
    rw [flatX_cons]
    cases j with
    | zero =>
      simp at h
      subst h
      exact ⟨rfl, rfl⟩
    | succ j =>
      have h1 : l[j]? = some x := by simpa using h
      have h2 := flatX_at h1
      rw [show (j + 1) * 2 = j * 2 + 1 + 1 by omega]
      exact h2
theorem flatX_set0 {q : List XS} {j : Nat} {x : XS} (h : q[j]? = some x) (z : Int) : (flatX q).set (j * 2) (.int .i64 z) = flatX (q.set j ((z, x.1.2), x.2)) := by
  induction q generalizing j with
  | nil => simp at h
  | cons y l ih =>
    cases j with
    | zero =>
      simp at h
      subst h
      simp [flatX, encX]
    | succ j =>
      have h1 : l[j]? = some x := by simpa using h
      rw [flatX_cons, List.set_cons_succ, flatX_cons, show (j + 1) * 2 = j * 2 + 1 + 1 by omega, List.set_cons_succ, List.set_cons_succ, ih h1]

/-- a slice whose elements are the sets of a list -/
def InX (w : World) (a : Option Addr) (S : List IS) : Prop :=
  0 < S.length → ∃ b off, a = some ⟨b, off, none⟩ ∧ b < w.heap.size ∧ ∀ j x, S[j]? = some x → ∃ a' c', w.cell? ⟨b, off + j * 2, none⟩ = some (.int .i64 x.1) ∧ w.cell? ⟨b, off + j * 2 + 1, none⟩ = some (.slice a' x.2.length c') ∧ (a' = none → c' = 0) ∧ x.2.length ≤ c' ∧ InS w a' x.2
theorem InX.below {w w' : World} {a : Option Addr} {S : List IS} (h : InX w a S) (hb : Below w.heap.size w w') : InX w' a S := by
  intro h0
  obtain ⟨b, off, ha, hlt, hc⟩ := h h0
  have hk := hb.block b hlt
  refine ⟨b, off, ha, Nat.lt_of_lt_of_le hlt hb.size, fun j x hj => ?_⟩
  obtain ⟨a', c', h1, h2, h3, h4, h5⟩ := hc j x hj
  exact ⟨a', c', (World.cell?_of_block hk).trans h1, (World.cell?_of_block hk).trans h2, h3, h4, h5.below hb⟩
theorem InX.alloc {w : World} {a : Option Addr} {S : List IS} (h : InX w a S) (o : Obj) : InX (w.alloc o) a S := h.below ((Below.refl _ _).alloc (Nat.le_refl _) o)

/-- an argument of a law -/
def ArgX (w : World) (a : Option Addr) (S : List IS) : Prop := InX w a S ∧ S.length ≤ maxLen ∧ ∀ x ∈ S, x.2.length ≤ maxLen ∧ ∀ y ∈ x.2, y.length ≤ maxLen
theorem ArgX.below {w0 w : World} {a : Option Addr} {S : List IS} (h : ArgX w0 a S) (hb : Below w0.heap.size w0 w) : ArgX w a S := ⟨h.1.below hb, h.2⟩
theorem argX_of {w : World} {x : Addr} {len cap : Nat} (hl : len ≤ cap) (hm : cap ≤ maxLen) (h : ∀ i, i < len → ∃ (z : Int) (a' : Option Addr) (l : List Str) (c' : Nat), w.cell? (x.add (i * 2)) = some (.int .i64 z) ∧ w.cell? (x.add (i * 2 + 1)) = some (.slice a' l.length c') ∧ (a' = none → c' = 0) ∧ l.length ≤ c' ∧ ArgS w a' l) : ∃ L : List IS, len = L.length ∧ ArgX w (some x) L := by
  obtain ⟨f, hf⟩ := Go.Deep.choose_lt (n := len) (p := fun i (q : Int × Option Addr × List Str × Nat) => w.cell? (x.add (i * 2)) = some (.int .i64 q.1) ∧ w.cell? (x.add (i * 2 + 1)) = some (.slice q.2.1 q.2.2.1.length q.2.2.2) ∧ (q.2.1 = none → q.2.2.2 = 0) ∧ q.2.2.1.length ≤ q.2.2.2 ∧ ArgS w q.2.1 q.2.2.1) (fun i hi => by obtain ⟨z, a', l, c', h1⟩ := h i hi; exact ⟨(z, a', l, c'), h1⟩)
  refine ⟨(List.range len).map fun i => ((f i).1, (f i).2.2.1), by simp, fun h0 => ?_, by simp; omega, fun y hy => ?_⟩
  · simp at h0
    obtain ⟨b, off, spot⟩ := x
    have hspot : spot = none := by simpa [Addr.add] using World.cell?_spot (hf 0 (by omega)).1
    subst hspot
    have hadd : ∀ j, (⟨b, off, none⟩ : Addr).add j = ⟨b, off + j, none⟩ := fun j => by unfold Addr.add; split <;> simp_all
    refine ⟨b, off, rfl, World.block_lt_of_cell? w _ (hf 0 (by omega)).1, fun j y hj => ?_⟩
    obtain ⟨hlt, he⟩ := List.getElem?_eq_some_iff.1 hj
    simp at hlt he
    obtain ⟨h1, h2, h3, h4, h5⟩ := hf j hlt
    rw [hadd] at h1 h2
    subst he
    exact ⟨_, _, h1, h2, h3, h4, h5.1⟩
  · obtain ⟨i, hi, rfl⟩ := List.mem_map.1 hy
    exact (hf i (List.mem_range.1 hi)).2.2.2.2.2

theorem ixs_take {S : List IS} {k : Nat} {x : IS} (h : S[k]? = some x) : S.take (k + 1) = S.take k ++ [x] := takeX h
/-- the tokens of the sets -/
def toksX (S : List IS) : List (List Str) := S.map Prod.snd
theorem toksX_at {S : List IS} {j : Nat} {x : IS} (h : S[j]? = some x) : (toksX S)[j]? = some x.2 := by simp [toksX, h]
theorem toksX_len (S : List IS) : (toksX S).length = S.length := by simp [toksX]
theorem toksX_mem {S : List IS} {x : IS} (h : x ∈ S) : x.2 ∈ toksX S := List.mem_map.2 ⟨x, h, rfl⟩

/-- an argument of moderate size -/
def SmX (w : World) (a : Option Addr) (S : List IS) (c : Nat) : Prop := InX w a S ∧ (a = none → c = 0) ∧ S.length ≤ c ∧ S.length ≤ 4000000 ∧ ∀ x ∈ S, x.2.length ≤ 4000000 ∧ ∀ y ∈ x.2, y.length ≤ 1048576
theorem SmX.below {w w' : World} {a : Option Addr} {S : List IS} {c : Nat} (h : SmX w a S c) (hb : Below w.heap.size w w') : SmX w' a S c := ⟨h.1.below hb, h.2⟩
theorem SmX.alloc {w : World} {a : Option Addr} {S : List IS} {c : Nat} (h : SmX w a S c) (o : Obj) : SmX (w.alloc o) a S c := ⟨h.1.alloc o, h.2⟩
/-- an element of a slice of moderate size -/
theorem SmX.at_ {w : World} {a : Option Addr} {S : List IS} {c j : Nat} (h : SmX w a S c) (hj : j < S.length) : ∃ (b off : Nat) (x : IS) (a' : Option Addr) (c' : Nat), a = some ⟨b, off, none⟩ ∧ b < w.heap.size ∧ S[j]? = some x ∧ w.cell? ⟨b, off + j * 2, none⟩ = some (.int .i64 x.1) ∧ w.cell? ⟨b, off + j * 2 + 1, none⟩ = some (.slice a' x.2.length c') ∧ Sm w a' x.2 c' := by
  obtain ⟨b, off, ha, hlt, hc⟩ := h.1 (by omega)
  have hx := List.getElem?_eq_getElem hj
  obtain ⟨a', c', h1, h2, h3, h4, h5⟩ := hc j _ hx
  obtain ⟨h6, h7⟩ := h.2.2.2.2 _ (List.mem_of_getElem? hx)
  exact ⟨b, off, _, a', c', ha, hlt, hx, h1, h2, h5, h3, h4, h6, h7⟩

/-- a slice of the call's own, its elements' tokens in other blocks of the call's own -/
structure OwnX (w : World) (lo : Nat) (v : Value) (q : List XS) : Prop where
  out : w.ownsRow lo 50 2 v q.length (flatX q)
  row : ∀ p ∈ q, OwnS w lo p.2 p.1.2
  apart : ∀ p ∈ q, ∀ k, p.2.ownBlock = some k → v.ownBlock ≠ some k
  dis : q.Pairwise fun p r => ∀ k, p.2.ownBlock = some k → r.2.ownBlock ≠ some k
theorem info_ixs : (Try.prog.info? 50).map (fun i => (i.zero, i.size, i.bytes)) = some (some (.agg #[.int .i64 0, .slice none 0 0]), 2, 32) := by kernel_rfl
theorem OwnX.below {w w' : World} {lo : Nat} {v : Value} {q : List XS} (h : OwnX w lo v q) (hb : Below w.heap.size w w') : OwnX w' lo v q :=
  ⟨World.ownsRow.kept h.out (row := none) ⟨hb.os, hb.tape, hb.output, hb.size, fun i hi _ => hb.block i hi⟩ (by cases hv : v.ownBlock <;> simp), fun p hp => (h.row p hp).below hb, h.apart, h.dis⟩
theorem row_mono {w : World} {base base' : Nat} {e : TypeId} {size n : Nat} {v : Value} {xs : List Value} (h : w.ownsRow base e size v n xs) (hb : base' ≤ base) : w.ownsRow base' e size v n xs := by
  refine ⟨h.1, ?_⟩
  rcases h.2 with hn | ⟨g, cap', cur, hv, hbg, rest⟩
  · exact .inl hn
  · exact .inr ⟨g, cap', cur, hv, Nat.le_trans hb hbg, rest⟩
theorem OwnX.mono {w : World} {lo lo' : Nat} {v : Value} {q : List XS} (h : OwnX w lo v q) (hb : lo' ≤ lo) : OwnX w lo' v q :=
  ⟨row_mono h.out hb, fun p hp => (h.row p hp).mono hb, h.apart, h.dis⟩
theorem OwnX.shape {w : World} {lo : Nat} {v : Value} {q : List XS} (h : OwnX w lo v q) : ∃ a cap, v = .slice a q.length cap := by
  rcases h.out.2 with ⟨rfl, h0⟩ | ⟨g, cap, cur, rfl, _⟩
  · exact ⟨none, 0, by rw [h0]⟩
  · exact ⟨_, _, rfl⟩
theorem rowX_none {w : World} {base : Nat} {e : TypeId} {size : Nat} {a : Option Addr} {n cap : Nat} {xs : List Value} (h : w.ownsRow base e size (.slice a n cap) n xs) : a = none → cap = 0 := by
  intro e
  rcases h.2 with ⟨hv, h1⟩ | ⟨g, cap', cur, hv, _⟩
  · simp only [Value.slice.injEq] at hv
    exact hv.2.2
  · simp only [Value.slice.injEq] at hv
    rw [e] at hv
    cases hv.1
theorem rowX_cap {w : World} {base : Nat} {e : TypeId} {size : Nat} {a : Option Addr} {n cap : Nat} {xs : List Value} (h : w.ownsRow base e size (.slice a n cap) n xs) : n ≤ cap := by
  rcases h.2 with ⟨hv, h1⟩ | ⟨g, cap', cur, hv, _, _, h2, _⟩
  · omega
  · simp only [Value.slice.injEq] at hv
    omega
theorem rowX_at {w : World} {base : Nat} {e : TypeId} {size : Nat} {a : Option Addr} {n cap : Nat} {xs : List Value} (h : w.ownsRow base e size (.slice a n cap) n xs) (h0 : 0 < n) : ∃ g, a = some ⟨g, 0, none⟩ ∧ base ≤ g ∧ g < w.heap.size ∧ ∀ (j : Nat) (u : Value), xs[j]? = some u → w.cell? ⟨g, 0 + j, none⟩ = some u := by
  rcases h.2 with ⟨_, h1⟩ | ⟨g, cap', cur, hv, hb, hg, _, _, _, ht⟩
  · omega
  · simp only [Value.slice.injEq] at hv
    refine ⟨g, hv.1, hb, (Array.getElem?_eq_some_iff.1 hg).1, fun j u hj => ?_⟩
    have hlt := (List.getElem?_eq_some_iff.1 hj).1
    rw [h.1] at hlt
    rw [Nat.zero_add, cell_of_row w g j cur _ (0, 0) hg, ← Array.getElem?_toList]
    have h2 : (cur.toList.take (n * size))[j]? = xs[j]? := by rw [ht]
    rw [List.getElem?_take_of_lt hlt] at h2
    rw [h2, hj]
theorem setsX_at {q : List XS} {j : Nat} {x : IS} (h : (setsX q)[j]? = some x) : ∃ p, q[j]? = some p ∧ p.1 = x := by
  unfold setsX at h
  rw [List.getElem?_map] at h
  cases hq : q[j]? with
  | none => rw [hq] at h; cases h
  | some p => rw [hq] at h; exact ⟨p, rfl, by injection h⟩
theorem OwnX.inX {w : World} {lo : Nat} {a : Option Addr} {n cap : Nat} {q : List XS} (h : OwnX w lo (.slice a n cap) q) : InX w a (setsX q) := by
  intro h0
  obtain ⟨a', cap', e⟩ := h.shape
  injection e with e1 e2 e3
  subst e2
  rw [setsX_len] at h0
  obtain ⟨g, rfl, _, hg, hc⟩ := rowX_at h.out h0
  refine ⟨g, 0, rfl, hg, fun j x hj => ?_⟩
  obtain ⟨p, hp, rfl⟩ := setsX_at hj
  obtain ⟨h1, h2⟩ := flatX_at hp
  have ho := h.row p (List.mem_of_getElem? hp)
  obtain ⟨a1, c1, e1⟩ := ho.shape
  rw [e1] at ho
  refine ⟨a1, c1, hc _ _ h1, by rw [Nat.add_assoc, hc _ _ h2, e1], ho.none_cap, ho.cap_ge, ho.inS⟩
theorem OwnX.smX {w : World} {lo : Nat} {a : Option Addr} {n cap : Nat} {q : List XS} {S : List IS} (h : OwnX w lo (.slice a n cap) q) (hq : setsX q = S) (h1 : S.length ≤ 4000000) (h2 : ∀ x ∈ S, x.2.length ≤ 4000000 ∧ ∀ y ∈ x.2, y.length ≤ 1048576) : SmX w a S cap := by
  subst hq
  obtain ⟨a', cap', e⟩ := h.shape
  injection e with e1 e2 e3
  subst e2
  exact ⟨h.inX, rowX_none h.out, by rw [setsX_len]; exact rowX_cap h.out, h1, h2⟩

/-- .. in blocks from lo on and below hi -/
def OwnHX (w : World) (lo hi : Nat) (v : Value) (q : List XS) : Prop := OwnX w lo v q ∧ (∀ k, v.ownBlock = some k → k < hi) ∧ ∀ p ∈ q, ∀ k, p.2.ownBlock = some k → k < hi
theorem OwnHX.of {w : World} {lo : Nat} {v : Value} {q : List XS} (h : OwnX w lo v q) : OwnHX w lo w.heap.size v q :=
  ⟨h, fun k hk => (World.ownsRow.lt h.out k hk).2, fun p hp k hk => (World.ownsRow.lt (h.row p hp) k hk).2⟩
theorem OwnHX.below {w w' : World} {lo hi : Nat} {v : Value} {q : List XS} (h : OwnHX w lo hi v q) (hb : Below w.heap.size w w') : OwnHX w' lo hi v q := ⟨h.1.below hb, h.2⟩
theorem OwnHX.chg {w w' : World} {lo hi lo' hi' : Nat} {v : Value} {q : List XS} (h : OwnHX w lo hi v q) (hc : Chg w w' lo' hi') (hd : hi ≤ lo' ∨ hi' ≤ lo) : OwnHX w' lo hi v q :=
  ⟨⟨row_chg h.1.out hc fun k hk => by have := (World.ownsRow.lt h.1.out k hk).1; have := h.2.1 k hk; omega,
    fun p hp => row_chg (h.1.row p hp) hc fun k hk => by have := (World.ownsRow.lt (h.1.row p hp) k hk).1; have := h.2.2 p hp k hk; omega, h.1.apart, h.1.dis⟩, h.2⟩

/-- an index of the call's own -/
structure OwnIx (w : World) (lo hi : Nat) (vT vX : Value) (T : List TC) (q : List XS) : Prop where
  tab : OwnHT w lo hi vT T
  sets : OwnHX w lo hi vX q
  apart : ∀ k, vT.ownBlock = some k → vX.ownBlock ≠ some k ∧ ∀ p ∈ q, p.2.ownBlock ≠ some k
theorem OwnIx.below {w w' : World} {lo hi : Nat} {vT vX : Value} {T : List TC} {q : List XS} (h : OwnIx w lo hi vT vX T q) (hb : Below w.heap.size w w') : OwnIx w' lo hi vT vX T q :=
  ⟨h.tab.below hb, h.sets.below hb, h.apart⟩
theorem OwnIx.chg {w w' : World} {lo hi lo' hi' : Nat} {vT vX : Value} {T : List TC} {q : List XS} (h : OwnIx w lo hi vT vX T q) (hc : Chg w w' lo' hi') (hd : hi ≤ lo' ∨ hi' ≤ lo) : OwnIx w' lo hi vT vX T q :=
  ⟨h.tab.chg hc hd, h.sets.chg hc hd, h.apart⟩
/-- an index of the call's own is handed back -/
def GivesIx (w : World) (t : Int) (T : List TC) (S : List IS) (e : Ending) (w' : World) : Prop :=
  ∃ ta tc xa xc q, e = .returned (.agg #[.int .i64 t, .slice ta T.length tc, .slice xa S.length xc]) ∧ setsX q = S ∧ OwnIx w' w.heap.size w'.heap.size (.slice ta T.length tc) (.slice xa S.length xc) T q ∧ Below w.heap.size w w'
/-- .. and a bool -/
def GivesIB (w : World) (t : Int) (T : List TC) (S : List IS) (r : Bool) (e : Ending) (w' : World) : Prop :=
  ∃ ta tc xa xc q, e = .returned (.tuple #[.agg #[.int .i64 t, .slice ta T.length tc, .slice xa S.length xc], .bool r]) ∧ setsX q = S ∧ OwnIx w' w.heap.size w'.heap.size (.slice ta T.length tc) (.slice xa S.length xc) T q ∧ Below w.heap.size w w'

/-- sizes of an argument -/
theorem sx_len {S : List IS} (hz : yzL (toksX S) ≤ 1048576) : S.length ≤ 4000000 := by have := yzL_len (toksX S); rw [toksX_len] at this; omega
theorem sx_mem {S : List IS} (hz : yzL (toksX S) ≤ 1048576) : ∀ x ∈ S, x.2.length ≤ 4000000 ∧ ∀ y ∈ x.2, y.length ≤ 1048576 := fun x hx => by
  have h1 := yzL_mem (toksX_mem hx)
  have h2 := szL_len x.2
  exact ⟨by omega, fun y hy => by have := szL_mem hy; omega⟩
theorem smX_of {w : World} {a : Option Addr} {S : List IS} {c : Nat} (h : InX w a S) (h1 : a = none → c = 0) (h2 : S.length ≤ c) (hz : yzL (toksX S) ≤ 1048576) : SmX w a S c := ⟨h, h1, h2, sx_len hz, sx_mem hz⟩
/-- an index as an argument, of moderate size -/
structure SmIx (w : World) (ta : Option Addr) (T : List TC) (tc : Nat) (xa : Option Addr) (S : List IS) (xc : Nat) : Prop where
  tab : SmW w ta T tc
  sets : SmX w xa S xc
theorem SmIx.below {w w' : World} {ta xa : Option Addr} {T : List TC} {S : List IS} {tc xc : Nat} (h : SmIx w ta T tc xa S xc) (hb : Below w.heap.size w w') : SmIx w' ta T tc xa S xc := ⟨h.tab.below hb, h.sets.below hb⟩
theorem SmIx.alloc {w : World} {ta xa : Option Addr} {T : List TC} {S : List IS} {tc xc : Nat} (h : SmIx w ta T tc xa S xc) (o : Obj) : SmIx (w.alloc o) ta T tc xa S xc := h.below ((Below.refl _ _).alloc (Nat.le_refl _) o)
/-- .. of a law -/
def ArgIx (w : World) (ta : Option Addr) (T : List TC) (xa : Option Addr) (S : List IS) : Prop := ArgW w ta T ∧ ArgX w xa S
theorem ArgIx.below {w0 w : World} {ta xa : Option Addr} {T : List TC} {S : List IS} (h : ArgIx w0 ta T xa S) (hb : Below w0.heap.size w0 w) : ArgIx w ta T xa S := ⟨⟨⟨h.1.1.1.below hb, h.1.1.2⟩, h.1.2⟩, h.2.below hb⟩
/-- the values and letters of an index -/
def ixz (T : List TC) (S : List IS) : Nat := tzL T + yzL (toksX S)
theorem OwnIx.sm {w : World} {lo hi : Nat} {ta xa : Option Addr} {n m tc xc : Nat} {T : List TC} {S : List IS} {q : List XS} (h : OwnIx w lo hi (.slice ta n tc) (.slice xa m xc) T q) (hq : setsX q = S) (hz : ixz T S ≤ 1048576) (hwf : WfT T) : SmIx w ta T tc xa S xc := by
  obtain ⟨a', cap', e⟩ := h.tab.1.shape
  injection e with e1 e2 e3
  subst e2
  unfold ixz at hz
  have h1 : tzL T ≤ 1048576 := by omega
  have h2 : yzL (toksX S) ≤ 1048576 := by omega
  exact ⟨⟨h.tab.smT (tz_len h1) (tz_mem h1), hwf⟩, h.sets.1.smX hq (sx_len h2) (sx_mem h2)⟩
/-- an index in the memory -/
def InIx (w : World) (ta : Option Addr) (T : List TC) (xa : Option Addr) (S : List IS) : Prop := InT w ta T ∧ InX w xa S
theorem InIx.below {w w' : World} {ta xa : Option Addr} {T : List TC} {S : List IS} (h : InIx w ta T xa S) (hb : Below w.heap.size w w') : InIx w' ta T xa S := ⟨h.1.below hb, h.2.below hb⟩
theorem OwnIx.inn {w : World} {lo hi : Nat} {ta xa : Option Addr} {n m tc xc : Nat} {T : List TC} {S : List IS} {q : List XS} (h : OwnIx w lo hi (.slice ta n tc) (.slice xa m xc) T q) (hq : setsX q = S) : InIx w ta T xa S := by
  subst hq
  exact ⟨h.tab.inT, h.sets.1.inX⟩
/-- how many values are marked -/
def ixn (T : List TC) (S : List IS) : Nat := 2 * T.length + (S.length + (toksX S).flatten.length)
/-- bounds of an index -/
def BndX (T : List TC) (S : List IS) : Prop := ixn T S ≤ 3900000
theorem ixn_le {T : List TC} {S : List IS} (h : ixz T S ≤ 1048576) : ixn T S ≤ 2097152 := by
  unfold ixz at h
  have h1 := tzL_len T
  have h2 := flat_sum (toksX S)
  have h3 : yzL (toksX S) = S.length + ((toksX S).map szL).sum := by unfold yzL yzT; rw [List.take_length, toksX_len]
  unfold ixn
  omega
theorem bnd_of {T : List TC} {S : List IS} (h : ixz T S ≤ 1048576) : BndX T S := by
  have := ixn_le h
  unfold BndX
  omega
theorem bnd_parts {T : List TC} {S : List IS} (h : BndX T S) : T.length ≤ 2000000 ∧ S.length ≤ 3900000 ∧ (toksX S).flatten.length ≤ 3900000 := by
  unfold BndX ixn at h
  omega
theorem bnd_mem {T : List TC} {S : List IS} (h : BndX T S) : ∀ x ∈ S, x.2.length ≤ 3900000 := fun x hx => by
  have h3 := (bnd_parts h).2.2
  have h1 : x.2.length ≤ (toksX S).flatten.length := by
    obtain ⟨a, b, e⟩ := List.append_of_mem (toksX_mem hx)
    rw [e]
    simp
    omega
  omega

end Go.Proofs.Ythjbekgognfiiaa
