/-
  Texts laid together: TcW, IxS, PlainSim, Put, CmpCnt, SetOf, Put2. By an AI agent.
-/
import Derived.Test.YthjbekgognfiiaaGreatJ2
import Derived.Test.YthjbekgognfiiaaGreatJ3
import Derived.Test.YthjbekgognfiiaaGreatJ1
import Derived.WalkLawsBesides
import Derived.Deep.RegionLaw
/-
  Tables whose counts are well formed. By an AI agent.
-/
namespace Go.Proofs.YthjbekgognfiiaaGreat
open Go.RowKit
set_option linter.unusedVariables false

def WfT (l : List TC) : Prop := ∀ x ∈ l, (Lit.int .i64 x.2).wf = true
/-- an argument of a law -/
def ArgW (w : World) (a : Option Addr) (l : List TC) : Prop := ArgT w a l ∧ WfT l
/-- an argument of moderate size -/
def SmW (w : World) (a : Option Addr) (l : List TC) (c : Nat) : Prop := SmT w a l c ∧ WfT l
theorem SmW.below {w w' : World} {a : Option Addr} {l : List TC} {c : Nat} (h : SmW w a l c) (hb : Below w.heap.size w w') : SmW w' a l c := ⟨h.1.below hb, h.2⟩
theorem argW_of {w : World} {x : Addr} {len cap : Nat} (hl : len ≤ cap) (hm : cap ≤ maxLen) (h : ∀ i, i < len → ∃ (s : ByteArray) (z : Int), w.cell? (x.add (i * 2)) = some (.string s) ∧ w.cell? (x.add (i * 2 + 1)) = some (.int .i64 z) ∧ s.size ≤ maxLen ∧ (Lit.int .i64 z).wf = true) : ∃ L : List TC, len = L.length ∧ ArgW w (some x) L := by
  obtain ⟨L, h1, h2⟩ := argT_of hl hm fun i hi => by
    obtain ⟨s, z, a1, a2, a3, _⟩ := h i hi
    exact ⟨s, z, a1, a2, a3⟩
  refine ⟨L, h1, h2, fun y hy => ?_⟩
  obtain ⟨i, hi⟩ := List.getElem?_of_mem hy
  have hlt := (List.getElem?_eq_some_iff.1 hi).1
  obtain ⟨s, z, a1, a2, a3, a4⟩ := h i (by omega)
  obtain ⟨b, off, e, _, hc⟩ := h2.1 (by omega)
  injection e with e1
  subst e1
  have h5 := (hc i y hi).2
  have hadd : (⟨b, off, none⟩ : Addr).add (i * 2 + 1) = ⟨b, off + i * 2 + 1, none⟩ := by unfold Addr.add; split <;> simp_all; omega
  rw [hadd, h5] at a2
  injection a2 with a5
  injection a5 with _ a6
  rw [a6]
  exact a4

end Go.Proofs.YthjbekgognfiiaaGreat

/-
  Slices of indexed sets: one that reads as a list, one of the call's own; indexes of sets as values. By an AI agent.
-/
namespace Go.Proofs.YthjbekgognfiiaaGreat
open Go.RowKit
set_option linter.unusedVariables false

/-- an element of a slice of the call's own: the set, and the value of its tokens -/
abbrev XS := IS × Value
def encX (p : XS) : List Value := [.int .i64 p.1.1, p.2]
def flatX (q : List XS) : List Value := q.flatMap encX
def setsX (q : List XS) : List IS := q.map Prod.fst
theorem setsX_len (q : List XS) : (setsX q).length = q.length := by simp [setsX]
theorem flatX_len (q : List XS) : (flatX q).length = q.length * 2 := by
  induction q with
  | nil => rfl
  | cons x l ih =>
    have e : flatX (x :: l) = encX x ++ flatX l := by simp [flatX]
    rw [e, List.length_append, ih, List.length_cons]
    show 2 + l.length * 2 = _
    omega
theorem flatX_cons (x : XS) (q : List XS) : flatX (x :: q) = .int .i64 x.1.1 :: x.2 :: flatX q := by simp [flatX, encX]
theorem flatX_append (q r : List XS) : flatX (q ++ r) = flatX q ++ flatX r := by simp [flatX]
theorem flatX_snoc (q : List XS) (x : XS) : flatX (q ++ [x]) = flatX q ++ encX x := by simp [flatX]
theorem flatX_at : ∀ {q : List XS} {j : Nat} {x : XS}, q[j]? = some x → (flatX q)[j * 2]? = some (.int .i64 x.1.1) ∧ (flatX q)[j * 2 + 1]? = some x.2
  | [], j, x, h => by simp at h
  | y :: l, j, x, h => by
    rw [flatX_cons]
    cases j with
    | zero =>
      simp at h
      subst h
      exact ⟨rfl, rfl⟩
    | succ j =>
      have h1 : l[j]? = some x := by simpa using h
      have h2 := flatX_at h1
      rw [show (j + 1) * 2 = j * 2 + 1 + 1 by omega]
      exact h2
theorem flatX_set0 {q : List XS} {j : Nat} {x : XS} (h : q[j]? = some x) (z : Int) : (flatX q).set (j * 2) (.int .i64 z) = flatX (q.set j ((z, x.1.2), x.2)) := by
  induction q generalizing j with
  | nil => simp at h
  | cons y l ih =>
    cases j with
    | zero =>
      simp at h
      subst h
      simp [flatX, encX]
    | succ j =>
      have h1 : l[j]? = some x := by simpa using h
      rw [flatX_cons, List.set_cons_succ, flatX_cons, show (j + 1) * 2 = j * 2 + 1 + 1 by omega, List.set_cons_succ, List.set_cons_succ, ih h1]

/-- a slice whose elements are the sets of a list -/
def InX (w : World) (a : Option Addr) (S : List IS) : Prop :=
  0 < S.length → ∃ b off, a = some ⟨b, off, none⟩ ∧ b < w.heap.size ∧ ∀ j x, S[j]? = some x → ∃ a' c', w.cell? ⟨b, off + j * 2, none⟩ = some (.int .i64 x.1) ∧ w.cell? ⟨b, off + j * 2 + 1, none⟩ = some (.slice a' x.2.length c') ∧ (a' = none → c' = 0) ∧ x.2.length ≤ c' ∧ InS w a' x.2
theorem InX.below {w w' : World} {a : Option Addr} {S : List IS} (h : InX w a S) (hb : Below w.heap.size w w') : InX w' a S := by
  intro h0
  obtain ⟨b, off, ha, hlt, hc⟩ := h h0
  have hk := hb.block b hlt
  refine ⟨b, off, ha, Nat.lt_of_lt_of_le hlt hb.size, fun j x hj => ?_⟩
  obtain ⟨a', c', h1, h2, h3, h4, h5⟩ := hc j x hj
  exact ⟨a', c', (World.cell?_of_block hk).trans h1, (World.cell?_of_block hk).trans h2, h3, h4, h5.below hb⟩
theorem InX.alloc {w : World} {a : Option Addr} {S : List IS} (h : InX w a S) (o : Obj) : InX (w.alloc o) a S := h.below ((Below.refl _ _).alloc (Nat.le_refl _) o)

/-- an argument of a law -/
def ArgX (w : World) (a : Option Addr) (S : List IS) : Prop := InX w a S ∧ S.length ≤ maxLen ∧ ∀ x ∈ S, x.2.length ≤ maxLen ∧ ∀ y ∈ x.2, y.length ≤ maxLen
theorem ArgX.below {w0 w : World} {a : Option Addr} {S : List IS} (h : ArgX w0 a S) (hb : Below w0.heap.size w0 w) : ArgX w a S := ⟨h.1.below hb, h.2⟩
theorem argX_of {w : World} {x : Addr} {len cap : Nat} (hl : len ≤ cap) (hm : cap ≤ maxLen) (h : ∀ i, i < len → ∃ (z : Int) (a' : Option Addr) (l : List Str) (c' : Nat), w.cell? (x.add (i * 2)) = some (.int .i64 z) ∧ w.cell? (x.add (i * 2 + 1)) = some (.slice a' l.length c') ∧ (a' = none → c' = 0) ∧ l.length ≤ c' ∧ ArgS w a' l) : ∃ L : List IS, len = L.length ∧ ArgX w (some x) L := by
  obtain ⟨f, hf⟩ := Go.Deep.choose_lt (n := len) (p := fun i (q : Int × Option Addr × List Str × Nat) => w.cell? (x.add (i * 2)) = some (.int .i64 q.1) ∧ w.cell? (x.add (i * 2 + 1)) = some (.slice q.2.1 q.2.2.1.length q.2.2.2) ∧ (q.2.1 = none → q.2.2.2 = 0) ∧ q.2.2.1.length ≤ q.2.2.2 ∧ ArgS w q.2.1 q.2.2.1) (fun i hi => by obtain ⟨z, a', l, c', h1⟩ := h i hi; exact ⟨(z, a', l, c'), h1⟩)
  refine ⟨(List.range len).map fun i => ((f i).1, (f i).2.2.1), by simp, fun h0 => ?_, by simp; omega, fun y hy => ?_⟩
  · simp at h0
    obtain ⟨b, off, spot⟩ := x
    have hspot : spot = none := by simpa [Addr.add] using World.cell?_spot (hf 0 (by omega)).1
    subst hspot
    have hadd : ∀ j, (⟨b, off, none⟩ : Addr).add j = ⟨b, off + j, none⟩ := fun j => by unfold Addr.add; split <;> simp_all
    refine ⟨b, off, rfl, World.block_lt_of_cell? w _ (hf 0 (by omega)).1, fun j y hj => ?_⟩
    obtain ⟨hlt, he⟩ := List.getElem?_eq_some_iff.1 hj
    simp at hlt he
    obtain ⟨h1, h2, h3, h4, h5⟩ := hf j hlt
    rw [hadd] at h1 h2
    subst he
    exact ⟨_, _, h1, h2, h3, h4, h5.1⟩
  · obtain ⟨i, hi, rfl⟩ := List.mem_map.1 hy
    exact (hf i (List.mem_range.1 hi)).2.2.2.2.2

theorem ixs_take {S : List IS} {k : Nat} {x : IS} (h : S[k]? = some x) : S.take (k + 1) = S.take k ++ [x] := takeX h
/-- the tokens of the sets -/
def toksX (S : List IS) : List (List Str) := S.map Prod.snd
theorem toksX_at {S : List IS} {j : Nat} {x : IS} (h : S[j]? = some x) : (toksX S)[j]? = some x.2 := by simp [toksX, h]
theorem toksX_len (S : List IS) : (toksX S).length = S.length := by simp [toksX]
theorem toksX_mem {S : List IS} {x : IS} (h : x ∈ S) : x.2 ∈ toksX S := List.mem_map.2 ⟨x, h, rfl⟩

/-- an argument of moderate size -/
def SmX (w : World) (a : Option Addr) (S : List IS) (c : Nat) : Prop := InX w a S ∧ (a = none → c = 0) ∧ S.length ≤ c ∧ S.length ≤ 4000000 ∧ ∀ x ∈ S, x.2.length ≤ 4000000 ∧ ∀ y ∈ x.2, y.length ≤ 1048576
theorem SmX.below {w w' : World} {a : Option Addr} {S : List IS} {c : Nat} (h : SmX w a S c) (hb : Below w.heap.size w w') : SmX w' a S c := ⟨h.1.below hb, h.2⟩
theorem SmX.alloc {w : World} {a : Option Addr} {S : List IS} {c : Nat} (h : SmX w a S c) (o : Obj) : SmX (w.alloc o) a S c := ⟨h.1.alloc o, h.2⟩
/-- an element of a slice of moderate size -/
theorem SmX.at_ {w : World} {a : Option Addr} {S : List IS} {c j : Nat} (h : SmX w a S c) (hj : j < S.length) : ∃ (b off : Nat) (x : IS) (a' : Option Addr) (c' : Nat), a = some ⟨b, off, none⟩ ∧ b < w.heap.size ∧ S[j]? = some x ∧ w.cell? ⟨b, off + j * 2, none⟩ = some (.int .i64 x.1) ∧ w.cell? ⟨b, off + j * 2 + 1, none⟩ = some (.slice a' x.2.length c') ∧ Sm w a' x.2 c' := by
  obtain ⟨b, off, ha, hlt, hc⟩ := h.1 (by omega)
  have hx := List.getElem?_eq_getElem hj
  obtain ⟨a', c', h1, h2, h3, h4, h5⟩ := hc j _ hx
  obtain ⟨h6, h7⟩ := h.2.2.2.2 _ (List.mem_of_getElem? hx)
  exact ⟨b, off, _, a', c', ha, hlt, hx, h1, h2, h5, h3, h4, h6, h7⟩

/-- a slice of the call's own, its elements' tokens in other blocks of the call's own -/
structure OwnX (w : World) (lo : Nat) (v : Value) (q : List XS) : Prop where
  out : w.ownsRow lo 71 2 v q.length (flatX q)
  row : ∀ p ∈ q, OwnS w lo p.2 p.1.2
  apart : ∀ p ∈ q, ∀ k, p.2.ownBlock = some k → v.ownBlock ≠ some k
  dis : q.Pairwise fun p r => ∀ k, p.2.ownBlock = some k → r.2.ownBlock ≠ some k
theorem info_ixs : (Tryz.prog.info? 71).map (fun i => (i.zero, i.size, i.bytes)) = some (some (.agg #[.int .i64 0, .slice none 0 0]), 2, 32) := by kernel_rfl
theorem OwnX.below {w w' : World} {lo : Nat} {v : Value} {q : List XS} (h : OwnX w lo v q) (hb : Below w.heap.size w w') : OwnX w' lo v q :=
  ⟨World.ownsRow.kept h.out (row := none) ⟨hb.os, hb.tape, hb.output, hb.size, fun i hi _ => hb.block i hi⟩ (by cases hv : v.ownBlock <;> simp), fun p hp => (h.row p hp).below hb, h.apart, h.dis⟩
theorem row_mono {w : World} {base base' : Nat} {e : TypeId} {size n : Nat} {v : Value} {xs : List Value} (h : w.ownsRow base e size v n xs) (hb : base' ≤ base) : w.ownsRow base' e size v n xs := by
  refine ⟨h.1, ?_⟩
  rcases h.2 with hn | ⟨g, cap', cur, hv, hbg, rest⟩
  · exact .inl hn
  · exact .inr ⟨g, cap', cur, hv, Nat.le_trans hb hbg, rest⟩
theorem OwnX.mono {w : World} {lo lo' : Nat} {v : Value} {q : List XS} (h : OwnX w lo v q) (hb : lo' ≤ lo) : OwnX w lo' v q :=
  ⟨row_mono h.out hb, fun p hp => (h.row p hp).mono hb, h.apart, h.dis⟩
theorem OwnX.shape {w : World} {lo : Nat} {v : Value} {q : List XS} (h : OwnX w lo v q) : ∃ a cap, v = .slice a q.length cap := by
  rcases h.out.2 with ⟨rfl, h0⟩ | ⟨g, cap, cur, rfl, _⟩
  · exact ⟨none, 0, by rw [h0]⟩
  · exact ⟨_, _, rfl⟩
theorem rowX_none {w : World} {base : Nat} {e : TypeId} {size : Nat} {a : Option Addr} {n cap : Nat} {xs : List Value} (h : w.ownsRow base e size (.slice a n cap) n xs) : a = none → cap = 0 := by
  intro e
  rcases h.2 with ⟨hv, h1⟩ | ⟨g, cap', cur, hv, _⟩
  · simp only [Value.slice.injEq] at hv
    exact hv.2.2
  · simp only [Value.slice.injEq] at hv
    rw [e] at hv
    cases hv.1
theorem rowX_cap {w : World} {base : Nat} {e : TypeId} {size : Nat} {a : Option Addr} {n cap : Nat} {xs : List Value} (h : w.ownsRow base e size (.slice a n cap) n xs) : n ≤ cap := by
  rcases h.2 with ⟨hv, h1⟩ | ⟨g, cap', cur, hv, _, _, h2, _⟩
  · omega
  · simp only [Value.slice.injEq] at hv
    omega
theorem rowX_at {w : World} {base : Nat} {e : TypeId} {size : Nat} {a : Option Addr} {n cap : Nat} {xs : List Value} (h : w.ownsRow base e size (.slice a n cap) n xs) (h0 : 0 < n) : ∃ g, a = some ⟨g, 0, none⟩ ∧ base ≤ g ∧ g < w.heap.size ∧ ∀ (j : Nat) (u : Value), xs[j]? = some u → w.cell? ⟨g, 0 + j, none⟩ = some u := by
  rcases h.2 with ⟨_, h1⟩ | ⟨g, cap', cur, hv, hb, hg, _, _, _, ht⟩
  · omega
  · simp only [Value.slice.injEq] at hv
    refine ⟨g, hv.1, hb, (Array.getElem?_eq_some_iff.1 hg).1, fun j u hj => ?_⟩
    have hlt := (List.getElem?_eq_some_iff.1 hj).1
    rw [h.1] at hlt
    rw [Nat.zero_add, cell_of_row w g j cur _ (0, 0) hg, ← Array.getElem?_toList]
    have h2 : (cur.toList.take (n * size))[j]? = xs[j]? := by rw [ht]
    rw [List.getElem?_take_of_lt hlt] at h2
    rw [h2, hj]
theorem setsX_at {q : List XS} {j : Nat} {x : IS} (h : (setsX q)[j]? = some x) : ∃ p, q[j]? = some p ∧ p.1 = x := by
  unfold setsX at h
  rw [List.getElem?_map] at h
  cases hq : q[j]? with
  | none => rw [hq] at h; cases h
  | some p => rw [hq] at h; exact ⟨p, rfl, by injection h⟩
theorem OwnX.inX {w : World} {lo : Nat} {a : Option Addr} {n cap : Nat} {q : List XS} (h : OwnX w lo (.slice a n cap) q) : InX w a (setsX q) := by
  intro h0
  obtain ⟨a', cap', e⟩ := h.shape
  injection e with e1 e2 e3
  subst e2
  rw [setsX_len] at h0
  obtain ⟨g, rfl, _, hg, hc⟩ := rowX_at h.out h0
  refine ⟨g, 0, rfl, hg, fun j x hj => ?_⟩
  obtain ⟨p, hp, rfl⟩ := setsX_at hj
  obtain ⟨h1, h2⟩ := flatX_at hp
  have ho := h.row p (List.mem_of_getElem? hp)
  obtain ⟨a1, c1, e1⟩ := ho.shape
  rw [e1] at ho
  refine ⟨a1, c1, hc _ _ h1, by rw [Nat.add_assoc, hc _ _ h2, e1], ho.none_cap, ho.cap_ge, ho.inS⟩
theorem OwnX.smX {w : World} {lo : Nat} {a : Option Addr} {n cap : Nat} {q : List XS} {S : List IS} (h : OwnX w lo (.slice a n cap) q) (hq : setsX q = S) (h1 : S.length ≤ 4000000) (h2 : ∀ x ∈ S, x.2.length ≤ 4000000 ∧ ∀ y ∈ x.2, y.length ≤ 1048576) : SmX w a S cap := by
  subst hq
  obtain ⟨a', cap', e⟩ := h.shape
  injection e with e1 e2 e3
  subst e2
  exact ⟨h.inX, rowX_none h.out, by rw [setsX_len]; exact rowX_cap h.out, h1, h2⟩

/-- .. in blocks from lo on and below hi -/
def OwnHX (w : World) (lo hi : Nat) (v : Value) (q : List XS) : Prop := OwnX w lo v q ∧ (∀ k, v.ownBlock = some k → k < hi) ∧ ∀ p ∈ q, ∀ k, p.2.ownBlock = some k → k < hi
theorem OwnHX.of {w : World} {lo : Nat} {v : Value} {q : List XS} (h : OwnX w lo v q) : OwnHX w lo w.heap.size v q :=
  ⟨h, fun k hk => (World.ownsRow.lt h.out k hk).2, fun p hp k hk => (World.ownsRow.lt (h.row p hp) k hk).2⟩
theorem OwnHX.below {w w' : World} {lo hi : Nat} {v : Value} {q : List XS} (h : OwnHX w lo hi v q) (hb : Below w.heap.size w w') : OwnHX w' lo hi v q := ⟨h.1.below hb, h.2⟩
theorem OwnHX.chg {w w' : World} {lo hi lo' hi' : Nat} {v : Value} {q : List XS} (h : OwnHX w lo hi v q) (hc : Chg w w' lo' hi') (hd : hi ≤ lo' ∨ hi' ≤ lo) : OwnHX w' lo hi v q :=
  ⟨⟨row_chg h.1.out hc fun k hk => by have := (World.ownsRow.lt h.1.out k hk).1; have := h.2.1 k hk; omega,
    fun p hp => row_chg (h.1.row p hp) hc fun k hk => by have := (World.ownsRow.lt (h.1.row p hp) k hk).1; have := h.2.2 p hp k hk; omega, h.1.apart, h.1.dis⟩, h.2⟩

/-- an index of the call's own -/
structure OwnIx (w : World) (lo hi : Nat) (vT vX : Value) (T : List TC) (q : List XS) : Prop where
  tab : OwnHT w lo hi vT T
  sets : OwnHX w lo hi vX q
  apart : ∀ k, vT.ownBlock = some k → vX.ownBlock ≠ some k ∧ ∀ p ∈ q, p.2.ownBlock ≠ some k
theorem OwnIx.below {w w' : World} {lo hi : Nat} {vT vX : Value} {T : List TC} {q : List XS} (h : OwnIx w lo hi vT vX T q) (hb : Below w.heap.size w w') : OwnIx w' lo hi vT vX T q :=
  ⟨h.tab.below hb, h.sets.below hb, h.apart⟩
theorem OwnIx.chg {w w' : World} {lo hi lo' hi' : Nat} {vT vX : Value} {T : List TC} {q : List XS} (h : OwnIx w lo hi vT vX T q) (hc : Chg w w' lo' hi') (hd : hi ≤ lo' ∨ hi' ≤ lo) : OwnIx w' lo hi vT vX T q :=
  ⟨h.tab.chg hc hd, h.sets.chg hc hd, h.apart⟩
/-- an index of the call's own is handed back -/
def GivesIx (w : World) (t : Int) (T : List TC) (S : List IS) (e : Ending) (w' : World) : Prop :=
  ∃ ta tc xa xc q, e = .returned (.agg #[.int .i64 t, .slice ta T.length tc, .slice xa S.length xc]) ∧ setsX q = S ∧ OwnIx w' w.heap.size w'.heap.size (.slice ta T.length tc) (.slice xa S.length xc) T q ∧ Below w.heap.size w w'
/-- .. and a bool -/
def GivesIB (w : World) (t : Int) (T : List TC) (S : List IS) (r : Bool) (e : Ending) (w' : World) : Prop :=
  ∃ ta tc xa xc q, e = .returned (.tuple #[.agg #[.int .i64 t, .slice ta T.length tc, .slice xa S.length xc], .bool r]) ∧ setsX q = S ∧ OwnIx w' w.heap.size w'.heap.size (.slice ta T.length tc) (.slice xa S.length xc) T q ∧ Below w.heap.size w w'

/-- sizes of an argument -/
theorem sx_len {S : List IS} (hz : yzL (toksX S) ≤ 1048576) : S.length ≤ 4000000 := by have := yzL_len (toksX S); rw [toksX_len] at this; omega
theorem sx_mem {S : List IS} (hz : yzL (toksX S) ≤ 1048576) : ∀ x ∈ S, x.2.length ≤ 4000000 ∧ ∀ y ∈ x.2, y.length ≤ 1048576 := fun x hx => by
  have h1 := yzL_mem (toksX_mem hx)
  have h2 := szL_len x.2
  exact ⟨by omega, fun y hy => by have := szL_mem hy; omega⟩
theorem smX_of {w : World} {a : Option Addr} {S : List IS} {c : Nat} (h : InX w a S) (h1 : a = none → c = 0) (h2 : S.length ≤ c) (hz : yzL (toksX S) ≤ 1048576) : SmX w a S c := ⟨h, h1, h2, sx_len hz, sx_mem hz⟩
/-- an index as an argument, of moderate size -/
structure SmIx (w : World) (ta : Option Addr) (T : List TC) (tc : Nat) (xa : Option Addr) (S : List IS) (xc : Nat) : Prop where
  tab : SmW w ta T tc
  sets : SmX w xa S xc
theorem SmIx.below {w w' : World} {ta xa : Option Addr} {T : List TC} {S : List IS} {tc xc : Nat} (h : SmIx w ta T tc xa S xc) (hb : Below w.heap.size w w') : SmIx w' ta T tc xa S xc := ⟨h.tab.below hb, h.sets.below hb⟩
theorem SmIx.alloc {w : World} {ta xa : Option Addr} {T : List TC} {S : List IS} {tc xc : Nat} (h : SmIx w ta T tc xa S xc) (o : Obj) : SmIx (w.alloc o) ta T tc xa S xc := h.below ((Below.refl _ _).alloc (Nat.le_refl _) o)
/-- .. of a law -/
def ArgIx (w : World) (ta : Option Addr) (T : List TC) (xa : Option Addr) (S : List IS) : Prop := ArgW w ta T ∧ ArgX w xa S
theorem ArgIx.below {w0 w : World} {ta xa : Option Addr} {T : List TC} {S : List IS} (h : ArgIx w0 ta T xa S) (hb : Below w0.heap.size w0 w) : ArgIx w ta T xa S := ⟨⟨⟨h.1.1.1.below hb, h.1.1.2⟩, h.1.2⟩, h.2.below hb⟩
/-- the values and letters of an index -/
def ixz (T : List TC) (S : List IS) : Nat := tzL T + yzL (toksX S)
theorem OwnIx.sm {w : World} {lo hi : Nat} {ta xa : Option Addr} {n m tc xc : Nat} {T : List TC} {S : List IS} {q : List XS} (h : OwnIx w lo hi (.slice ta n tc) (.slice xa m xc) T q) (hq : setsX q = S) (hz : ixz T S ≤ 1048576) (hwf : WfT T) : SmIx w ta T tc xa S xc := by
  obtain ⟨a', cap', e⟩ := h.tab.1.shape
  injection e with e1 e2 e3
  subst e2
  unfold ixz at hz
  have h1 : tzL T ≤ 1048576 := by omega
  have h2 : yzL (toksX S) ≤ 1048576 := by omega
  exact ⟨⟨h.tab.smT (tz_len h1) (tz_mem h1), hwf⟩, h.sets.1.smX hq (sx_len h2) (sx_mem h2)⟩
/-- an index in the memory -/
def InIx (w : World) (ta : Option Addr) (T : List TC) (xa : Option Addr) (S : List IS) : Prop := InT w ta T ∧ InX w xa S
theorem InIx.below {w w' : World} {ta xa : Option Addr} {T : List TC} {S : List IS} (h : InIx w ta T xa S) (hb : Below w.heap.size w w') : InIx w' ta T xa S := ⟨h.1.below hb, h.2.below hb⟩
theorem OwnIx.inn {w : World} {lo hi : Nat} {ta xa : Option Addr} {n m tc xc : Nat} {T : List TC} {S : List IS} {q : List XS} (h : OwnIx w lo hi (.slice ta n tc) (.slice xa m xc) T q) (hq : setsX q = S) : InIx w ta T xa S := by
  subst hq
  exact ⟨h.tab.inT, h.sets.1.inX⟩
/-- how many values are marked -/
def ixn (T : List TC) (S : List IS) : Nat := 2 * T.length + (S.length + (toksX S).flatten.length)
/-- bounds of an index -/
def BndX (T : List TC) (S : List IS) : Prop := ixn T S ≤ 3900000
theorem ixn_le {T : List TC} {S : List IS} (h : ixz T S ≤ 1048576) : ixn T S ≤ 2097152 := by
  unfold ixz at h
  have h1 := tzL_len T
  have h2 := flat_sum (toksX S)
  have h3 : yzL (toksX S) = S.length + ((toksX S).map szL).sum := by unfold yzL yzT; rw [List.take_length, toksX_len]
  unfold ixn
  omega
theorem bnd_of {T : List TC} {S : List IS} (h : ixz T S ≤ 1048576) : BndX T S := by
  have := ixn_le h
  unfold BndX
  omega
theorem bnd_parts {T : List TC} {S : List IS} (h : BndX T S) : T.length ≤ 2000000 ∧ S.length ≤ 3900000 ∧ (toksX S).flatten.length ≤ 3900000 := by
  unfold BndX ixn at h
  omega
theorem bnd_mem {T : List TC} {S : List IS} (h : BndX T S) : ∀ x ∈ S, x.2.length ≤ 3900000 := fun x hx => by
  have h3 := (bnd_parts h).2.2
  have h1 : x.2.length ≤ (toksX S).flatten.length := by
    obtain ⟨a, b, e⟩ := List.append_of_mem (toksX_mem hx)
    rw [e]
    simp
    omega
  omega

end Go.Proofs.YthjbekgognfiiaaGreat

/-
  How many strings two ascending lists share: plain facts without the program. By an AI agent.
-/
namespace Go.Proofs.YthjbekgognfiiaaGreat
open Go

/-- how many of a are in b -/
def ccN (a b : List Str) : Nat := (a.filter fun x => decide (x ∈ b)).length
theorem cc_nil_left (b : List Str) : ccN [] b = 0 := rfl
theorem cc_nil_right (a : List Str) : ccN a [] = 0 := by simp [ccN]
theorem cc_le (a b : List Str) : ccN a b ≤ a.length := List.length_filter_le _ _
theorem cc_comm {a b : List Str} (ha : Asc a) (hb : Asc b) : ccN a b = ccN b a := by
  have na : a.Nodup := ha.imp fun h => str_ne_of h
  have nb : b.Nodup := hb.imp fun h => str_ne_of h
  exact ((List.perm_ext_iff_of_nodup (List.Pairwise.filter (fun x => decide (x ∈ b)) na) (List.Pairwise.filter (fun x => decide (x ∈ a)) nb)).2 fun x => by simp [List.mem_filter, and_comm]).length_eq
theorem cc_le' {a b : List Str} (ha : Asc a) (hb : Asc b) : ccN a b ≤ b.length := by rw [cc_comm ha hb]; exact cc_le b a
theorem cc_congr {a b b' : List Str} (h : ∀ x ∈ a, (x ∈ b ↔ x ∈ b')) : ccN a b = ccN a b' := by
  unfold ccN
  rw [List.filter_congr (q := fun x => decide (x ∈ b')) fun x hx => by simp [h x hx]]
theorem cc_cons_in {x : Str} {a b : List Str} (h : x ∈ b) : ccN (x :: a) b = ccN a b + 1 := by
  unfold ccN
  rw [List.filter_cons_of_pos (by simpa using h), List.length_cons]
theorem cc_cons_out {x : Str} {a b : List Str} (h : x ∉ b) : ccN (x :: a) b = ccN a b := by
  unfold ccN
  rw [List.filter_cons_of_neg (by simpa using h)]
theorem asc_head {x : Str} {a : List Str} (h : Asc (x :: a)) : ∀ y ∈ a, x < y := (List.pairwise_cons.1 h).1
theorem asc_tail {x : Str} {a : List Str} (h : Asc (x :: a)) : Asc a := (List.pairwise_cons.1 h).2
theorem cc_eq {x : Str} {a b : List Str} (ha : Asc (x :: a)) : ccN (x :: a) (x :: b) = ccN a b + 1 := by
  rw [cc_cons_in (List.mem_cons_self ..)]
  congr 1
  refine cc_congr fun y hy => ?_
  have := asc_head ha y hy
  rw [List.mem_cons]
  exact ⟨fun e => e.resolve_left (fun e => by subst e; exact List.lt_irrefl _ this), .inr⟩
theorem cc_lt {x y : Str} {a b : List Str} (h : x < y) (hb : Asc (y :: b)) : ccN (x :: a) (y :: b) = ccN a (y :: b) := by
  refine cc_cons_out fun e => ?_
  rcases List.mem_cons.1 e with e | e
  · exact str_ne_of h e
  · exact str_ne_of (str_lt_trans h (asc_head hb x e)) rfl
theorem cc_gt {x y : Str} {a b : List Str} (h : y < x) (ha : Asc (x :: a)) : ccN (x :: a) (y :: b) = ccN (x :: a) b := by
  refine cc_congr fun z hz => ?_
  rw [List.mem_cons]
  refine ⟨fun e => e.resolve_left (fun e => ?_), .inr⟩
  subst e
  rcases List.mem_cons.1 hz with e | e
  · exact str_ne_of h e
  · exact str_ne_of (str_lt_trans h (asc_head ha z e)) rfl
theorem common_count {a b : List Str} (ha : Asc a) : (setL (a.filter fun x => decide (x ∈ b))).length = ccN a b := by
  have h : Asc (a.filter fun x => decide (x ∈ b)) := List.Pairwise.filter _ ha
  rw [setL_of_asc h]
  rfl
theorem unite_count {a b : List Str} (ha : Asc a) (hb : Asc b) : (setL (a ++ b)).length + ccN a b = a.length + b.length := by
  have na : a.Nodup := ha.imp fun h => str_ne_of h
  have nb : b.Nodup := hb.imp fun h => str_ne_of h
  have ns : (setL (a ++ b)).Nodup := (setL_asc _).imp fun h => str_ne_of h
  have nc : (a ++ b.filter fun x => !decide (x ∈ a)).Nodup := by
    rw [List.nodup_append]
    refine ⟨na, List.Pairwise.filter _ nb, fun x hx y hy => ?_⟩
    rw [List.mem_filter] at hy
    rintro rfl
    simp [hx] at hy
  have h1 := ((List.perm_ext_iff_of_nodup ns nc).2 fun x => by
    rw [setL_mem, List.mem_append, List.mem_append, List.mem_filter]
    by_cases hx : x ∈ a <;> simp [hx]).length_eq
  rw [h1, List.length_append, cc_comm ha hb]
  have h2 : (b.filter fun x => !decide (x ∈ a)).length + ccN b a = b.length := by
    clear h1 nc ns nb hb
    induction b with
    | nil => rfl
    | cons x b ih =>
      by_cases hx : x ∈ a
      · rw [List.filter_cons_of_neg (by simp [hx]), cc_cons_in hx, List.length_cons]; omega
      · rw [List.filter_cons_of_pos (by simp [hx]), cc_cons_out hx, List.length_cons, List.length_cons]; omega
  omega

end Go.Proofs.YthjbekgognfiiaaGreat

/-
  What spec.l3Put does: one string more in an ascending list of the call's own. By an AI agent.
-/
namespace Go.Proofs.YthjbekgognfiiaaGreat
open Go.RowKit
set_option linter.unusedVariables false

theorem less_is : ∀ (x y : List UInt8), Op.bytesLess x y = decide (x < y)
  | [], [] => by simp [Op.bytesLess]
  | _ :: _, [] => by simp [Op.bytesLess]
  | [], _ :: _ => by simp [Op.bytesLess]
  | a :: x, b :: y => by
    rw [Op.bytesLess, less_is x y]
    simp only [List.cons_lt_cons_iff]
    by_cases h1 : a < b <;> by_cases h2 : a = b <;> by_cases h3 : x < y <;> simp [h1, h2, h3]
theorem less_yes {x y : Str} {s t : ByteArray} (hs : s.data.toList = x) (ht : t.data.toList = y) (h : x < y) : Op.bytesLess s.toList t.toList = true := by
  rw [less_is, ByteArray.toList_eq, ByteArray.toList_eq, hs, ht]
  exact decide_eq_true h
theorem less_no {x y : Str} {s t : ByteArray} (hs : s.data.toList = x) (ht : t.data.toList = y) (h : ¬ x < y) : Op.bytesLess s.toList t.toList = false := by
  rw [less_is, ByteArray.toList_eq, ByteArray.toList_eq, hs, ht]
  exact decide_eq_false h
theorem str_ne3 {x y : Str} {s t : ByteArray} (hs : s.data.toList = x) (ht : t.data.toList = y) (h : x ≠ y) : (s.toList == t.toList) = false := by
  rw [ByteArray.toList_eq, ByteArray.toList_eq, hs, ht]
  simpa using h
theorem str_eq3 {x y : Str} {s t : ByteArray} (hs : s.data.toList = x) (ht : t.data.toList = y) (h : x = y) : s = t := by
  have h2 : s.data.toList = t.data.toList := by rw [hs, ht, h]
  exact ByteArray.ext (Array.toList_inj.1 h2)

/-- append of a slice that reads as a list to a slice of the call's own -/
theorem run_app (ty : TypeId) (base : Nat) (v : Value) (l : List Str) (w : World) (hown : OwnS w base v l) (a : Option Addr) (c : Nat) (ms : List Str) (hin : InS w a ms) (hn : a = none → c = 0) (hsz : l.length + ms.length ≤ 9000000) (hbase : base ≤ w.heap.size) :
    ∃ v' w', (Builtin.append_ #[28, 28] ty #[v, .slice a ms.length c]).run Tryz.prog w = .ok v' w' ∧ OwnS w' base v' (l ++ ms) ∧ w.grownBy w' v.ownBlock := by
  obtain ⟨i0, hi, hz0, hz1, hz2⟩ := info_parts info_str
  have e1 : (l ++ ms).length = l.length + ms.length := by simp
  have e2 : (l ++ ms).map encStr = l.map encStr ++ ms.map encStr := by simp
  cases a with
  | none =>
    obtain rfl : ms = [] := by
      rcases Nat.eq_zero_or_pos ms.length with h | h
      · exact List.eq_nil_of_length_eq_zero h
      · obtain ⟨_, _, h2, _⟩ := hin h
        cases h2
    rw [hn rfl]
    refine ⟨v, w, run_append_owned_none (P := Tryz.prog) (w := w) base 28 ty 9 i0 1 Tryz.underlying28 hi v l.length (l.map encStr) hown, ?_, World.grownBy.refl _ _⟩
    rw [List.append_nil]
    exact hown
  | some ad =>
    obtain ⟨v', w', h1, h2, h3, -⟩ := run_append_own (P := Tryz.prog) w base 28 ty 9 i0 (.string ⟨#[]⟩) 1 16 Tryz.underlying28 hi hz0 hz1 hz2 rfl (by decide) v l.length (l.map encStr) hown
      ad ms.length c (ms.map encStr) (by simp) (fun j u hj => by
        rw [List.getElem?_map] at hj
        cases hx : ms[j]? with
        | none => rw [hx] at hj; cases hj
        | some x =>
          rw [hx] at hj
          have hlt := (List.getElem?_eq_some_iff.1 hx).1
          obtain ⟨b, off, e, _, hc⟩ := hin (by omega)
          obtain rfl : ad = ⟨b, off, none⟩ := Option.some.inj e
          have h2 : (⟨b, off, none⟩ : Addr).add j = ⟨b, off + j, none⟩ := by unfold Addr.add; split <;> simp_all
          rw [h2, hc j x hx]
          exact hj) (by intro u hu; obtain ⟨x, _, rfl⟩ := List.mem_map.1 hu; rfl) (by unfold maxLen; omega) (by omega) hbase
    refine ⟨v', w', h1, ?_, h3⟩
    unfold OwnS
    rw [e1, e2]
    exact h2

theorem step_app {ops : Array Oper} {o : Oper} {a : Act} {w : World} {K : Act → World → Prop} {Q : Exit → Act → World → Prop} {E : Prop}
    (hg : o.guard = none) (s x : Operand) (hop : o.op = Op.call { callee := Callee.builtin Builtin.append, args := #[s, x], argTypes := #[28, 28] })
    (base : Nat) (v : Value) (l : List Str) (hs : a.eval s = v) (ad : Option Addr) (m c : Nat) (ms : List Str) (hx : a.eval x = .slice ad m c) (hm : m = ms.length)
    (hown : OwnS w base v l) (hin : InS w ad ms) (hn : ad = none → c = 0) (hsz : l.length + ms.length ≤ 9000000) (hbase : base ≤ w.heap.size)
    (hK : ∀ v' w', OwnS w' base v' (l ++ ms) → w.grownBy w' v.ownBlock → K (a.put o.dst v') w') :
    if Region.wanted o (yielded ops a.tmps) = true then Oper.wp Tryz.prog o a w K Q else E := by
  subst hm
  rw [if_pos (by simp [Region.wanted, hg])]
  obtain ⟨v', w', hrun, h1, h2⟩ := run_app o.type base v l w hown ad c ms hin hn hsz hbase
  unfold Oper.wp
  simp [execOp, hop, resolve, invoke, builtin, hs, hx, hrun, Result.andThen]
  exact hK v' w' h1 h2

theorem own_new (w : World) (base g : Nat) (hg : w.heap.size = g) (hb : base ≤ g) : OwnS (w.alloc (.cells #[] 9)) base (.slice (some ⟨g, 0, none⟩) 0 0) [] := by
  subst hg
  exact OwnS.made w base #[] 0 hb (Nat.zero_le _) rfl
theorem in_one (w : World) (g : Nat) (t : ByteArray) (y : Str) (hg : w.heap.size = g) (ht : t.data.toList = y) : InS (w.alloc (.cells #[.string t] 9)) (some ⟨g, 0, none⟩) [y] := by
  subst hg
  intro _
  refine ⟨w.heap.size, 0, rfl, by simp, fun j x hj => ?_⟩
  cases j with
  | zero =>
    simp at hj
    subst hj
    rw [World.cell?_alloc_at _ _ _ _ rfl]
    subst ht
    rfl
  | succ j => simp at hj
theorem InS.grown {w w' : World} {a : Option Addr} {l : List Str} {r : Option Nat} (h : InS w a l) (hg : w.grownBy w' r) (hne : ∀ b off, a = some ⟨b, off, none⟩ → some b ≠ r) : InS w' a l :=
  h.keep hg.size fun b off ha hb => hg.block b hb (hne b off ha)
theorem InS.take' {w : World} {a : Option Addr} {l : List Str} (h : InS w a l) (k : Nat) : InS w a (l.take k) := by
  intro h0
  obtain ⟨b', off', e, hb, hc⟩ := h (by rw [List.length_take] at h0; omega)
  refine ⟨b', off', e, hb, fun j x hj => hc j x ?_⟩
  rw [List.getElem?_take] at hj
  split at hj
  · exact hj
  · cases hj
theorem InS.drop {w : World} {b off : Nat} {l : List Str} (h : InS w (some ⟨b, off, none⟩) l) (k : Nat) : InS w (some ⟨b, off + k, none⟩) (l.drop k) := by
  intro h0
  obtain ⟨b', off', e, hb, hc⟩ := h (by rw [List.length_drop] at h0; omega)
  obtain ⟨rfl, rfl⟩ : b = b' ∧ off = off' := by simpa using e
  refine ⟨b, off + k, rfl, hb, fun j x hj => ?_⟩
  rw [List.getElem?_drop] at hj
  rw [Nat.add_assoc]
  exact hc (k + j) x hj

theorem InS.drop0 {w : World} {b : Nat} {l : List Str} (h : InS w (some ⟨b, 0, none⟩) l) (k : Nat) : InS w (some ⟨b, k, none⟩) (l.drop k) := by
  have h2 := h.drop k
  rw [Nat.zero_add] at h2
  exact h2

/-- what is handed back: a slice of the caller's own -/
def PutsS (w : World) (base : Nat) (l : List Str) (e : Ending) (w' : World) : Prop :=
  ∃ a cap, e = .returned (.slice a l.length cap) ∧ OwnS w' base (.slice a l.length cap) l ∧ Below w.heap.size w w'
theorem PutsS.mk {w w' : World} {base : Nat} {v : Value} {l : List Str} (h : OwnS w' base v l) (hb : Below w.heap.size w w') : PutsS w base l (.returned v) w' := by
  obtain ⟨a, cap, rfl⟩ := h.shape
  exact ⟨a, cap, rfl, h, hb⟩
theorem grown_old {w0 w w' : World} {v : Value} {l : List Str} (hb : Below w0.heap.size w0 w) (hg : w.grownBy w' v.ownBlock) (ho : OwnS w w0.heap.size v l) : Below w0.heap.size w0 w' :=
  hb.grown hg hb.size fun k hk => (World.ownsRow.lt ho k hk).1

end Go.Proofs.YthjbekgognfiiaaGreat

/-
  What cmp.Compare answers at two strings, and impl.commonCount at two ascending lists. By an AI agent.
-/
namespace Go.Proofs.YthjbekgognfiiaaGreat
open Go.RowKit
set_option linter.unusedVariables false

set_option maxRecDepth 100000 in
theorem nan_is (s : ByteArray) (w : World) :
    Calls Tryz.prog 141 #[.string s] w fun e w' => e = .returned (.bool false) ∧ w' = w := by
  go_enter Tryz.func141, Tryz.ntmps141
  go_wp2
  go_ret
  exact ⟨by first | rfl | simp, rfl⟩

/-- the order of two strings -/
def cmpR (x y : Str) : Int := if x = y then 0 else if x < y then -1 else 1

set_option maxRecDepth 100000 in
theorem cmp_is (s t : ByteArray) (r : Int) (w : World) (h : cmpR s.data.toList t.data.toList = r) :
    Calls Tryz.prog 129 #[.string s, .string t] w fun e w' => e = .returned (.int .i64 r) ∧ w' = w := by
  have HR := Lib.hid h
  clear h
  by_cases h1 : s.data.toList = t.data.toList
  · obtain rfl := str_eq3 rfl rfl h1
    obtain rfl : 0 = r := by rw [← HR.out, cmpR, if_pos rfl]
    have hl := less_no (s := s) (t := s) rfl rfl (List.lt_irrefl s.data.toList)
    go_enter Tryz.func129, Tryz.ntmps129
    go_wp2_with (go_at_call 141; refine (nan_is _ _).mono ?_; rintro e w' ⟨rfl, rfl⟩)
    go_ret
    exact ⟨rfl, rfl⟩
  · by_cases h2 : s.data.toList < t.data.toList
    · obtain rfl : -1 = r := by rw [← HR.out, cmpR, if_neg h1, if_pos h2]
      have hl := less_yes (s := s) (t := t) rfl rfl h2
      clear h1 h2
      go_enter Tryz.func129, Tryz.ntmps129
      go_wp2_with (go_at_call 141; refine (nan_is _ _).mono ?_; rintro e w' ⟨rfl, rfl⟩)
      go_ret
      exact ⟨rfl, rfl⟩
    · obtain rfl : 1 = r := by rw [← HR.out, cmpR, if_neg h1, if_neg h2]
      have hl := less_no (s := s) (t := t) rfl rfl h2
      have hg := str_ne3 (s := s) (t := t) rfl rfl h1
      clear h1 h2
      go_enter Tryz.func129, Tryz.ntmps129
      go_wp2_with (go_at_call 141; refine (nan_is _ _).mono ?_; rintro e w' ⟨rfl, rfl⟩)
      go_ret
      exact ⟨rfl, rfl⟩

def lenS : Value → Nat | .slice _ n _ => n | _ => 0

theorem Sm.tail {w : World} {x : Str} {l : List Str} {c : Nat} {b off : Nat} (h : Sm w (some ⟨b, off, none⟩) (x :: l) c) : Sm w (if c = 1 then some ⟨b, off, none⟩ else some ⟨b, off + 1, none⟩) l (c - 1) := by
  obtain ⟨h1, h2, h3, h4, h5⟩ := h
  rw [List.length_cons] at h3 h4
  have hn : (if c = 1 then some (⟨b, off, none⟩ : Addr) else some ⟨b, off + 1, none⟩) = none → c - 1 = 0 := by
    intro e
    split at e <;> cases e
  refine ⟨fun h0 => ?_, hn, by omega, by omega, fun y hy => h5 y (List.mem_cons_of_mem _ hy)⟩
  obtain ⟨b', off', e, hb, hc⟩ := h1 (by simp)
  simp only [Option.some.injEq, Addr.mk.injEq, and_true] at e
  obtain ⟨rfl, rfl⟩ := e
  rw [if_neg (by omega)]
  exact ⟨b, off + 1, rfl, hb, fun j y hj => by rw [show off + 1 + j = off + (j + 1) by omega]; exact hc (j + 1) y (by simpa using hj)⟩
theorem Sm.head {w : World} {a : Option Addr} {x : Str} {l : List Str} {c : Nat} (h : Sm w a (x :: l) c) : ∃ b off s, a = some ⟨b, off, none⟩ ∧ w.cell? ⟨b, off, none⟩ = some (.string s) ∧ s.data.toList = x := by
  obtain ⟨h1, -⟩ := h
  obtain ⟨b, off, e, hb, hc⟩ := h1 (by simp)
  exact ⟨b, off, ⟨x.toArray⟩, e, hc 0 x (by simp), by simp⟩

theorem cmpR_eq (x : Str) : cmpR x x = 0 := by unfold cmpR; rw [if_pos rfl]
theorem cmpR_lt {x y : Str} (h : x < y) : cmpR x y = -1 := by unfold cmpR; rw [if_neg (str_ne_of h), if_pos h]
theorem cmpR_gt {x y : Str} (h : y < x) : cmpR x y = 1 := by
  unfold cmpR
  rw [if_neg (fun e => str_ne_of h e.symm), if_neg (fun k => List.lt_irrefl _ (str_lt_trans h k))]

set_option maxRecDepth 100000 in
set_option maxHeartbeats 1000000 in
theorem count_impl (a0 a1 : Option Addr) (c0 c1 : Nat) (l0 l1 : List Str) (w : World) (h0 : Sm w a0 l0 c0) (h1 : Sm w a1 l1 c1) (s0 : Asc l0) (s1 : Asc l1) :
    Calls Tryz.prog 106 #[.slice a0 l0.length c0, .slice a1 l1.length c1] w fun e w' => e = .returned (.int .i64 (ccN l0 l1)) ∧ Below w.heap.size w w' := by
  have H0 := Lib.hid h0
  have H1 := Lib.hid h1
  have S0 := Lib.hid s0
  have S1 := Lib.hid s1
  clear h0 h1 s0 s1
  go_enter Tryz.func106, Tryz.ntmps106
  go_wp2
  go_loopw [0, 1, 5] (fun u v i wr => ∃ (p q : Option Addr) (c d n : Nat) (l m : List Str), u = .slice p l.length c ∧ v = .slice q m.length d ∧ i = .int .i64 n ∧ Below w.heap.size w wr ∧ Sm wr p l c ∧ Sm wr q m d ∧ Asc l ∧ Asc m ∧ n + ccN l m = ccN l0 l1) (fun u v _ _ => lenS u + lenS v)
  case atStart => exact ⟨a0, a1, c0, c1, 0, l0, l1, rfl, rfl, rfl, Below.refl _ _, H0.out, H1.out, S0.out, S1.out, by omega⟩
  case round =>
    obtain ⟨p, q, c, d, n, l, m, rfl, rfl, rfl, hb, hp, hq, hsl, hsm, hcnt⟩ := hrel
    have HB := Lib.hid hb
    have HP := Lib.hid hp
    have HQ := Lib.hid hq
    have HSL := Lib.hid hsl
    have HSM := Lib.hid hsm
    have HC := Lib.hid hcnt
    have hcl := hp.2.2.1
    have hcm := hq.2.2.1
    have hll := hp.2.2.2.1
    have hlm := hq.2.2.2.1
    have hn : n ≤ 4000000 := by have h1 := cc_le l0 l1; have h2 := H0.out.2.2.2.1; omega
    clear hb hp hq hsl hsm hcnt
    cases l with
    | nil =>
      have hz : ([] : List Str).length = 0 := rfl
      rw [hz]
      go_wp2
      go_ret
      exact ⟨ret_int (by have := HC.out; rw [cc_nil_left] at this; omega), HB.out⟩
    | cons x l =>
      cases m with
      | nil =>
        have hz : ([] : List Str).length = 0 := rfl
        rw [hz]
        rw [List.length_cons] at hcl hll ⊢
        go_wp2
        go_ret
        exact ⟨ret_int (by have := HC.out; rw [cc_nil_right] at this; omega), HB.out⟩
      | cons y m =>
        rw [List.length_cons] at hcl hll hcm hlm ⊢
        obtain ⟨b, off, s, rfl, hcell0, hx⟩ := HP.out.head
        obtain ⟨b', off', t, rfl, hcell1, hy⟩ := HQ.out.head
        have hc1 : (1 : Int) ≤ (c : Int) := by omega
        have hd1 : (1 : Int) ≤ (d : Int) := by omega
        have TP := Lib.hid HP.out.tail
        have TQ := Lib.hid HQ.out.tail
        by_cases h1 : x = y
        · subst h1
          have HX := Lib.hid (fun q : Nat => cmp_is s t 0 (wr.drewN q) (by rw [hx, hy, cmpR_eq]))
          clear hx hy
          go_wp2
          go_quiet ((go_at_call 129; with_reducible exact Calls.quiet_of_same (HX.out _)))
          go_wp2
          go_roundw
          case rel => exact ⟨_, _, _, _, n + 1, l, m, rfl, rfl, by go_num, HB.out.trans (quiet_below _ _ _), TP.out.below (quiet_below _ _ _), TQ.out.below (quiet_below _ _ _), asc_tail HSL.out, asc_tail HSM.out, by rw [← HC.out, cc_eq HSL.out]; omega⟩
          case measure => simp [lenS]; omega
        · by_cases h2 : x < y
          · have HX := Lib.hid (fun q : Nat => cmp_is s t (-1) (wr.drewN q) (by rw [hx, hy, cmpR_lt h2]))
            have HLT := Lib.hid h2
            clear hx hy h1 h2
            go_wp2
            go_quiet ((go_at_call 129; with_reducible exact Calls.quiet_of_same (HX.out _)))
            go_wp2
            go_roundw
            case rel => exact ⟨_, _, _, _, n, l, y :: m, rfl, rfl, rfl, HB.out.trans (quiet_below _ _ _), TP.out.below (quiet_below _ _ _), HQ.out.below (quiet_below _ _ _), asc_tail HSL.out, HSM.out, by rw [← HC.out, cc_lt HLT.out HSM.out]⟩
            case measure => simp [lenS]
          · have h3 : y < x := str_lt_of (List.not_lt.1 h2) (fun e => h1 e.symm)
            have HX := Lib.hid (fun q : Nat => cmp_is s t 1 (wr.drewN q) (by rw [hx, hy, cmpR_gt h3]))
            have HLT := Lib.hid h3
            clear hx hy h1 h2 h3
            go_wp2
            go_quiet ((go_at_call 129; with_reducible exact Calls.quiet_of_same (HX.out _)))
            go_wp2
            go_roundw
            case rel => exact ⟨_, _, _, _, n, x :: l, m, rfl, rfl, rfl, HB.out.trans (quiet_below _ _ _), HP.out.below (quiet_below _ _ _), TQ.out.below (quiet_below _ _ _), HSL.out, asc_tail HSM.out, by rw [← HC.out, cc_gt HLT.out HSL.out]⟩
            case measure => simp [lenS]

end Go.Proofs.YthjbekgognfiiaaGreat

/-
  What impl.setOf and impl.sortedMembers do. By an AI agent.
-/
namespace Go.Proofs.YthjbekgognfiiaaGreat
open Go.RowKit Go.Maps Go.Sort
set_option linter.unusedVariables false

theorem run_makeMap_hint {P : Program} (t k e : TypeId) (ht : P.underlying t = some (.map k e)) (q : IntKind) (n : Int) (w : World) : (Instr.makeMap t (some (.int q n))).run P w = .ok (.map (some w.heap.size)) (w.alloc (.map #[] 0)) := by
  simp [Instr.makeMap, run_underlying ht, asInt, asIntOf, Result.andThen]

def GivesM (w : World) (n : Nat) (ls : List Str) (e : Ending) (w' : World) : Prop := ∃ b, e = .returned (.map (some b)) ∧ SetM w' b n ls ∧ w.heap.size ≤ b ∧ Below w.heap.size w w'

end Go.Proofs.YthjbekgognfiiaaGreat

/-
  What spec.l3Put does, at any ascending list of the call's own. By an AI agent.
-/
namespace Go.Proofs.YthjbekgognfiiaaGreat
open Go.RowKit
set_option linter.unusedVariables false
set_option linter.unusedSimpArgs false

theorem InS.empty (w : World) (a : Option Addr) {l : List Str} (h : l.length = 0) : InS w a l := fun h0 => absurd h0 (by omega)

set_option maxRecDepth 100000 in
set_option maxHeartbeats 4000000 in
theorem put_nil_true (base : Nat) (t : ByteArray) (y : Str) (w : World) (hbase : base ≤ w.heap.size) (ht : t.data.toList = y) :
    Calls Tryz.prog 100 #[.slice none 0 0, .string t, .bool true] w (PutsS w base (putL true [] y)) := by
  have HB0 := Lib.hid hbase
  have HT := Lib.hid ht
  have HE := Lib.hid (show putL true [] y = ([] : List Str) ++ y :: ([] : List Str) from rfl)
  clear ht hbase
  go_enter Tryz.func100, Tryz.ntmps100
  go_wp2
  refine wp_loop_rounds 1 ?_
  rw [rounds_succ]
  have hmin : ([] : List Str).length = 0 := rfl
  have hdr : ([] : List Str).length = 0 := rfl
  have O1 : Hid (OwnS (w.alloc (.cells #[] 9)).drew w.heap.size (.slice (some ⟨w.heap.size, 0, none⟩) 0 0) []) := Lib.hid (own_new w w.heap.size w.heap.size rfl (Nat.le_refl _))
  have B1 := Lib.hid ((Below.refl w.heap.size w).alloc (Nat.le_refl _) (.cells #[] 9)).drew
  have O2 : Hid (OwnS ((w.alloc (.cells #[] 9)).alloc (.cells #[.string t] 9)).drew w.heap.size (.slice (some ⟨w.heap.size, 0, none⟩) 0 0) []) := Lib.hid ((own_new w w.heap.size w.heap.size rfl (Nat.le_refl _)).alloc (.cells #[.string t] 9))
  have B2 := Lib.hid (((Below.refl w.heap.size w).alloc (Nat.le_refl _) (.cells #[] 9)).alloc (by simp) (.cells #[.string t] 9)).drew
  have S2 : Hid (InS ((w.alloc (.cells #[] 9)).alloc (.cells #[.string t] 9)).drew (some ⟨w.heap.size + 1, 0, none⟩) [y]) := Lib.hid (in_one (w.alloc (.cells #[] 9)) (w.heap.size + 1) t y (by simp) HT.out)
  have O3 : Hid (OwnS ((w.alloc (.cells #[.string t] 9)).alloc (.cells #[] 9)).drew w.heap.size (.slice (some ⟨w.heap.size + 1, 0, none⟩) 0 0) []) := Lib.hid (own_new (w.alloc (.cells #[.string t] 9)) w.heap.size (w.heap.size + 1) (by simp) (by omega))
  have B3 := Lib.hid (((Below.refl w.heap.size w).alloc (Nat.le_refl _) (.cells #[.string t] 9)).alloc (by simp) (.cells #[] 9)).drew
  have S3 : Hid (InS ((w.alloc (.cells #[.string t] 9)).alloc (.cells #[] 9)).drew (some ⟨w.heap.size, 0, none⟩) [y]) := Lib.hid ((in_one w w.heap.size t y rfl HT.out).alloc (.cells #[] 9))
  have HM := Lib.hid hmin
  have HD := Lib.hid hdr
  clear hmin hdr
  go_wp2
  go_region_law (first
    | (refine step_app (by rfl) (.tmp 39) (.tmp 42) (by rfl) w.heap.size (.slice (some ⟨w.heap.size, 0, none⟩) 0 0) [] (by rfl) none 0 0 ([] : List Str) (by rfl) HM.out.symm O1.out (InS.empty _ _ rfl) (fun _ => rfl) (by have e1 := HM.out; have e2 := HD.out; simp only [List.length_append, List.length_cons, List.length_nil] at e1 e2 ⊢; omega) B1.out.size ?_; intro v1 w1 ho1 hg1; have hb1 : Below w.heap.size w w1 := grown_old B1.out hg1 O1.out)
    | (refine step_app (by rfl) (.tmp 39) (.tmp 42) (by rfl) w.heap.size (.slice (some ⟨w.heap.size, 0, none⟩) 0 0) [] (by rfl) none 0 0 ([] : List Str) (by rfl) HM.out.symm O2.out (InS.empty _ _ rfl) (fun _ => rfl) (by have e1 := HM.out; have e2 := HD.out; simp only [List.length_append, List.length_cons, List.length_nil] at e1 e2 ⊢; omega) B2.out.size ?_; intro v1 w1 ho1 hg1; have hb1 : Below w.heap.size w w1 := grown_old B2.out hg1 O2.out; have hs1 := S2.out.grown hg1 (by intro b off e; cases e; simp [Value.ownBlock]))
    | (refine step_app (by rfl) (.tmp 39) (.tmp 42) (by rfl) w.heap.size (.slice (some ⟨w.heap.size + 1, 0, none⟩) 0 0) [] (by rfl) none 0 0 ([] : List Str) (by rfl) HM.out.symm O3.out (InS.empty _ _ rfl) (fun _ => rfl) (by have e1 := HM.out; have e2 := HD.out; simp only [List.length_append, List.length_cons, List.length_nil] at e1 e2 ⊢; omega) B3.out.size ?_; intro v1 w1 ho1 hg1; have hb1 : Below w.heap.size w w1 := grown_old B3.out hg1 O3.out; have hs1 := S3.out.grown hg1 (by intro b off e; cases e; simp [Value.ownBlock]))
    | (refine step_app (by rfl) (.tmp 43) (.tmp 45) (by rfl) w.heap.size v1 ([] ++ ([] : List Str)) (by rfl) (some ⟨w.heap.size + 1, 0, none⟩) 1 1 [y] (by rfl) rfl ho1 hs1 nofun (by have e1 := HM.out; have e2 := HD.out; simp only [List.length_append, List.length_cons, List.length_nil] at e1 e2 ⊢; omega) hb1.size ?_; intro v2 w2 ho2 hg2; have hb2 : Below w.heap.size w w2 := grown_old hb1 hg2 ho1)
    | (refine step_app (by rfl) (.tmp 43) (.tmp 45) (by rfl) w.heap.size v1 ([] ++ ([] : List Str)) (by rfl) (some ⟨w.heap.size, 0, none⟩) 1 1 [y] (by rfl) rfl ho1 hs1 nofun (by have e1 := HM.out; have e2 := HD.out; simp only [List.length_append, List.length_cons, List.length_nil] at e1 e2 ⊢; omega) hb1.size ?_; intro v2 w2 ho2 hg2; have hb2 : Below w.heap.size w w2 := grown_old hb1 hg2 ho1)
    | (refine step_app (by rfl) (.tmp 43) (.tmp 45) (by rfl) w.heap.size v1 ([] ++ ([] : List Str)) (by rfl) (some ⟨w1.heap.size, 0, none⟩) 1 1 [y] (by rfl) rfl (ho1.alloc _) (in_one w1 w1.heap.size t y rfl HT.out) nofun (by have e1 := HM.out; have e2 := HD.out; simp only [List.length_append, List.length_cons, List.length_nil] at e1 e2 ⊢; omega) (hb1.alloc hb1.size _).size ?_; intro v2 w2 ho2 hg2; have hb2 : Below w.heap.size w w2 := grown_old (hb1.alloc hb1.size _) hg2 (ho1.alloc _))
    | (refine step_app (by rfl) (.tmp 46) (.tmp 49) (by rfl) w.heap.size v2 ([] ++ ([] : List Str) ++ [y]) (by rfl) none 0 0 ([] : List Str) (by rfl) HD.out.symm ho2 (InS.empty _ _ rfl) (fun _ => rfl) (by have e1 := HM.out; have e2 := HD.out; simp only [List.length_append, List.length_cons, List.length_nil] at e1 e2 ⊢; omega) hb2.size ?_; intro v3 w3 ho3 hg3; have hb3 : Below w.heap.size w w3 := grown_old hb2 hg3 ho2))
  all_goals go_wp2
  all_goals go_ret
  all_goals
    have hfin : OwnS w3 base v3 (putL true [] y) := by
      rw [HE.out]
      have h := ho3.mono HB0.out
      simpa using h
    exact PutsS.mk hfin hb3

set_option maxRecDepth 100000 in
set_option maxHeartbeats 8000000 in
theorem put_some_true (base b cap : Nat) (l : List Str) (t : ByteArray) (y : Str) (w : World) (hl : l.length ≤ 8500000) (hown : OwnS w base (.slice (some ⟨b, 0, none⟩) l.length cap) l) (hbase : base ≤ w.heap.size) (ht : t.data.toList = y) :
    Calls Tryz.prog 100 #[.slice (some ⟨b, 0, none⟩) l.length cap, .string t, .bool true] w (PutsS w base (putL true l y)) := by
  have hlc := hown.cap_ge
  have HIN := Lib.hid hown.inS
  have HB0 := Lib.hid hbase
  have HT := Lib.hid ht
  have HOWN := Lib.hid hown
  clear hown ht hbase
  go_enter Tryz.func100, Tryz.ntmps100
  go_wp2
  go_loop [7] (fun i => ∃ k : Nat, k ≤ l.length ∧ i = .int .i64 k ∧ ∀ j x, l[j]? = some x → j < k → x < y) (fun i => l.length - (intOf i).toNat)
  case atStart => exact ⟨0, Nat.zero_le _, rfl, fun j x _ hj => absurd hj (Nat.not_lt_zero _)⟩
  case round =>
    obtain ⟨k, hk, rfl, hall⟩ := hrel
    have HALL := Lib.hid hall
    clear hall
    have h1 : (0 : Int) ≤ (k : Int) := by omega
    have h2 : (k : Int) ≤ (cap : Int) := by omega
    have h3 : (k : Int) ≤ (l.length : Int) := by omega
    by_cases hlt : k < l.length
    · obtain ⟨b', off', e', hbw, hc⟩ := HIN.out (by omega)
      obtain ⟨rfl, rfl⟩ : b = b' ∧ 0 = off' := by simpa using e'
      obtain ⟨x, s, hx1, hx2, hx3, hx4⟩ := str_at hlt
      have hcell : w.cell? ⟨b, 0 + k, none⟩ = some (.string s) := by rw [← hx3]; exact hc k x hx1
      rw [Nat.zero_add] at hcell
      have hkc : ¬ cap = k := by omega
      have hkc2 : ¬ (cap : Int) = (k : Int) := by omega
      clear hc e'
      by_cases hxy : x < y
      · have hls := less_yes hx2 HT.out hxy
        have HX := Lib.hid hx1
        have HXY := Lib.hid hxy
        clear hx1 hx2 hx3 hx4 hxy
        go_wp2
        go_round
        case rel =>
          refine ⟨k + 1, by omega, by go_num, fun j z hz hj => ?_⟩
          by_cases e : j = k
          · rw [e, HX.out] at hz
            cases hz
            exact HXY.out
          · exact HALL.out j z hz (by omega)
        case measure => simp [intOf]; omega
      · have hls := less_no hx2 HT.out hxy
        have HE := Lib.hid (putL_new (tw := true) HALL.out (fun z hz => by rw [hx1] at hz; cases hz; exact ⟨hxy, .inl rfl⟩))
        clear hx1 hx2 hx3 hx4 hxy
        have hmin : (l.take k).length = k := by rw [List.length_take]; omega
        have hdr : (l.drop k).length = (l.length - k) := List.length_drop
        have O1 : Hid (OwnS (w.alloc (.cells #[] 9)).drew w.heap.size (.slice (some ⟨w.heap.size, 0, none⟩) 0 0) []) := Lib.hid (own_new w w.heap.size w.heap.size rfl (Nat.le_refl _))
        have B1 := Lib.hid ((Below.refl w.heap.size w).alloc (Nat.le_refl _) (.cells #[] 9)).drew
        have O2 : Hid (OwnS ((w.alloc (.cells #[] 9)).alloc (.cells #[.string t] 9)).drew w.heap.size (.slice (some ⟨w.heap.size, 0, none⟩) 0 0) []) := Lib.hid ((own_new w w.heap.size w.heap.size rfl (Nat.le_refl _)).alloc (.cells #[.string t] 9))
        have B2 := Lib.hid (((Below.refl w.heap.size w).alloc (Nat.le_refl _) (.cells #[] 9)).alloc (by simp) (.cells #[.string t] 9)).drew
        have S2 : Hid (InS ((w.alloc (.cells #[] 9)).alloc (.cells #[.string t] 9)).drew (some ⟨w.heap.size + 1, 0, none⟩) [y]) := Lib.hid (in_one (w.alloc (.cells #[] 9)) (w.heap.size + 1) t y (by simp) HT.out)
        have O3 : Hid (OwnS ((w.alloc (.cells #[.string t] 9)).alloc (.cells #[] 9)).drew w.heap.size (.slice (some ⟨w.heap.size + 1, 0, none⟩) 0 0) []) := Lib.hid (own_new (w.alloc (.cells #[.string t] 9)) w.heap.size (w.heap.size + 1) (by simp) (by omega))
        have B3 := Lib.hid (((Below.refl w.heap.size w).alloc (Nat.le_refl _) (.cells #[.string t] 9)).alloc (by simp) (.cells #[] 9)).drew
        have S3 : Hid (InS ((w.alloc (.cells #[.string t] 9)).alloc (.cells #[] 9)).drew (some ⟨w.heap.size, 0, none⟩) [y]) := Lib.hid ((in_one w w.heap.size t y rfl HT.out).alloc (.cells #[] 9))
        have HM := Lib.hid hmin
        have HD := Lib.hid hdr
        clear hmin hdr
        go_wp2
        go_region_law (first
          | (refine step_app (by rfl) (.tmp 39) (.tmp 42) (by rfl) w.heap.size (.slice (some ⟨w.heap.size, 0, none⟩) 0 0) [] (by rfl) (some ⟨b, 0, none⟩) k cap (l.take k) (by rfl) HM.out.symm O1.out ((HIN.out.below B1.out).take' k) nofun (by have e1 := HM.out; have e2 := HD.out; simp only [List.length_append, List.length_cons, List.length_nil] at e1 e2 ⊢; omega) B1.out.size ?_; intro v1 w1 ho1 hg1; have hb1 : Below w.heap.size w w1 := grown_old B1.out hg1 O1.out)
          | (refine step_app (by rfl) (.tmp 39) (.tmp 42) (by rfl) w.heap.size (.slice (some ⟨w.heap.size, 0, none⟩) 0 0) [] (by rfl) (some ⟨b, 0, none⟩) k cap (l.take k) (by rfl) HM.out.symm O2.out ((HIN.out.below B2.out).take' k) nofun (by have e1 := HM.out; have e2 := HD.out; simp only [List.length_append, List.length_cons, List.length_nil] at e1 e2 ⊢; omega) B2.out.size ?_; intro v1 w1 ho1 hg1; have hb1 : Below w.heap.size w w1 := grown_old B2.out hg1 O2.out; have hs1 := S2.out.grown hg1 (by intro b off e; cases e; simp [Value.ownBlock]))
          | (refine step_app (by rfl) (.tmp 39) (.tmp 42) (by rfl) w.heap.size (.slice (some ⟨w.heap.size + 1, 0, none⟩) 0 0) [] (by rfl) (some ⟨b, 0, none⟩) k cap (l.take k) (by rfl) HM.out.symm O3.out ((HIN.out.below B3.out).take' k) nofun (by have e1 := HM.out; have e2 := HD.out; simp only [List.length_append, List.length_cons, List.length_nil] at e1 e2 ⊢; omega) B3.out.size ?_; intro v1 w1 ho1 hg1; have hb1 : Below w.heap.size w w1 := grown_old B3.out hg1 O3.out; have hs1 := S3.out.grown hg1 (by intro b off e; cases e; simp [Value.ownBlock]))
          | (refine step_app (by rfl) (.tmp 43) (.tmp 45) (by rfl) w.heap.size v1 ([] ++ (l.take k)) (by rfl) (some ⟨w.heap.size + 1, 0, none⟩) 1 1 [y] (by rfl) rfl ho1 hs1 nofun (by have e1 := HM.out; have e2 := HD.out; simp only [List.length_append, List.length_cons, List.length_nil] at e1 e2 ⊢; omega) hb1.size ?_; intro v2 w2 ho2 hg2; have hb2 : Below w.heap.size w w2 := grown_old hb1 hg2 ho1)
          | (refine step_app (by rfl) (.tmp 43) (.tmp 45) (by rfl) w.heap.size v1 ([] ++ (l.take k)) (by rfl) (some ⟨w.heap.size, 0, none⟩) 1 1 [y] (by rfl) rfl ho1 hs1 nofun (by have e1 := HM.out; have e2 := HD.out; simp only [List.length_append, List.length_cons, List.length_nil] at e1 e2 ⊢; omega) hb1.size ?_; intro v2 w2 ho2 hg2; have hb2 : Below w.heap.size w w2 := grown_old hb1 hg2 ho1)
          | (refine step_app (by rfl) (.tmp 43) (.tmp 45) (by rfl) w.heap.size v1 ([] ++ (l.take k)) (by rfl) (some ⟨w1.heap.size, 0, none⟩) 1 1 [y] (by rfl) rfl (ho1.alloc _) (in_one w1 w1.heap.size t y rfl HT.out) nofun (by have e1 := HM.out; have e2 := HD.out; simp only [List.length_append, List.length_cons, List.length_nil] at e1 e2 ⊢; omega) (hb1.alloc hb1.size _).size ?_; intro v2 w2 ho2 hg2; have hb2 : Below w.heap.size w w2 := grown_old (hb1.alloc hb1.size _) hg2 (ho1.alloc _))
          | (refine step_app (by rfl) (.tmp 46) (.tmp 49) (by rfl) w.heap.size v2 ([] ++ (l.take k) ++ [y]) (by rfl) (some ⟨b, k, none⟩) (l.length - k) (cap - k) (l.drop k) (by rfl) HD.out.symm ho2 ((HIN.out.below hb2).drop0 k) nofun (by have e1 := HM.out; have e2 := HD.out; simp only [List.length_append, List.length_cons, List.length_nil] at e1 e2 ⊢; omega) hb2.size ?_; intro v3 w3 ho3 hg3; have hb3 : Below w.heap.size w w3 := grown_old hb2 hg3 ho2))
        all_goals go_wp2
        all_goals go_ret
        all_goals
          have hfin : OwnS w3 base v3 (putL true l y) := by
            rw [HE.out]
            have h := ho3.mono HB0.out
            simpa using h
          exact PutsS.mk hfin hb3
    · have HE := Lib.hid (putL_new (tw := true) HALL.out (fun z hz => absurd (List.getElem?_eq_some_iff.1 hz).1 hlt))
      by_cases hkc : cap = k
      · subst hkc
        have hmin : (l.take cap).length = cap := by rw [List.length_take]; omega
        have hdr : (l.drop cap).length = 0 := by rw [List.length_drop]; omega
        have O1 : Hid (OwnS (w.alloc (.cells #[] 9)).drew w.heap.size (.slice (some ⟨w.heap.size, 0, none⟩) 0 0) []) := Lib.hid (own_new w w.heap.size w.heap.size rfl (Nat.le_refl _))
        have B1 := Lib.hid ((Below.refl w.heap.size w).alloc (Nat.le_refl _) (.cells #[] 9)).drew
        have O2 : Hid (OwnS ((w.alloc (.cells #[] 9)).alloc (.cells #[.string t] 9)).drew w.heap.size (.slice (some ⟨w.heap.size, 0, none⟩) 0 0) []) := Lib.hid ((own_new w w.heap.size w.heap.size rfl (Nat.le_refl _)).alloc (.cells #[.string t] 9))
        have B2 := Lib.hid (((Below.refl w.heap.size w).alloc (Nat.le_refl _) (.cells #[] 9)).alloc (by simp) (.cells #[.string t] 9)).drew
        have S2 : Hid (InS ((w.alloc (.cells #[] 9)).alloc (.cells #[.string t] 9)).drew (some ⟨w.heap.size + 1, 0, none⟩) [y]) := Lib.hid (in_one (w.alloc (.cells #[] 9)) (w.heap.size + 1) t y (by simp) HT.out)
        have O3 : Hid (OwnS ((w.alloc (.cells #[.string t] 9)).alloc (.cells #[] 9)).drew w.heap.size (.slice (some ⟨w.heap.size + 1, 0, none⟩) 0 0) []) := Lib.hid (own_new (w.alloc (.cells #[.string t] 9)) w.heap.size (w.heap.size + 1) (by simp) (by omega))
        have B3 := Lib.hid (((Below.refl w.heap.size w).alloc (Nat.le_refl _) (.cells #[.string t] 9)).alloc (by simp) (.cells #[] 9)).drew
        have S3 : Hid (InS ((w.alloc (.cells #[.string t] 9)).alloc (.cells #[] 9)).drew (some ⟨w.heap.size, 0, none⟩) [y]) := Lib.hid ((in_one w w.heap.size t y rfl HT.out).alloc (.cells #[] 9))
        have HM := Lib.hid hmin
        have HD := Lib.hid hdr
        clear hmin hdr
        go_wp2
        go_region_law (first
          | (refine step_app (by rfl) (.tmp 39) (.tmp 42) (by rfl) w.heap.size (.slice (some ⟨w.heap.size, 0, none⟩) 0 0) [] (by rfl) (some ⟨b, 0, none⟩) cap cap (l.take cap) (by rfl) HM.out.symm O1.out ((HIN.out.below B1.out).take' cap) nofun (by have e1 := HM.out; have e2 := HD.out; simp only [List.length_append, List.length_cons, List.length_nil] at e1 e2 ⊢; omega) B1.out.size ?_; intro v1 w1 ho1 hg1; have hb1 : Below w.heap.size w w1 := grown_old B1.out hg1 O1.out)
          | (refine step_app (by rfl) (.tmp 39) (.tmp 42) (by rfl) w.heap.size (.slice (some ⟨w.heap.size, 0, none⟩) 0 0) [] (by rfl) (some ⟨b, 0, none⟩) cap cap (l.take cap) (by rfl) HM.out.symm O2.out ((HIN.out.below B2.out).take' cap) nofun (by have e1 := HM.out; have e2 := HD.out; simp only [List.length_append, List.length_cons, List.length_nil] at e1 e2 ⊢; omega) B2.out.size ?_; intro v1 w1 ho1 hg1; have hb1 : Below w.heap.size w w1 := grown_old B2.out hg1 O2.out; have hs1 := S2.out.grown hg1 (by intro b off e; cases e; simp [Value.ownBlock]))
          | (refine step_app (by rfl) (.tmp 39) (.tmp 42) (by rfl) w.heap.size (.slice (some ⟨w.heap.size + 1, 0, none⟩) 0 0) [] (by rfl) (some ⟨b, 0, none⟩) cap cap (l.take cap) (by rfl) HM.out.symm O3.out ((HIN.out.below B3.out).take' cap) nofun (by have e1 := HM.out; have e2 := HD.out; simp only [List.length_append, List.length_cons, List.length_nil] at e1 e2 ⊢; omega) B3.out.size ?_; intro v1 w1 ho1 hg1; have hb1 : Below w.heap.size w w1 := grown_old B3.out hg1 O3.out; have hs1 := S3.out.grown hg1 (by intro b off e; cases e; simp [Value.ownBlock]))
          | (refine step_app (by rfl) (.tmp 43) (.tmp 45) (by rfl) w.heap.size v1 ([] ++ (l.take cap)) (by rfl) (some ⟨w.heap.size + 1, 0, none⟩) 1 1 [y] (by rfl) rfl ho1 hs1 nofun (by have e1 := HM.out; have e2 := HD.out; simp only [List.length_append, List.length_cons, List.length_nil] at e1 e2 ⊢; omega) hb1.size ?_; intro v2 w2 ho2 hg2; have hb2 : Below w.heap.size w w2 := grown_old hb1 hg2 ho1)
          | (refine step_app (by rfl) (.tmp 43) (.tmp 45) (by rfl) w.heap.size v1 ([] ++ (l.take cap)) (by rfl) (some ⟨w.heap.size, 0, none⟩) 1 1 [y] (by rfl) rfl ho1 hs1 nofun (by have e1 := HM.out; have e2 := HD.out; simp only [List.length_append, List.length_cons, List.length_nil] at e1 e2 ⊢; omega) hb1.size ?_; intro v2 w2 ho2 hg2; have hb2 : Below w.heap.size w w2 := grown_old hb1 hg2 ho1)
          | (refine step_app (by rfl) (.tmp 43) (.tmp 45) (by rfl) w.heap.size v1 ([] ++ (l.take cap)) (by rfl) (some ⟨w1.heap.size, 0, none⟩) 1 1 [y] (by rfl) rfl (ho1.alloc _) (in_one w1 w1.heap.size t y rfl HT.out) nofun (by have e1 := HM.out; have e2 := HD.out; simp only [List.length_append, List.length_cons, List.length_nil] at e1 e2 ⊢; omega) (hb1.alloc hb1.size _).size ?_; intro v2 w2 ho2 hg2; have hb2 : Below w.heap.size w w2 := grown_old (hb1.alloc hb1.size _) hg2 (ho1.alloc _))
          | (refine step_app (by rfl) (.tmp 46) (.tmp 49) (by rfl) w.heap.size v2 ([] ++ (l.take cap) ++ [y]) (by rfl) (some ⟨b, 0, none⟩) 0 0 (l.drop cap) (by rfl) HD.out.symm ho2 (InS.empty _ _ (by rw [List.length_drop]; omega)) nofun (by have e1 := HM.out; have e2 := HD.out; simp only [List.length_append, List.length_cons, List.length_nil] at e1 e2 ⊢; omega) hb2.size ?_; intro v3 w3 ho3 hg3; have hb3 : Below w.heap.size w w3 := grown_old hb2 hg3 ho2))
        all_goals go_wp2
        all_goals go_ret
        all_goals
          have hfin : OwnS w3 base v3 (putL true l y) := by
            rw [HE.out]
            have h := ho3.mono HB0.out
            simpa using h
          exact PutsS.mk hfin hb3
      · have hkc2 : ¬ (cap : Int) = (k : Int) := by omega
        have hmin : (l.take k).length = k := by rw [List.length_take]; omega
        have hdr : (l.drop k).length = (l.length - k) := List.length_drop
        have O1 : Hid (OwnS (w.alloc (.cells #[] 9)).drew w.heap.size (.slice (some ⟨w.heap.size, 0, none⟩) 0 0) []) := Lib.hid (own_new w w.heap.size w.heap.size rfl (Nat.le_refl _))
        have B1 := Lib.hid ((Below.refl w.heap.size w).alloc (Nat.le_refl _) (.cells #[] 9)).drew
        have O2 : Hid (OwnS ((w.alloc (.cells #[] 9)).alloc (.cells #[.string t] 9)).drew w.heap.size (.slice (some ⟨w.heap.size, 0, none⟩) 0 0) []) := Lib.hid ((own_new w w.heap.size w.heap.size rfl (Nat.le_refl _)).alloc (.cells #[.string t] 9))
        have B2 := Lib.hid (((Below.refl w.heap.size w).alloc (Nat.le_refl _) (.cells #[] 9)).alloc (by simp) (.cells #[.string t] 9)).drew
        have S2 : Hid (InS ((w.alloc (.cells #[] 9)).alloc (.cells #[.string t] 9)).drew (some ⟨w.heap.size + 1, 0, none⟩) [y]) := Lib.hid (in_one (w.alloc (.cells #[] 9)) (w.heap.size + 1) t y (by simp) HT.out)
        have O3 : Hid (OwnS ((w.alloc (.cells #[.string t] 9)).alloc (.cells #[] 9)).drew w.heap.size (.slice (some ⟨w.heap.size + 1, 0, none⟩) 0 0) []) := Lib.hid (own_new (w.alloc (.cells #[.string t] 9)) w.heap.size (w.heap.size + 1) (by simp) (by omega))
        have B3 := Lib.hid (((Below.refl w.heap.size w).alloc (Nat.le_refl _) (.cells #[.string t] 9)).alloc (by simp) (.cells #[] 9)).drew
        have S3 : Hid (InS ((w.alloc (.cells #[.string t] 9)).alloc (.cells #[] 9)).drew (some ⟨w.heap.size, 0, none⟩) [y]) := Lib.hid ((in_one w w.heap.size t y rfl HT.out).alloc (.cells #[] 9))
        have HM := Lib.hid hmin
        have HD := Lib.hid hdr
        clear hmin hdr
        go_wp2
        go_region_law (first
          | (refine step_app (by rfl) (.tmp 39) (.tmp 42) (by rfl) w.heap.size (.slice (some ⟨w.heap.size, 0, none⟩) 0 0) [] (by rfl) (some ⟨b, 0, none⟩) k cap (l.take k) (by rfl) HM.out.symm O1.out ((HIN.out.below B1.out).take' k) nofun (by have e1 := HM.out; have e2 := HD.out; simp only [List.length_append, List.length_cons, List.length_nil] at e1 e2 ⊢; omega) B1.out.size ?_; intro v1 w1 ho1 hg1; have hb1 : Below w.heap.size w w1 := grown_old B1.out hg1 O1.out)
          | (refine step_app (by rfl) (.tmp 39) (.tmp 42) (by rfl) w.heap.size (.slice (some ⟨w.heap.size, 0, none⟩) 0 0) [] (by rfl) (some ⟨b, 0, none⟩) k cap (l.take k) (by rfl) HM.out.symm O2.out ((HIN.out.below B2.out).take' k) nofun (by have e1 := HM.out; have e2 := HD.out; simp only [List.length_append, List.length_cons, List.length_nil] at e1 e2 ⊢; omega) B2.out.size ?_; intro v1 w1 ho1 hg1; have hb1 : Below w.heap.size w w1 := grown_old B2.out hg1 O2.out; have hs1 := S2.out.grown hg1 (by intro b off e; cases e; simp [Value.ownBlock]))
          | (refine step_app (by rfl) (.tmp 39) (.tmp 42) (by rfl) w.heap.size (.slice (some ⟨w.heap.size + 1, 0, none⟩) 0 0) [] (by rfl) (some ⟨b, 0, none⟩) k cap (l.take k) (by rfl) HM.out.symm O3.out ((HIN.out.below B3.out).take' k) nofun (by have e1 := HM.out; have e2 := HD.out; simp only [List.length_append, List.length_cons, List.length_nil] at e1 e2 ⊢; omega) B3.out.size ?_; intro v1 w1 ho1 hg1; have hb1 : Below w.heap.size w w1 := grown_old B3.out hg1 O3.out; have hs1 := S3.out.grown hg1 (by intro b off e; cases e; simp [Value.ownBlock]))
          | (refine step_app (by rfl) (.tmp 43) (.tmp 45) (by rfl) w.heap.size v1 ([] ++ (l.take k)) (by rfl) (some ⟨w.heap.size + 1, 0, none⟩) 1 1 [y] (by rfl) rfl ho1 hs1 nofun (by have e1 := HM.out; have e2 := HD.out; simp only [List.length_append, List.length_cons, List.length_nil] at e1 e2 ⊢; omega) hb1.size ?_; intro v2 w2 ho2 hg2; have hb2 : Below w.heap.size w w2 := grown_old hb1 hg2 ho1)
          | (refine step_app (by rfl) (.tmp 43) (.tmp 45) (by rfl) w.heap.size v1 ([] ++ (l.take k)) (by rfl) (some ⟨w.heap.size, 0, none⟩) 1 1 [y] (by rfl) rfl ho1 hs1 nofun (by have e1 := HM.out; have e2 := HD.out; simp only [List.length_append, List.length_cons, List.length_nil] at e1 e2 ⊢; omega) hb1.size ?_; intro v2 w2 ho2 hg2; have hb2 : Below w.heap.size w w2 := grown_old hb1 hg2 ho1)
          | (refine step_app (by rfl) (.tmp 43) (.tmp 45) (by rfl) w.heap.size v1 ([] ++ (l.take k)) (by rfl) (some ⟨w1.heap.size, 0, none⟩) 1 1 [y] (by rfl) rfl (ho1.alloc _) (in_one w1 w1.heap.size t y rfl HT.out) nofun (by have e1 := HM.out; have e2 := HD.out; simp only [List.length_append, List.length_cons, List.length_nil] at e1 e2 ⊢; omega) (hb1.alloc hb1.size _).size ?_; intro v2 w2 ho2 hg2; have hb2 : Below w.heap.size w w2 := grown_old (hb1.alloc hb1.size _) hg2 (ho1.alloc _))
          | (refine step_app (by rfl) (.tmp 46) (.tmp 49) (by rfl) w.heap.size v2 ([] ++ (l.take k) ++ [y]) (by rfl) (some ⟨b, k, none⟩) (l.length - k) (cap - k) (l.drop k) (by rfl) HD.out.symm ho2 ((HIN.out.below hb2).drop0 k) nofun (by have e1 := HM.out; have e2 := HD.out; simp only [List.length_append, List.length_cons, List.length_nil] at e1 e2 ⊢; omega) hb2.size ?_; intro v3 w3 ho3 hg3; have hb3 : Below w.heap.size w w3 := grown_old hb2 hg3 ho2))
        all_goals go_wp2
        all_goals go_ret
        all_goals
          have hfin : OwnS w3 base v3 (putL true l y) := by
            rw [HE.out]
            have h := ho3.mono HB0.out
            simpa using h
          exact PutsS.mk hfin hb3

set_option maxRecDepth 100000 in
set_option maxHeartbeats 4000000 in
theorem put_nil_false (base : Nat) (t : ByteArray) (y : Str) (w : World) (hbase : base ≤ w.heap.size) (ht : t.data.toList = y) :
    Calls Tryz.prog 100 #[.slice none 0 0, .string t, .bool false] w (PutsS w base (putL false [] y)) := by
  have HB0 := Lib.hid hbase
  have HT := Lib.hid ht
  have HE := Lib.hid (show putL false [] y = ([] : List Str) ++ y :: ([] : List Str) from rfl)
  clear ht hbase
  go_enter Tryz.func100, Tryz.ntmps100
  go_wp2
  refine wp_loop_rounds 1 ?_
  rw [rounds_succ]
  have hmin : ([] : List Str).length = 0 := rfl
  have hdr : ([] : List Str).length = 0 := rfl
  have O1 : Hid (OwnS (w.alloc (.cells #[] 9)).drew w.heap.size (.slice (some ⟨w.heap.size, 0, none⟩) 0 0) []) := Lib.hid (own_new w w.heap.size w.heap.size rfl (Nat.le_refl _))
  have B1 := Lib.hid ((Below.refl w.heap.size w).alloc (Nat.le_refl _) (.cells #[] 9)).drew
  have O2 : Hid (OwnS ((w.alloc (.cells #[] 9)).alloc (.cells #[.string t] 9)).drew w.heap.size (.slice (some ⟨w.heap.size, 0, none⟩) 0 0) []) := Lib.hid ((own_new w w.heap.size w.heap.size rfl (Nat.le_refl _)).alloc (.cells #[.string t] 9))
  have B2 := Lib.hid (((Below.refl w.heap.size w).alloc (Nat.le_refl _) (.cells #[] 9)).alloc (by simp) (.cells #[.string t] 9)).drew
  have S2 : Hid (InS ((w.alloc (.cells #[] 9)).alloc (.cells #[.string t] 9)).drew (some ⟨w.heap.size + 1, 0, none⟩) [y]) := Lib.hid (in_one (w.alloc (.cells #[] 9)) (w.heap.size + 1) t y (by simp) HT.out)
  have O3 : Hid (OwnS ((w.alloc (.cells #[.string t] 9)).alloc (.cells #[] 9)).drew w.heap.size (.slice (some ⟨w.heap.size + 1, 0, none⟩) 0 0) []) := Lib.hid (own_new (w.alloc (.cells #[.string t] 9)) w.heap.size (w.heap.size + 1) (by simp) (by omega))
  have B3 := Lib.hid (((Below.refl w.heap.size w).alloc (Nat.le_refl _) (.cells #[.string t] 9)).alloc (by simp) (.cells #[] 9)).drew
  have S3 : Hid (InS ((w.alloc (.cells #[.string t] 9)).alloc (.cells #[] 9)).drew (some ⟨w.heap.size, 0, none⟩) [y]) := Lib.hid ((in_one w w.heap.size t y rfl HT.out).alloc (.cells #[] 9))
  have HM := Lib.hid hmin
  have HD := Lib.hid hdr
  clear hmin hdr
  go_wp2
  go_region_law (first
    | (refine step_app (by rfl) (.tmp 39) (.tmp 42) (by rfl) w.heap.size (.slice (some ⟨w.heap.size, 0, none⟩) 0 0) [] (by rfl) none 0 0 ([] : List Str) (by rfl) HM.out.symm O1.out (InS.empty _ _ rfl) (fun _ => rfl) (by have e1 := HM.out; have e2 := HD.out; simp only [List.length_append, List.length_cons, List.length_nil] at e1 e2 ⊢; omega) B1.out.size ?_; intro v1 w1 ho1 hg1; have hb1 : Below w.heap.size w w1 := grown_old B1.out hg1 O1.out)
    | (refine step_app (by rfl) (.tmp 39) (.tmp 42) (by rfl) w.heap.size (.slice (some ⟨w.heap.size, 0, none⟩) 0 0) [] (by rfl) none 0 0 ([] : List Str) (by rfl) HM.out.symm O2.out (InS.empty _ _ rfl) (fun _ => rfl) (by have e1 := HM.out; have e2 := HD.out; simp only [List.length_append, List.length_cons, List.length_nil] at e1 e2 ⊢; omega) B2.out.size ?_; intro v1 w1 ho1 hg1; have hb1 : Below w.heap.size w w1 := grown_old B2.out hg1 O2.out; have hs1 := S2.out.grown hg1 (by intro b off e; cases e; simp [Value.ownBlock]))
    | (refine step_app (by rfl) (.tmp 39) (.tmp 42) (by rfl) w.heap.size (.slice (some ⟨w.heap.size + 1, 0, none⟩) 0 0) [] (by rfl) none 0 0 ([] : List Str) (by rfl) HM.out.symm O3.out (InS.empty _ _ rfl) (fun _ => rfl) (by have e1 := HM.out; have e2 := HD.out; simp only [List.length_append, List.length_cons, List.length_nil] at e1 e2 ⊢; omega) B3.out.size ?_; intro v1 w1 ho1 hg1; have hb1 : Below w.heap.size w w1 := grown_old B3.out hg1 O3.out; have hs1 := S3.out.grown hg1 (by intro b off e; cases e; simp [Value.ownBlock]))
    | (refine step_app (by rfl) (.tmp 43) (.tmp 45) (by rfl) w.heap.size v1 ([] ++ ([] : List Str)) (by rfl) (some ⟨w.heap.size + 1, 0, none⟩) 1 1 [y] (by rfl) rfl ho1 hs1 nofun (by have e1 := HM.out; have e2 := HD.out; simp only [List.length_append, List.length_cons, List.length_nil] at e1 e2 ⊢; omega) hb1.size ?_; intro v2 w2 ho2 hg2; have hb2 : Below w.heap.size w w2 := grown_old hb1 hg2 ho1)
    | (refine step_app (by rfl) (.tmp 43) (.tmp 45) (by rfl) w.heap.size v1 ([] ++ ([] : List Str)) (by rfl) (some ⟨w.heap.size, 0, none⟩) 1 1 [y] (by rfl) rfl ho1 hs1 nofun (by have e1 := HM.out; have e2 := HD.out; simp only [List.length_append, List.length_cons, List.length_nil] at e1 e2 ⊢; omega) hb1.size ?_; intro v2 w2 ho2 hg2; have hb2 : Below w.heap.size w w2 := grown_old hb1 hg2 ho1)
    | (refine step_app (by rfl) (.tmp 43) (.tmp 45) (by rfl) w.heap.size v1 ([] ++ ([] : List Str)) (by rfl) (some ⟨w1.heap.size, 0, none⟩) 1 1 [y] (by rfl) rfl (ho1.alloc _) (in_one w1 w1.heap.size t y rfl HT.out) nofun (by have e1 := HM.out; have e2 := HD.out; simp only [List.length_append, List.length_cons, List.length_nil] at e1 e2 ⊢; omega) (hb1.alloc hb1.size _).size ?_; intro v2 w2 ho2 hg2; have hb2 : Below w.heap.size w w2 := grown_old (hb1.alloc hb1.size _) hg2 (ho1.alloc _))
    | (refine step_app (by rfl) (.tmp 46) (.tmp 49) (by rfl) w.heap.size v2 ([] ++ ([] : List Str) ++ [y]) (by rfl) none 0 0 ([] : List Str) (by rfl) HD.out.symm ho2 (InS.empty _ _ rfl) (fun _ => rfl) (by have e1 := HM.out; have e2 := HD.out; simp only [List.length_append, List.length_cons, List.length_nil] at e1 e2 ⊢; omega) hb2.size ?_; intro v3 w3 ho3 hg3; have hb3 : Below w.heap.size w w3 := grown_old hb2 hg3 ho2))
  all_goals go_wp2
  all_goals go_ret
  all_goals
    have hfin : OwnS w3 base v3 (putL false [] y) := by
      rw [HE.out]
      have h := ho3.mono HB0.out
      simpa using h
    exact PutsS.mk hfin hb3

set_option maxRecDepth 100000 in
set_option maxHeartbeats 8000000 in
theorem put_some_false (base b cap : Nat) (l : List Str) (t : ByteArray) (y : Str) (w : World) (hl : l.length ≤ 8500000) (hown : OwnS w base (.slice (some ⟨b, 0, none⟩) l.length cap) l) (hbase : base ≤ w.heap.size) (ht : t.data.toList = y) :
    Calls Tryz.prog 100 #[.slice (some ⟨b, 0, none⟩) l.length cap, .string t, .bool false] w (PutsS w base (putL false l y)) := by
  have hlc := hown.cap_ge
  have HIN := Lib.hid hown.inS
  have HB0 := Lib.hid hbase
  have HT := Lib.hid ht
  have HOWN := Lib.hid hown
  clear hown ht hbase
  go_enter Tryz.func100, Tryz.ntmps100
  go_wp2
  go_loop [7] (fun i => ∃ k : Nat, k ≤ l.length ∧ i = .int .i64 k ∧ ∀ j x, l[j]? = some x → j < k → x < y) (fun i => l.length - (intOf i).toNat)
  case atStart => exact ⟨0, Nat.zero_le _, rfl, fun j x _ hj => absurd hj (Nat.not_lt_zero _)⟩
  case round =>
    obtain ⟨k, hk, rfl, hall⟩ := hrel
    have HALL := Lib.hid hall
    clear hall
    have h1 : (0 : Int) ≤ (k : Int) := by omega
    have h2 : (k : Int) ≤ (cap : Int) := by omega
    have h3 : (k : Int) ≤ (l.length : Int) := by omega
    by_cases hlt : k < l.length
    · obtain ⟨b', off', e', hbw, hc⟩ := HIN.out (by omega)
      obtain ⟨rfl, rfl⟩ : b = b' ∧ 0 = off' := by simpa using e'
      obtain ⟨x, s, hx1, hx2, hx3, hx4⟩ := str_at hlt
      have hcell : w.cell? ⟨b, 0 + k, none⟩ = some (.string s) := by rw [← hx3]; exact hc k x hx1
      rw [Nat.zero_add] at hcell
      have hkc : ¬ cap = k := by omega
      have hkc2 : ¬ (cap : Int) = (k : Int) := by omega
      clear hc e'
      by_cases hxy : x < y
      · have hls := less_yes hx2 HT.out hxy
        have HX := Lib.hid hx1
        have HXY := Lib.hid hxy
        clear hx1 hx2 hx3 hx4 hxy
        go_wp2
        go_round
        case rel =>
          refine ⟨k + 1, by omega, by go_num, fun j z hz hj => ?_⟩
          by_cases e : j = k
          · rw [e, HX.out] at hz
            cases hz
            exact HXY.out
          · exact HALL.out j z hz (by omega)
        case measure => simp [intOf]; omega
      · have hls := less_no hx2 HT.out hxy
        by_cases hq : x = y
        · have HE := Lib.hid (putL_same HALL.out (by rw [hx1, hq]))
          obtain rfl := str_eq3 hx2 HT.out hq
          clear hx1 hx2 hx3 hx4 hxy hq
          go_wp2
          go_ret
          refine PutsS.mk ?_ (Below.refl _ _)
          rw [HE.out]
          exact HOWN.out
        · have HE := Lib.hid (putL_new (tw := false) HALL.out (fun z hz => by rw [hx1] at hz; cases hz; exact ⟨hxy, .inr hq⟩))
          have hse := str_ne3 hx2 HT.out hq
          clear hx1 hx2 hx3 hx4 hxy hq
          have hmin : (l.take k).length = k := by rw [List.length_take]; omega
          have hdr : (l.drop k).length = (l.length - k) := List.length_drop
          have O1 : Hid (OwnS (w.alloc (.cells #[] 9)).drew w.heap.size (.slice (some ⟨w.heap.size, 0, none⟩) 0 0) []) := Lib.hid (own_new w w.heap.size w.heap.size rfl (Nat.le_refl _))
          have B1 := Lib.hid ((Below.refl w.heap.size w).alloc (Nat.le_refl _) (.cells #[] 9)).drew
          have O2 : Hid (OwnS ((w.alloc (.cells #[] 9)).alloc (.cells #[.string t] 9)).drew w.heap.size (.slice (some ⟨w.heap.size, 0, none⟩) 0 0) []) := Lib.hid ((own_new w w.heap.size w.heap.size rfl (Nat.le_refl _)).alloc (.cells #[.string t] 9))
          have B2 := Lib.hid (((Below.refl w.heap.size w).alloc (Nat.le_refl _) (.cells #[] 9)).alloc (by simp) (.cells #[.string t] 9)).drew
          have S2 : Hid (InS ((w.alloc (.cells #[] 9)).alloc (.cells #[.string t] 9)).drew (some ⟨w.heap.size + 1, 0, none⟩) [y]) := Lib.hid (in_one (w.alloc (.cells #[] 9)) (w.heap.size + 1) t y (by simp) HT.out)
          have O3 : Hid (OwnS ((w.alloc (.cells #[.string t] 9)).alloc (.cells #[] 9)).drew w.heap.size (.slice (some ⟨w.heap.size + 1, 0, none⟩) 0 0) []) := Lib.hid (own_new (w.alloc (.cells #[.string t] 9)) w.heap.size (w.heap.size + 1) (by simp) (by omega))
          have B3 := Lib.hid (((Below.refl w.heap.size w).alloc (Nat.le_refl _) (.cells #[.string t] 9)).alloc (by simp) (.cells #[] 9)).drew
          have S3 : Hid (InS ((w.alloc (.cells #[.string t] 9)).alloc (.cells #[] 9)).drew (some ⟨w.heap.size, 0, none⟩) [y]) := Lib.hid ((in_one w w.heap.size t y rfl HT.out).alloc (.cells #[] 9))
          have HM := Lib.hid hmin
          have HD := Lib.hid hdr
          clear hmin hdr
          go_wp2
          go_region_law (first
            | (refine step_app (by rfl) (.tmp 39) (.tmp 42) (by rfl) w.heap.size (.slice (some ⟨w.heap.size, 0, none⟩) 0 0) [] (by rfl) (some ⟨b, 0, none⟩) k cap (l.take k) (by rfl) HM.out.symm O1.out ((HIN.out.below B1.out).take' k) nofun (by have e1 := HM.out; have e2 := HD.out; simp only [List.length_append, List.length_cons, List.length_nil] at e1 e2 ⊢; omega) B1.out.size ?_; intro v1 w1 ho1 hg1; have hb1 : Below w.heap.size w w1 := grown_old B1.out hg1 O1.out)
            | (refine step_app (by rfl) (.tmp 39) (.tmp 42) (by rfl) w.heap.size (.slice (some ⟨w.heap.size, 0, none⟩) 0 0) [] (by rfl) (some ⟨b, 0, none⟩) k cap (l.take k) (by rfl) HM.out.symm O2.out ((HIN.out.below B2.out).take' k) nofun (by have e1 := HM.out; have e2 := HD.out; simp only [List.length_append, List.length_cons, List.length_nil] at e1 e2 ⊢; omega) B2.out.size ?_; intro v1 w1 ho1 hg1; have hb1 : Below w.heap.size w w1 := grown_old B2.out hg1 O2.out; have hs1 := S2.out.grown hg1 (by intro b off e; cases e; simp [Value.ownBlock]))
            | (refine step_app (by rfl) (.tmp 39) (.tmp 42) (by rfl) w.heap.size (.slice (some ⟨w.heap.size + 1, 0, none⟩) 0 0) [] (by rfl) (some ⟨b, 0, none⟩) k cap (l.take k) (by rfl) HM.out.symm O3.out ((HIN.out.below B3.out).take' k) nofun (by have e1 := HM.out; have e2 := HD.out; simp only [List.length_append, List.length_cons, List.length_nil] at e1 e2 ⊢; omega) B3.out.size ?_; intro v1 w1 ho1 hg1; have hb1 : Below w.heap.size w w1 := grown_old B3.out hg1 O3.out; have hs1 := S3.out.grown hg1 (by intro b off e; cases e; simp [Value.ownBlock]))
            | (refine step_app (by rfl) (.tmp 43) (.tmp 45) (by rfl) w.heap.size v1 ([] ++ (l.take k)) (by rfl) (some ⟨w.heap.size + 1, 0, none⟩) 1 1 [y] (by rfl) rfl ho1 hs1 nofun (by have e1 := HM.out; have e2 := HD.out; simp only [List.length_append, List.length_cons, List.length_nil] at e1 e2 ⊢; omega) hb1.size ?_; intro v2 w2 ho2 hg2; have hb2 : Below w.heap.size w w2 := grown_old hb1 hg2 ho1)
            | (refine step_app (by rfl) (.tmp 43) (.tmp 45) (by rfl) w.heap.size v1 ([] ++ (l.take k)) (by rfl) (some ⟨w.heap.size, 0, none⟩) 1 1 [y] (by rfl) rfl ho1 hs1 nofun (by have e1 := HM.out; have e2 := HD.out; simp only [List.length_append, List.length_cons, List.length_nil] at e1 e2 ⊢; omega) hb1.size ?_; intro v2 w2 ho2 hg2; have hb2 : Below w.heap.size w w2 := grown_old hb1 hg2 ho1)
            | (refine step_app (by rfl) (.tmp 43) (.tmp 45) (by rfl) w.heap.size v1 ([] ++ (l.take k)) (by rfl) (some ⟨w1.heap.size, 0, none⟩) 1 1 [y] (by rfl) rfl (ho1.alloc _) (in_one w1 w1.heap.size t y rfl HT.out) nofun (by have e1 := HM.out; have e2 := HD.out; simp only [List.length_append, List.length_cons, List.length_nil] at e1 e2 ⊢; omega) (hb1.alloc hb1.size _).size ?_; intro v2 w2 ho2 hg2; have hb2 : Below w.heap.size w w2 := grown_old (hb1.alloc hb1.size _) hg2 (ho1.alloc _))
            | (refine step_app (by rfl) (.tmp 46) (.tmp 49) (by rfl) w.heap.size v2 ([] ++ (l.take k) ++ [y]) (by rfl) (some ⟨b, k, none⟩) (l.length - k) (cap - k) (l.drop k) (by rfl) HD.out.symm ho2 ((HIN.out.below hb2).drop0 k) nofun (by have e1 := HM.out; have e2 := HD.out; simp only [List.length_append, List.length_cons, List.length_nil] at e1 e2 ⊢; omega) hb2.size ?_; intro v3 w3 ho3 hg3; have hb3 : Below w.heap.size w w3 := grown_old hb2 hg3 ho2))
          all_goals go_wp2
          all_goals go_ret
          all_goals
            have hfin : OwnS w3 base v3 (putL false l y) := by
              rw [HE.out]
              have h := ho3.mono HB0.out
              simpa using h
            exact PutsS.mk hfin hb3
    · have HE := Lib.hid (putL_new (tw := false) HALL.out (fun z hz => absurd (List.getElem?_eq_some_iff.1 hz).1 hlt))
      by_cases hkc : cap = k
      · subst hkc
        have hmin : (l.take cap).length = cap := by rw [List.length_take]; omega
        have hdr : (l.drop cap).length = 0 := by rw [List.length_drop]; omega
        have O1 : Hid (OwnS (w.alloc (.cells #[] 9)).drew w.heap.size (.slice (some ⟨w.heap.size, 0, none⟩) 0 0) []) := Lib.hid (own_new w w.heap.size w.heap.size rfl (Nat.le_refl _))
        have B1 := Lib.hid ((Below.refl w.heap.size w).alloc (Nat.le_refl _) (.cells #[] 9)).drew
        have O2 : Hid (OwnS ((w.alloc (.cells #[] 9)).alloc (.cells #[.string t] 9)).drew w.heap.size (.slice (some ⟨w.heap.size, 0, none⟩) 0 0) []) := Lib.hid ((own_new w w.heap.size w.heap.size rfl (Nat.le_refl _)).alloc (.cells #[.string t] 9))
        have B2 := Lib.hid (((Below.refl w.heap.size w).alloc (Nat.le_refl _) (.cells #[] 9)).alloc (by simp) (.cells #[.string t] 9)).drew
        have S2 : Hid (InS ((w.alloc (.cells #[] 9)).alloc (.cells #[.string t] 9)).drew (some ⟨w.heap.size + 1, 0, none⟩) [y]) := Lib.hid (in_one (w.alloc (.cells #[] 9)) (w.heap.size + 1) t y (by simp) HT.out)
        have O3 : Hid (OwnS ((w.alloc (.cells #[.string t] 9)).alloc (.cells #[] 9)).drew w.heap.size (.slice (some ⟨w.heap.size + 1, 0, none⟩) 0 0) []) := Lib.hid (own_new (w.alloc (.cells #[.string t] 9)) w.heap.size (w.heap.size + 1) (by simp) (by omega))
        have B3 := Lib.hid (((Below.refl w.heap.size w).alloc (Nat.le_refl _) (.cells #[.string t] 9)).alloc (by simp) (.cells #[] 9)).drew
        have S3 : Hid (InS ((w.alloc (.cells #[.string t] 9)).alloc (.cells #[] 9)).drew (some ⟨w.heap.size, 0, none⟩) [y]) := Lib.hid ((in_one w w.heap.size t y rfl HT.out).alloc (.cells #[] 9))
        have HM := Lib.hid hmin
        have HD := Lib.hid hdr
        clear hmin hdr
        go_wp2
        go_region_law (first
          | (refine step_app (by rfl) (.tmp 39) (.tmp 42) (by rfl) w.heap.size (.slice (some ⟨w.heap.size, 0, none⟩) 0 0) [] (by rfl) (some ⟨b, 0, none⟩) cap cap (l.take cap) (by rfl) HM.out.symm O1.out ((HIN.out.below B1.out).take' cap) nofun (by have e1 := HM.out; have e2 := HD.out; simp only [List.length_append, List.length_cons, List.length_nil] at e1 e2 ⊢; omega) B1.out.size ?_; intro v1 w1 ho1 hg1; have hb1 : Below w.heap.size w w1 := grown_old B1.out hg1 O1.out)
          | (refine step_app (by rfl) (.tmp 39) (.tmp 42) (by rfl) w.heap.size (.slice (some ⟨w.heap.size, 0, none⟩) 0 0) [] (by rfl) (some ⟨b, 0, none⟩) cap cap (l.take cap) (by rfl) HM.out.symm O2.out ((HIN.out.below B2.out).take' cap) nofun (by have e1 := HM.out; have e2 := HD.out; simp only [List.length_append, List.length_cons, List.length_nil] at e1 e2 ⊢; omega) B2.out.size ?_; intro v1 w1 ho1 hg1; have hb1 : Below w.heap.size w w1 := grown_old B2.out hg1 O2.out; have hs1 := S2.out.grown hg1 (by intro b off e; cases e; simp [Value.ownBlock]))
          | (refine step_app (by rfl) (.tmp 39) (.tmp 42) (by rfl) w.heap.size (.slice (some ⟨w.heap.size + 1, 0, none⟩) 0 0) [] (by rfl) (some ⟨b, 0, none⟩) cap cap (l.take cap) (by rfl) HM.out.symm O3.out ((HIN.out.below B3.out).take' cap) nofun (by have e1 := HM.out; have e2 := HD.out; simp only [List.length_append, List.length_cons, List.length_nil] at e1 e2 ⊢; omega) B3.out.size ?_; intro v1 w1 ho1 hg1; have hb1 : Below w.heap.size w w1 := grown_old B3.out hg1 O3.out; have hs1 := S3.out.grown hg1 (by intro b off e; cases e; simp [Value.ownBlock]))
          | (refine step_app (by rfl) (.tmp 43) (.tmp 45) (by rfl) w.heap.size v1 ([] ++ (l.take cap)) (by rfl) (some ⟨w.heap.size + 1, 0, none⟩) 1 1 [y] (by rfl) rfl ho1 hs1 nofun (by have e1 := HM.out; have e2 := HD.out; simp only [List.length_append, List.length_cons, List.length_nil] at e1 e2 ⊢; omega) hb1.size ?_; intro v2 w2 ho2 hg2; have hb2 : Below w.heap.size w w2 := grown_old hb1 hg2 ho1)
          | (refine step_app (by rfl) (.tmp 43) (.tmp 45) (by rfl) w.heap.size v1 ([] ++ (l.take cap)) (by rfl) (some ⟨w.heap.size, 0, none⟩) 1 1 [y] (by rfl) rfl ho1 hs1 nofun (by have e1 := HM.out; have e2 := HD.out; simp only [List.length_append, List.length_cons, List.length_nil] at e1 e2 ⊢; omega) hb1.size ?_; intro v2 w2 ho2 hg2; have hb2 : Below w.heap.size w w2 := grown_old hb1 hg2 ho1)
          | (refine step_app (by rfl) (.tmp 43) (.tmp 45) (by rfl) w.heap.size v1 ([] ++ (l.take cap)) (by rfl) (some ⟨w1.heap.size, 0, none⟩) 1 1 [y] (by rfl) rfl (ho1.alloc _) (in_one w1 w1.heap.size t y rfl HT.out) nofun (by have e1 := HM.out; have e2 := HD.out; simp only [List.length_append, List.length_cons, List.length_nil] at e1 e2 ⊢; omega) (hb1.alloc hb1.size _).size ?_; intro v2 w2 ho2 hg2; have hb2 : Below w.heap.size w w2 := grown_old (hb1.alloc hb1.size _) hg2 (ho1.alloc _))
          | (refine step_app (by rfl) (.tmp 46) (.tmp 49) (by rfl) w.heap.size v2 ([] ++ (l.take cap) ++ [y]) (by rfl) (some ⟨b, 0, none⟩) 0 0 (l.drop cap) (by rfl) HD.out.symm ho2 (InS.empty _ _ (by rw [List.length_drop]; omega)) nofun (by have e1 := HM.out; have e2 := HD.out; simp only [List.length_append, List.length_cons, List.length_nil] at e1 e2 ⊢; omega) hb2.size ?_; intro v3 w3 ho3 hg3; have hb3 : Below w.heap.size w w3 := grown_old hb2 hg3 ho2))
        all_goals go_wp2
        all_goals go_ret
        all_goals
          have hfin : OwnS w3 base v3 (putL false l y) := by
            rw [HE.out]
            have h := ho3.mono HB0.out
            simpa using h
          exact PutsS.mk hfin hb3
      · have hkc2 : ¬ (cap : Int) = (k : Int) := by omega
        have hmin : (l.take k).length = k := by rw [List.length_take]; omega
        have hdr : (l.drop k).length = (l.length - k) := List.length_drop
        have O1 : Hid (OwnS (w.alloc (.cells #[] 9)).drew w.heap.size (.slice (some ⟨w.heap.size, 0, none⟩) 0 0) []) := Lib.hid (own_new w w.heap.size w.heap.size rfl (Nat.le_refl _))
        have B1 := Lib.hid ((Below.refl w.heap.size w).alloc (Nat.le_refl _) (.cells #[] 9)).drew
        have O2 : Hid (OwnS ((w.alloc (.cells #[] 9)).alloc (.cells #[.string t] 9)).drew w.heap.size (.slice (some ⟨w.heap.size, 0, none⟩) 0 0) []) := Lib.hid ((own_new w w.heap.size w.heap.size rfl (Nat.le_refl _)).alloc (.cells #[.string t] 9))
        have B2 := Lib.hid (((Below.refl w.heap.size w).alloc (Nat.le_refl _) (.cells #[] 9)).alloc (by simp) (.cells #[.string t] 9)).drew
        have S2 : Hid (InS ((w.alloc (.cells #[] 9)).alloc (.cells #[.string t] 9)).drew (some ⟨w.heap.size + 1, 0, none⟩) [y]) := Lib.hid (in_one (w.alloc (.cells #[] 9)) (w.heap.size + 1) t y (by simp) HT.out)
        have O3 : Hid (OwnS ((w.alloc (.cells #[.string t] 9)).alloc (.cells #[] 9)).drew w.heap.size (.slice (some ⟨w.heap.size + 1, 0, none⟩) 0 0) []) := Lib.hid (own_new (w.alloc (.cells #[.string t] 9)) w.heap.size (w.heap.size + 1) (by simp) (by omega))
        have B3 := Lib.hid (((Below.refl w.heap.size w).alloc (Nat.le_refl _) (.cells #[.string t] 9)).alloc (by simp) (.cells #[] 9)).drew
        have S3 : Hid (InS ((w.alloc (.cells #[.string t] 9)).alloc (.cells #[] 9)).drew (some ⟨w.heap.size, 0, none⟩) [y]) := Lib.hid ((in_one w w.heap.size t y rfl HT.out).alloc (.cells #[] 9))
        have HM := Lib.hid hmin
        have HD := Lib.hid hdr
        clear hmin hdr
        go_wp2
        go_region_law (first
          | (refine step_app (by rfl) (.tmp 39) (.tmp 42) (by rfl) w.heap.size (.slice (some ⟨w.heap.size, 0, none⟩) 0 0) [] (by rfl) (some ⟨b, 0, none⟩) k cap (l.take k) (by rfl) HM.out.symm O1.out ((HIN.out.below B1.out).take' k) nofun (by have e1 := HM.out; have e2 := HD.out; simp only [List.length_append, List.length_cons, List.length_nil] at e1 e2 ⊢; omega) B1.out.size ?_; intro v1 w1 ho1 hg1; have hb1 : Below w.heap.size w w1 := grown_old B1.out hg1 O1.out)
          | (refine step_app (by rfl) (.tmp 39) (.tmp 42) (by rfl) w.heap.size (.slice (some ⟨w.heap.size, 0, none⟩) 0 0) [] (by rfl) (some ⟨b, 0, none⟩) k cap (l.take k) (by rfl) HM.out.symm O2.out ((HIN.out.below B2.out).take' k) nofun (by have e1 := HM.out; have e2 := HD.out; simp only [List.length_append, List.length_cons, List.length_nil] at e1 e2 ⊢; omega) B2.out.size ?_; intro v1 w1 ho1 hg1; have hb1 : Below w.heap.size w w1 := grown_old B2.out hg1 O2.out; have hs1 := S2.out.grown hg1 (by intro b off e; cases e; simp [Value.ownBlock]))
          | (refine step_app (by rfl) (.tmp 39) (.tmp 42) (by rfl) w.heap.size (.slice (some ⟨w.heap.size + 1, 0, none⟩) 0 0) [] (by rfl) (some ⟨b, 0, none⟩) k cap (l.take k) (by rfl) HM.out.symm O3.out ((HIN.out.below B3.out).take' k) nofun (by have e1 := HM.out; have e2 := HD.out; simp only [List.length_append, List.length_cons, List.length_nil] at e1 e2 ⊢; omega) B3.out.size ?_; intro v1 w1 ho1 hg1; have hb1 : Below w.heap.size w w1 := grown_old B3.out hg1 O3.out; have hs1 := S3.out.grown hg1 (by intro b off e; cases e; simp [Value.ownBlock]))
          | (refine step_app (by rfl) (.tmp 43) (.tmp 45) (by rfl) w.heap.size v1 ([] ++ (l.take k)) (by rfl) (some ⟨w.heap.size + 1, 0, none⟩) 1 1 [y] (by rfl) rfl ho1 hs1 nofun (by have e1 := HM.out; have e2 := HD.out; simp only [List.length_append, List.length_cons, List.length_nil] at e1 e2 ⊢; omega) hb1.size ?_; intro v2 w2 ho2 hg2; have hb2 : Below w.heap.size w w2 := grown_old hb1 hg2 ho1)
          | (refine step_app (by rfl) (.tmp 43) (.tmp 45) (by rfl) w.heap.size v1 ([] ++ (l.take k)) (by rfl) (some ⟨w.heap.size, 0, none⟩) 1 1 [y] (by rfl) rfl ho1 hs1 nofun (by have e1 := HM.out; have e2 := HD.out; simp only [List.length_append, List.length_cons, List.length_nil] at e1 e2 ⊢; omega) hb1.size ?_; intro v2 w2 ho2 hg2; have hb2 : Below w.heap.size w w2 := grown_old hb1 hg2 ho1)
          | (refine step_app (by rfl) (.tmp 43) (.tmp 45) (by rfl) w.heap.size v1 ([] ++ (l.take k)) (by rfl) (some ⟨w1.heap.size, 0, none⟩) 1 1 [y] (by rfl) rfl (ho1.alloc _) (in_one w1 w1.heap.size t y rfl HT.out) nofun (by have e1 := HM.out; have e2 := HD.out; simp only [List.length_append, List.length_cons, List.length_nil] at e1 e2 ⊢; omega) (hb1.alloc hb1.size _).size ?_; intro v2 w2 ho2 hg2; have hb2 : Below w.heap.size w w2 := grown_old (hb1.alloc hb1.size _) hg2 (ho1.alloc _))
          | (refine step_app (by rfl) (.tmp 46) (.tmp 49) (by rfl) w.heap.size v2 ([] ++ (l.take k) ++ [y]) (by rfl) (some ⟨b, k, none⟩) (l.length - k) (cap - k) (l.drop k) (by rfl) HD.out.symm ho2 ((HIN.out.below hb2).drop0 k) nofun (by have e1 := HM.out; have e2 := HD.out; simp only [List.length_append, List.length_cons, List.length_nil] at e1 e2 ⊢; omega) hb2.size ?_; intro v3 w3 ho3 hg3; have hb3 : Below w.heap.size w w3 := grown_old hb2 hg3 ho2))
        all_goals go_wp2
        all_goals go_ret
        all_goals
          have hfin : OwnS w3 base v3 (putL false l y) := by
            rw [HE.out]
            have h := ho3.mono HB0.out
            simpa using h
          exact PutsS.mk hfin hb3

theorem put_any (tw : Bool) (base : Nat) (a : Option Addr) (cap : Nat) (l : List Str) (t : ByteArray) (y : Str) (w : World) (hl : l.length ≤ 8500000) (hown : OwnS w base (.slice a l.length cap) l) (hbase : base ≤ w.heap.size) (ht : t.data.toList = y) :
    Calls Tryz.prog 100 #[.slice a l.length cap, .string t, .bool tw] w (PutsS w base (putL tw l y)) := by
  have h2 := hown.2
  rcases h2 with ⟨hv, h0⟩ | ⟨g, cap', cur, hv, -⟩
  · obtain rfl : l = [] := List.eq_nil_of_length_eq_zero h0
    simp only [Value.slice.injEq] at hv
    obtain ⟨rfl, -, rfl⟩ := hv
    cases tw
    · exact put_nil_false base t y w hbase ht
    · exact put_nil_true base t y w hbase ht
  · simp only [Value.slice.injEq] at hv
    obtain ⟨rfl, -, rfl⟩ := hv
    cases tw
    · exact put_some_false base g cap l t y w hl hown hbase ht
    · exact put_some_true base g cap l t y w hl hown hbase ht

end Go.Proofs.YthjbekgognfiiaaGreat

