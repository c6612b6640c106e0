/-
  Slices of rules: one that reads as a list of lists of tests, one of the call's own. By an AI agent.
-/
import Derived.Test.YtookcggmapldeaaTsS
namespace Go.Proofs.Ytookcggmapldeaa
open Go.RowKit
set_option linter.unusedVariables false

/-- an element of a slice of the call's own: the rule, and the value of its tests -/
abbrev XU := List TS × Value
def valsU (q : List XU) : List Value := q.map Prod.snd
def rulesU (q : List XU) : List (List TS) := q.map Prod.fst
theorem rulesU_len (q : List XU) : (rulesU q).length = q.length := by simp [rulesU]
theorem valsU_len (q : List XU) : (valsU q).length = q.length := by simp [valsU]
theorem valsU_at {q : List XU} {j : Nat} {p : XU} (h : q[j]? = some p) : (valsU q)[j]? = some p.2 := by simp [valsU, h]
theorem rulesU_at {q : List XU} {j : Nat} {x : List TS} (h : (rulesU q)[j]? = some x) : ∃ p, q[j]? = some p ∧ p.1 = x := by
  unfold rulesU at h
  rw [List.getElem?_map] at h
  cases hq : q[j]? with
  | none => rw [hq] at h; cases h
  | some p => rw [hq] at h; exact ⟨p, rfl, by injection h⟩

/-- a slice whose elements are the rules of a list -/
def InRu (w : World) (a : Option Addr) (R : List (List TS)) : Prop :=
  0 < R.length → ∃ b off, a = some ⟨b, off, none⟩ ∧ b < w.heap.size ∧ ∀ j l, R[j]? = some l → ∃ a' c', w.cell? ⟨b, off + j, none⟩ = some (.slice a' l.length c') ∧ (a' = none → c' = 0) ∧ l.length ≤ c' ∧ InTs w a' l
theorem InRu.below {w w' : World} {a : Option Addr} {R : List (List TS)} (h : InRu w a R) (hb : Below w.heap.size w w') : InRu w' a R := by
  intro h0
  obtain ⟨b, off, ha, hlt, hc⟩ := h h0
  refine ⟨b, off, ha, Nat.lt_of_lt_of_le hlt hb.size, fun j l hj => ?_⟩
  obtain ⟨a', c', h1, h2, h3, h4⟩ := hc j l hj
  exact ⟨a', c', (World.cell?_of_block (hb.block b hlt)).trans h1, h2, h3, h4.below hb⟩
theorem InRu.alloc {w : World} {a : Option Addr} {R : List (List TS)} (h : InRu w a R) (o : Obj) : InRu (w.alloc o) a R := h.below ((Below.refl _ _).alloc (Nat.le_refl _) o)

/-- an argument of a law -/
def ArgRu (w : World) (a : Option Addr) (R : List (List TS)) : Prop := InRu w a R ∧ R.length ≤ maxLen ∧ ∀ l ∈ R, l.length ≤ maxLen
theorem ArgRu.below {w w' : World} {a : Option Addr} {R : List (List TS)} (h : ArgRu w a R) (hb : Below w.heap.size w w') : ArgRu w' a R := ⟨h.1.below hb, h.2⟩
theorem argRu_of {w : World} {x : Addr} {len cap : Nat} (hl : len ≤ cap) (hm : cap ≤ maxLen) (h : ∀ i, i < len → ∃ (a' : Option Addr) (l : List TS) (c' : Nat), w.cell? (x.add i) = some (.slice a' l.length c') ∧ (a' = none → c' = 0) ∧ l.length ≤ c' ∧ ArgTs w a' l) : ∃ L : List (List TS), len = L.length ∧ ArgRu w (some x) L := by
  obtain ⟨f, hf⟩ := Go.Deep.choose_lt (n := len) (p := fun i (q : Option Addr × List TS × Nat) => w.cell? (x.add i) = some (.slice q.1 q.2.1.length q.2.2) ∧ (q.1 = none → q.2.2 = 0) ∧ q.2.1.length ≤ q.2.2 ∧ ArgTs w q.1 q.2.1) (fun i hi => by obtain ⟨a', l, c', h1⟩ := h i hi; exact ⟨(a', l, c'), h1⟩)
  refine ⟨(List.range len).map fun i => (f i).2.1, by simp, fun h0 => ?_, by simp; omega, fun y hy => ?_⟩
  · simp at h0
    obtain ⟨b, off, spot⟩ := x
    have hspot : spot = none := by simpa [Addr.add] using World.cell?_spot (hf 0 (by omega)).1
    subst hspot
    have hadd : ∀ j, (⟨b, off, none⟩ : Addr).add j = ⟨b, off + j, none⟩ := fun j => by unfold Addr.add; split <;> simp_all
    refine ⟨b, off, rfl, World.block_lt_of_cell? w _ (hf 0 (by omega)).1, fun j y hj => ?_⟩
    obtain ⟨hlt, he⟩ := List.getElem?_eq_some_iff.1 hj
    simp at hlt he
    obtain ⟨h1, h2, h3, h4⟩ := hf j hlt
    rw [hadd] at h1
    subst he
    exact ⟨_, _, h1, h2, h3, h4.1⟩
  · obtain ⟨i, hi, rfl⟩ := List.mem_map.1 hy
    exact (hf i (List.mem_range.1 hi)).2.2.2.2

/-- an argument of moderate size -/
def SmRu (w : World) (a : Option Addr) (R : List (List TS)) (c : Nat) : Prop := InRu w a R ∧ (a = none → c = 0) ∧ R.length ≤ c ∧ R.length ≤ 4000000 ∧ ∀ l ∈ R, l.length ≤ 4000000
theorem SmRu.below {w w' : World} {a : Option Addr} {R : List (List TS)} {c : Nat} (h : SmRu w a R c) (hb : Below w.heap.size w w') : SmRu w' a R c := ⟨h.1.below hb, h.2⟩
theorem SmRu.alloc {w : World} {a : Option Addr} {R : List (List TS)} {c : Nat} (h : SmRu w a R c) (o : Obj) : SmRu (w.alloc o) a R c := ⟨h.1.alloc o, h.2⟩
theorem SmRu.len {w : World} {a : Option Addr} {R : List (List TS)} {c : Nat} (h : SmRu w a R c) : R.length ≤ 4000000 := h.2.2.2.1
/-- an element of a slice of moderate size -/
theorem SmRu.at_ {w : World} {a : Option Addr} {R : List (List TS)} {c j : Nat} (h : SmRu w a R c) (hj : j < R.length) : ∃ (b off : Nat) (l : List TS) (a' : Option Addr) (c' : Nat), a = some ⟨b, off, none⟩ ∧ b < w.heap.size ∧ R[j]? = some l ∧ w.cell? ⟨b, off + j, none⟩ = some (.slice a' l.length c') ∧ SmTs w a' l c' := by
  obtain ⟨b, off, ha, hlt, hc⟩ := h.1 (by omega)
  have hx := List.getElem?_eq_getElem hj
  obtain ⟨a', c', h1, h3, h4, h5⟩ := hc j _ hx
  have h6 := h.2.2.2.2 _ (List.mem_of_getElem? hx)
  exact ⟨b, off, _, a', c', ha, hlt, hx, h1, h5, h3, h4, h6⟩

/-- a slice of the call's own, its elements' tests in other blocks of the call's own -/
structure OwnRu (w : World) (lo : Nat) (v : Value) (q : List XU) : Prop where
  out : w.ownsRow lo 65 1 v q.length (valsU q)
  row : ∀ p ∈ q, OwnTs w lo p.2 p.1
  apart : ∀ p ∈ q, ∀ k, p.2.ownBlock = some k → v.ownBlock ≠ some k
  dis : q.Pairwise fun p r => ∀ k, p.2.ownBlock = some k → r.2.ownBlock ≠ some k
theorem info_ru : (Try.prog.info? 65).map (fun i => (i.zero, i.size, i.bytes)) = some (some (.agg #[.slice none 0 0]), 1, 24) := by kernel_rfl
theorem OwnRu.below {w w' : World} {lo : Nat} {v : Value} {q : List XU} (h : OwnRu w lo v q) (hb : Below w.heap.size w w') : OwnRu w' lo v q :=
  ⟨World.ownsRow.kept h.out (row := none) ⟨hb.os, hb.tape, hb.output, hb.size, fun i hi _ => hb.block i hi⟩ (by cases hv : v.ownBlock <;> simp), fun p hp => (h.row p hp).below hb, h.apart, h.dis⟩
theorem OwnRu.mono {w : World} {lo lo' : Nat} {v : Value} {q : List XU} (h : OwnRu w lo v q) (hb : lo' ≤ lo) : OwnRu w lo' v q :=
  ⟨row_mono h.out hb, fun p hp => (h.row p hp).mono hb, h.apart, h.dis⟩
theorem OwnRu.nil (w : World) (base : Nat) : OwnRu w base (.slice none 0 0) [] := ⟨World.ownsRow_nil _ _ _ _, (fun p h => by cases h), (fun p h => by cases h), List.Pairwise.nil⟩
theorem OwnRu.shape {w : World} {lo : Nat} {v : Value} {q : List XU} (h : OwnRu w lo v q) : ∃ a cap, v = .slice a q.length cap := by
  rcases h.out.2 with ⟨rfl, h0⟩ | ⟨g, cap, cur, rfl, _⟩
  · exact ⟨none, 0, by rw [h0]⟩
  · exact ⟨_, _, rfl⟩
theorem OwnRu.inRu {w : World} {lo : Nat} {a : Option Addr} {n cap : Nat} {q : List XU} (h : OwnRu w lo (.slice a n cap) q) : InRu w a (rulesU q) := by
  intro h0
  obtain ⟨a', cap', e⟩ := h.shape
  injection e with e1 e2 e3
  subst e2
  rw [rulesU_len] at h0
  obtain ⟨g, rfl, _, hg, hc⟩ := rowX_at h.out h0
  refine ⟨g, 0, rfl, hg, fun j x hj => ?_⟩
  obtain ⟨p, hp, rfl⟩ := rulesU_at hj
  have ho := h.row p (List.mem_of_getElem? hp)
  obtain ⟨a1, c1, e1⟩ := ho.shape
  rw [e1] at ho
  exact ⟨a1, c1, by rw [hc _ _ (valsU_at hp), e1], rowX_none ho, rowX_cap ho, ho.inTs⟩
theorem OwnRu.smRu {w : World} {lo : Nat} {a : Option Addr} {n cap : Nat} {q : List XU} {R : List (List TS)} (h : OwnRu w lo (.slice a n cap) q) (hq : rulesU q = R) (h1 : R.length ≤ 4000000) (h2 : ∀ x ∈ R, x.length ≤ 4000000) : SmRu w a R cap := by
  subst hq
  obtain ⟨a', cap', e⟩ := h.shape
  injection e with e1 e2 e3
  subst e2
  exact ⟨h.inRu, rowX_none h.out, by rw [rulesU_len]; exact rowX_cap h.out, h1, h2⟩

/-- .. in blocks from lo on and below hi -/
def OwnHRu (w : World) (lo hi : Nat) (v : Value) (q : List XU) : Prop := OwnRu w lo v q ∧ (∀ k, v.ownBlock = some k → k < hi) ∧ ∀ p ∈ q, ∀ k, p.2.ownBlock = some k → k < hi
theorem OwnHRu.of {w : World} {lo : Nat} {v : Value} {q : List XU} (h : OwnRu w lo v q) : OwnHRu w lo w.heap.size v q :=
  ⟨h, fun k hk => (World.ownsRow.lt h.out k hk).2, fun p hp k hk => (World.ownsRow.lt (h.row p hp) k hk).2⟩
theorem OwnHRu.below {w w' : World} {lo hi : Nat} {v : Value} {q : List XU} (h : OwnHRu w lo hi v q) (hb : Below w.heap.size w w') : OwnHRu w' lo hi v q := ⟨h.1.below hb, h.2⟩
theorem OwnHRu.chg {w w' : World} {lo hi lo' hi' : Nat} {v : Value} {q : List XU} (h : OwnHRu w lo hi v q) (hc : Chg w w' lo' hi') (hd : hi ≤ lo' ∨ hi' ≤ lo) : OwnHRu w' lo hi v q :=
  ⟨⟨row_chg h.1.out hc fun k hk => by have := (World.ownsRow.lt h.1.out k hk).1; have := h.2.1 k hk; omega,
    fun p hp => row_chg (h.1.row p hp) hc fun k hk => by have := (World.ownsRow.lt (h.1.row p hp) k hk).1; have := h.2.2 p hp k hk; omega, h.1.apart, h.1.dis⟩, h.2⟩

/-- sizes of an argument -/
def ruzT (R : List (List TS)) (k : Nat) : Nat := R.length + ((R.take k).map List.length).sum
def ruz (R : List (List TS)) : Nat := ruzT R R.length
theorem ruzT_succ {R : List (List TS)} {k : Nat} {l : List TS} (h : R[k]? = some l) : ruzT R (k + 1) = ruzT R k + l.length := by
  unfold ruzT
  rw [take_one h]
  simp
  omega
theorem ruzT_le {R : List (List TS)} {j k : Nat} (h : j ≤ k) : ruzT R j ≤ ruzT R k := by
  obtain ⟨d, rfl⟩ : ∃ d, k = j + d := ⟨k - j, by omega⟩
  unfold ruzT
  rw [List.take_add]
  simp
theorem ruz_len (R : List (List TS)) : R.length ≤ ruz R := by unfold ruz ruzT; omega
theorem ruz_mem {R : List (List TS)} {l : List TS} (h : l ∈ R) : l.length ≤ ruz R := by
  obtain ⟨k, hk⟩ := List.getElem?_of_mem h
  have h1 := ruzT_succ hk
  have h2 := ruzT_le (R := R) (show k + 1 ≤ R.length from (List.getElem?_eq_some_iff.1 hk).1)
  unfold ruz
  omega
theorem ru_len {R : List (List TS)} (hz : ruz R ≤ 1048576) : R.length ≤ 4000000 := by have := ruz_len R; omega
theorem ru_mem {R : List (List TS)} (hz : ruz R ≤ 1048576) : ∀ x ∈ R, x.length ≤ 4000000 := fun x hx => by have := ruz_mem hx; omega
def ruzR (R : List (List TS)) (left : Nat) : Int := if ruz R ≤ left then (left : Int) - (ruz R : Int) else -1
theorem ruzR_yes {R : List (List TS)} {left : Nat} (h : ruz R ≤ left) : ruzR R left = ((left - ruz R : Nat) : Int) := by unfold ruzR; rw [if_pos h]; omega
theorem ruzR_no {R : List (List TS)} {left : Nat} (h : ¬ ruz R ≤ left) : ruzR R left = -1 := by unfold ruzR; rw [if_neg h]

/-- a slice of rules of the call's own is handed back, in a rule set -/
def GivesRu (w : World) (R : List (List TS)) (e : Ending) (w' : World) : Prop :=
  ∃ a cap q, e = .returned (.slice a R.length cap) ∧ rulesU q = R ∧ OwnRu w' w.heap.size (.slice a R.length cap) q ∧ Below w.heap.size w w'
def GivesRs (w : World) (R : List (List TS)) (e : Ending) (w' : World) : Prop :=
  ∃ a cap q, e = .returned (.agg #[.slice a R.length cap]) ∧ rulesU q = R ∧ OwnRu w' w.heap.size (.slice a R.length cap) q ∧ Below w.heap.size w w'

end Go.Proofs.Ytookcggmapldeaa
