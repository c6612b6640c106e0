/-
  Rule sets, rules and tests among the arguments of a law, opened. By an AI agent.
-/
import Derived.Test.YtookcggmapldeaaRuS
import Derived.Deep.SlicePairs
import Derived.Lib.SmallJoins
import Derived.SliceStrings
import Derived.OpenShut
import Derived.ShutString
import Derived.ChangeSame
import Derived.Deep.Strs
namespace Go.Proofs.Ytookcggmapldeaa
open Go.RowKit Go.ChangeShapes Go.WideShapes
set_option linter.unusedVariables false

theorem rlist3 {α : Type} {l : List α} (h : l.length = 3) : ∃ a b c, l = [a, b, c] := by
  match l, h with
  | [a, b, c], _ => exact ⟨a, b, c, rfl⟩
theorem rlist1 {α : Type} {l : List α} (h : l.length = 1) : ∃ a, l = [a] := by
  match l, h with
  | [a], _ => exact ⟨a, rfl⟩
theorem array1 {α : Type} {cs : Array α} (h : cs.size = 1) : ∃ c0, cs = #[c0] := by
  obtain ⟨l⟩ := cs
  match l, h with
  | [c0], _ => exact ⟨c0, rfl⟩
set_option maxHeartbeats 1600000 in
theorem open_tests {H : Type} {enc : TypeId × Value → H} {w : World} {base : Nat} {held : Bool} {fuel : Nat} {v : Value} {x : DataW H × List MemPlace}
    (h : DataW.trod enc Try.prog w base (fun _ => true) held fuel 97 [v] = some x) : ∃ (a : Option Addr) (l : List TS) (c : Nat), v = .slice a l.length c ∧ (a = none → c = 0) ∧ l.length ≤ c ∧ ArgTs w a l := by
  rcases Go.Deep.open_slice Try.underlying97 h with ⟨hcs, _⟩ | ⟨y, l, c, m, n, D, Pl, hcs, hb, hl, hm, hmm, _, hx⟩
  · simp at hcs
    exact ⟨none, [], 0, hcs, fun _ => rfl, Nat.le_refl _, fun h => absurd h (Nat.lt_irrefl 0), Nat.zero_le _⟩
  · simp at hcs
    subst hcs
    have ce : Try.prog.cellsOf 137 = 3 := by kernel_rfl
    obtain ⟨L, rfl, hL⟩ : ∃ L : List TS, l = L.length ∧ ArgTs w (some y) L := argTs_of hl hm fun i hi => by
      obtain ⟨cs', h1, h2⟩ := hx i (by rw [hmm]; simp; omega)
      rw [ce] at h1
      obtain ⟨_, hlen, hcell⟩ := World.cells?_some h1
      obtain ⟨y0, y1, y2, k', _, hl4, g0, g1, g2⟩ := Go.Deep.trod_struct3 Try.underlying137 h2
      obtain ⟨v0, v1, v2, rfl⟩ := rlist3 hlen
      have ci : Try.prog.cellsOf 3 = 1 := by kernel_rfl
      have cs : Try.prog.cellsOf 4 = 1 := by kernel_rfl
      simp [ci, cs] at g0 g1 g2
      have e0 := hcell 0 (by omega)
      have e1 := hcell 1 (by omega)
      have e2 := hcell 2 (by omega)
      rw [Go.Deep.add_add] at e0 e1 e2
      simp at e0 e1 e2
      obtain ⟨s, es, _, _⟩ := DataW.trod_int Try.underlying3 g0
      obtain ⟨k, ek, _, _⟩ := DataW.trod_int Try.underlying3 g1
      obtain ⟨u, eu, _⟩ := DataW.trod_bool Try.underlying4 g2
      simp at es ek eu
      subst es ek eu
      exact ⟨_, _, _, e0, e1, e2⟩
    exact ⟨some y, L, c, rfl, (fun h => by cases h), hl, hL⟩

set_option maxHeartbeats 1600000 in
theorem open_rules {H : Type} {enc : TypeId × Value → H} {w : World} {base : Nat} {held : Bool} {fuel : Nat} {v : Value} {x : DataW H × List MemPlace}
    (h : DataW.trod enc Try.prog w base (fun _ => true) held fuel 22 [v] = some x) : ∃ (a : Option Addr) (R : List (List TS)) (c : Nat), v = .slice a R.length c ∧ ArgRu w a R := by
  rcases Go.Deep.open_slice Try.underlying22 h with ⟨hcs, _⟩ | ⟨y, l, c, m, n, D, Pl, hcs, hb, hl, hm, hmm, _, hx⟩
  · simp at hcs
    exact ⟨none, [], 0, hcs, fun h => absurd h (Nat.lt_irrefl 0), Nat.zero_le _, fun x hx => by cases hx⟩
  · simp at hcs
    subst hcs
    have ce : Try.prog.cellsOf 99 = 1 := by kernel_rfl
    obtain ⟨L, rfl, hL⟩ : ∃ L : List (List TS), l = L.length ∧ ArgRu w (some y) L := argRu_of hl hm fun i hi => by
      obtain ⟨cs', h1, h2⟩ := hx i (by rw [hmm]; simp; omega)
      rw [ce] at h1
      obtain ⟨_, hlen, hcell⟩ := World.cells?_some h1
      obtain ⟨y0, k', _, hl4, g0⟩ := Go.ChangeShapes.trod_struct1 Try.underlying99 h2
      obtain ⟨v0, rfl⟩ := rlist1 hlen
      have ci : Try.prog.cellsOf 97 = 1 := by kernel_rfl
      simp [ci] at g0
      have e0 := hcell 0 (by omega)
      rw [Go.Deep.add_add] at e0
      simp at e0
      obtain ⟨a', l', c', rfl, h3, h4, h5⟩ := open_tests g0
      exact ⟨a', l', c', e0, h3, h4, h5⟩
    exact ⟨some y, L, c, rfl, hL⟩

set_option maxRecDepth 100000 in
theorem open_ruleset {H : Type} {enc : TypeId × Value → H} {w : World} {base b0 : Nat} {held : Bool} {r : Reach} {v : Value} {d : DataW H} {p : List MemPlace}
    (hv : Value.okWide Try.prog w r b0 24 v) (h : DataW.Trod enc Try.prog w base (fun _ => true) held 24 v d p) : ∃ (a : Option Addr) (R : List (List TS)) (c : Nat), v = .agg #[.slice a R.length c] ∧ ArgRu w a R := by
  obtain ⟨cs, rfl, hsz⟩ := okWide_struct Try.underlying24 hv
  obtain ⟨c0, rfl⟩ := array1 (hsz.trans (show Try.prog.cellsOf 24 = 1 by kernel_rfl))
  obtain ⟨fuel, hf⟩ := h
  obtain ⟨y0, k', _, hl4, g0⟩ := Go.ChangeShapes.trod_struct1 Try.underlying24 hf
  have ci : Try.prog.cellsOf 22 = 1 := by kernel_rfl
  simp [ci, Value.cells] at g0
  obtain ⟨a, R, c, rfl, h2⟩ := open_rules g0
  exact ⟨a, R, c, rfl, h2⟩
set_option maxRecDepth 100000 in
theorem open_rule {H : Type} {enc : TypeId × Value → H} {w : World} {base b0 : Nat} {held : Bool} {r : Reach} {v : Value} {d : DataW H} {p : List MemPlace}
    (hv : Value.okWide Try.prog w r b0 99 v) (h : DataW.Trod enc Try.prog w base (fun _ => true) held 99 v d p) : ∃ (a : Option Addr) (l : List TS) (c : Nat), v = .agg #[.slice a l.length c] ∧ ArgTs w a l := by
  obtain ⟨cs, rfl, hsz⟩ := okWide_struct Try.underlying99 hv
  obtain ⟨c0, rfl⟩ := array1 (hsz.trans (show Try.prog.cellsOf 99 = 1 by kernel_rfl))
  obtain ⟨fuel, hf⟩ := h
  obtain ⟨y0, k', _, hl4, g0⟩ := Go.ChangeShapes.trod_struct1 Try.underlying99 hf
  have ci : Try.prog.cellsOf 97 = 1 := by kernel_rfl
  simp [ci, Value.cells] at g0
  obtain ⟨a, R, c, rfl, _, _, h2⟩ := open_tests g0
  exact ⟨a, R, c, rfl, h2⟩
set_option maxRecDepth 100000 in
theorem open_test {H : Type} {enc : TypeId × Value → H} {w : World} {base b0 : Nat} {held : Bool} {r : Reach} {v : Value} {d : DataW H} {p : List MemPlace}
    (hv : Value.okWide Try.prog w r b0 137 v) (h : DataW.Trod enc Try.prog w base (fun _ => true) held 137 v d p) : ∃ (f t : Int) (u : Bool), v = .agg #[.int .i64 f, .int .i64 t, .bool u] := by
  obtain ⟨v0, v1, v2, y0, y1, y2, n, rfl, _, _, g0, g1, g2⟩ := Go.Joins.open_agg3 Try.underlying137 (by kernel_rfl) (by kernel_rfl) hv h
  obtain ⟨s, es, _, _⟩ := DataW.trod_int Try.underlying3 g0
  obtain ⟨k, ek, _, _⟩ := DataW.trod_int Try.underlying3 g1
  obtain ⟨u, eu, _⟩ := DataW.trod_bool Try.underlying4 g2
  simp at es ek eu
  subst es ek eu
  exact ⟨_, _, _, rfl⟩

end Go.Proofs.Ytookcggmapldeaa
