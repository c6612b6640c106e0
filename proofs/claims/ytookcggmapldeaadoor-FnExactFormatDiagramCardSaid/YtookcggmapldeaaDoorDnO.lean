/-
  A diagram as an argument of a law. By an AI agent.
-/
import Derived.Test.YtookcggmapldeaaDoorDnS
import Derived.Deep.SlicePairs
import Derived.Lib.SmallJoins
import Derived.SliceStrings
import Derived.OpenShut
import Derived.ShutString
import Derived.ChangeSame
import Derived.Deep.Strs
namespace Go.Proofs.YtookcggmapldeaaDoor
open Go.RowKit Go.ChangeShapes Go.WideShapes
set_option linter.unusedVariables false
set_option linter.unusedSimpArgs false
set_option linter.unnecessarySimpa false

theorem dlist4 {α : Type} {l : List α} (h : l.length = 4) : ∃ a b c d, l = [a, b, c, d] := by
  match l, h with
  | [a, b, c, d], _ => exact ⟨a, b, c, d, rfl⟩
set_option maxHeartbeats 1600000 in
theorem open_nodes {H : Type} {enc : TypeId × Value → H} {w : World} {base : Nat} {held : Bool} {fuel : Nat} {v : Value} {x : DataW H × List MemPlace}
    (h : DataW.trod enc Tryd.prog w base (fun _ => true) held fuel 22 [v] = some x) : ∃ (a : Option Addr) (l : List DN) (c : Nat), v = .slice a l.length c ∧ (a = none → c = 0) ∧ l.length ≤ c ∧ ArgDn w a l := by
  rcases Go.Deep.open_slice Tryd.underlying22 h with ⟨hcs, _⟩ | ⟨y, l, c, m, n, D, Pl, hcs, hb, hl, hm, hmm, _, hx⟩
  · simp at hcs
    exact ⟨none, [], 0, hcs, fun _ => rfl, Nat.le_refl _, fun h => absurd h (Nat.lt_irrefl 0), Nat.zero_le _⟩
  · simp at hcs
    subst hcs
    have ce : Tryd.prog.cellsOf 53 = 4 := by kernel_rfl
    obtain ⟨L, rfl, hL⟩ : ∃ L : List DN, l = L.length ∧ ArgDn w (some y) L := argDn_of hl hm fun i hi => by
      obtain ⟨cs', h1, h2⟩ := hx i (by rw [hmm]; simp; omega)
      rw [ce] at h1
      obtain ⟨_, hlen, hcell⟩ := World.cells?_some h1
      obtain ⟨y0, y1, y2, y3, k', _, hl4, g0, g1, g2, g3⟩ := Go.Joins.trod_struct4 Tryd.underlying53 h2
      obtain ⟨v0, v1, v2, v3, rfl⟩ := dlist4 hlen
      have ci : Tryd.prog.cellsOf 3 = 1 := by kernel_rfl
      simp [ci] at g0 g1 g2 g3
      have e0 := hcell 0 (by omega)
      have e1 := hcell 1 (by omega)
      have e2 := hcell 2 (by omega)
      have e3 := hcell 3 (by omega)
      rw [Go.Deep.add_add] at e0 e1 e2 e3
      simp at e0 e1 e2 e3
      obtain ⟨s, es, _, _⟩ := DataW.trod_int Tryd.underlying3 g0
      obtain ⟨k, ek, _, _⟩ := DataW.trod_int Tryd.underlying3 g1
      obtain ⟨u, eu, _, _⟩ := DataW.trod_int Tryd.underlying3 g2
      obtain ⟨t, et, _, _⟩ := DataW.trod_int Tryd.underlying3 g3
      simp at es ek eu et
      subst es ek eu et
      exact ⟨_, _, _, _, e0, e1, e2, e3⟩
    exact ⟨some y, L, c, rfl, (fun h => by cases h), hl, hL⟩

set_option maxRecDepth 100000 in
theorem open_diagram {H : Type} {enc : TypeId × Value → H} {w : World} {base b0 : Nat} {held : Bool} {r : Reach} {v : Value} {d : DataW H} {p : List MemPlace}
    (hv : Value.okWide Tryd.prog w r b0 24 v) (h : DataW.Trod enc Tryd.prog w base (fun _ => true) held 24 v d p) : ∃ (z : Int) (a : Option Addr) (l : List DN) (c : Nat), v = .agg #[.int .i64 z, .slice a l.length c] ∧ ArgDn w a l := by
  obtain ⟨v0, v1, y0, y1, n, rfl, _, _, g0, g1⟩ := Go.Joins.open_agg2 Tryd.underlying24 (by kernel_rfl) (by kernel_rfl) hv h
  obtain ⟨s, es, _, _⟩ := DataW.trod_int Tryd.underlying3 g0
  simp at es
  subst es
  obtain ⟨a, l, c, rfl, _, _, h2⟩ := open_nodes g1
  exact ⟨_, a, l, c, rfl, h2⟩

end Go.Proofs.YtookcggmapldeaaDoor
