/-
  Tables whose counts are well formed. By an AI agent.
-/
import Derived.Test.YthjbekgognfiiaaTcS
namespace Go.Proofs.Ythjbekgognfiiaa
open Go.RowKit
set_option linter.unusedVariables false

def WfT (l : List TC) : Prop := ∀ x ∈ l, (Lit.int .i64 x.2).wf = true
/-- an argument of a law -/
def ArgW (w : World) (a : Option Addr) (l : List TC) : Prop := ArgT w a l ∧ WfT l
/-- an argument of moderate size -/
def SmW (w : World) (a : Option Addr) (l : List TC) (c : Nat) : Prop := SmT w a l c ∧ WfT l
theorem SmW.below {w w' : World} {a : Option Addr} {l : List TC} {c : Nat} (h : SmW w a l c) (hb : Below w.heap.size w w') : SmW w' a l c := ⟨h.1.below hb, h.2⟩
theorem argW_of {w : World} {x : Addr} {len cap : Nat} (hl : len ≤ cap) (hm : cap ≤ maxLen) (h : ∀ i, i < len → ∃ (s : ByteArray) (z : Int), w.cell? (x.add (i * 2)) = some (.string s) ∧ w.cell? (x.add (i * 2 + 1)) = some (.int .i64 z) ∧ s.size ≤ maxLen ∧ (Lit.int .i64 z).wf = true) : ∃ L : List TC, len = L.length ∧ ArgW w (some x) L := by
  obtain ⟨L, h1, h2⟩ := argT_of hl hm fun i hi => by
    obtain ⟨s, z, a1, a2, a3, _⟩ := h i hi
    exact ⟨s, z, a1, a2, a3⟩
  refine ⟨L, h1, h2, fun y hy => ?_⟩
  obtain ⟨i, hi⟩ := List.getElem?_of_mem hy
  have hlt := (List.getElem?_eq_some_iff.1 hi).1
  obtain ⟨s, z, a1, a2, a3, a4⟩ := h i (by omega)
  obtain ⟨b, off, e, _, hc⟩ := h2.1 (by omega)
  injection e with e1
  subst e1
  have h5 := (hc i y hi).2
  have hadd : (⟨b, off, none⟩ : Addr).add (i * 2 + 1) = ⟨b, off + i * 2 + 1, none⟩ := by unfold Addr.add; split <;> simp_all; omega
  rw [hadd, h5] at a2
  injection a2 with a5
  injection a5 with _ a6
  rw [a6]
  exact a4

end Go.Proofs.Ythjbekgognfiiaa
