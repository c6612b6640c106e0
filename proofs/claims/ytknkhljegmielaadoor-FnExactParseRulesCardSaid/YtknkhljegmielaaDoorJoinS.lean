/-
  strings.Join at a separator of one byte. By an AI agent.
-/
import Derived.Test.YtknkhljegmielaaDoorGMem
import Derived.Test.YtknkhljegmielaaDoorShelf
import Derived.Lib.Join
namespace Go.Proofs.YtknkhljegmielaaDoor
open Go.RowKit
set_option linter.unusedVariables false

theorem join_at (s : UInt8) (a : Option Addr) (c : Nat) (l : List Str) (J : ByteArray) (w : World) (hin : InS w a l) (hl : l.length ≤ 4000000) (hcap : l.length ≤ c) (h0 : 0 < l.length) (hj : strOf (Lib.join l [s]) = J) (hlen : (Lib.join l [s]).length ≤ 4000000) :
    Calls Tryd.prog 20 #[.slice a l.length c, .string ⟨#[s]⟩] w fun e w' => e = .returned (.string J) ∧ Below w.heap.size w w' := by
  obtain ⟨b, off, rfl, hb, hc⟩ := hin h0
  have e1 : (l.map fun x => (⟨x.toArray⟩ : ByteArray)).map (·.data.toList) = l := by
    rw [List.map_map]
    simp [Function.comp_def]
  have hlen2 : (l.map fun x => (⟨x.toArray⟩ : ByteArray)).length = l.length := by simp
  have hx := Tryd.strings_Join b off c (l.map fun x => ⟨x.toArray⟩) ⟨#[s]⟩ w (fun j x hx => by
    rw [List.getElem?_map] at hx
    cases h2 : l[j]? with
    | none => rw [h2] at hx; cases hx
    | some y =>
      rw [h2] at hx
      simp at hx
      subst hx
      exact hc j y h2) hb (by rw [hlen2]; omega) (by rw [hlen2]; exact hcap) (by rw [e1]; show (Lib.join l [s]).length ≤ _; omega)
  rw [hlen2] at hx
  refine hx.mono fun e w' ⟨he, hbl⟩ => ⟨?_, hbl⟩
  rw [he, e1, ← hj]
  rfl

end Go.Proofs.YtknkhljegmielaaDoor
