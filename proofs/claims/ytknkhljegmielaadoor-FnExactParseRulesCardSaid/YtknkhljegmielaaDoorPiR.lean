/-
  The number that ParseInt reads, as a function; both sides' contracts with it. By an AI agent.
-/
import Derived.Test.YtknkhljegmielaaDoorGPlain
namespace Go.Proofs.YtknkhljegmielaaDoor
open Go.RowKit
set_option linter.unusedVariables false

open Classical in
noncomputable def piR (l : List UInt8) : Int := if h : ∃ n ok, PiOk l n ok then h.choose else 0
theorem piR_of {l : List UInt8} {n : Int} {ok : Bool} (h : PiOk l n ok) : piR l = n := by
  have h1 : ∃ n ok, PiOk l n ok := ⟨n, ok, h⟩
  unfold piR
  rw [dif_pos h1]
  obtain ⟨ok', h2⟩ := h1.choose_spec
  exact (h2.same h).1

end Go.Proofs.YtknkhljegmielaaDoor
