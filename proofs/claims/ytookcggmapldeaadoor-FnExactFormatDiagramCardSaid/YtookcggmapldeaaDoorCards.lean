/-
  DERIVED. GIVEN WITH THE SEED: THE CARDS: each row of YtookcggmapldeaaDoorRows.lean that lists a variable, with what it lists TIED to the program's text (the seventh form; the later family's looks); each row that meets fmt, with fmt's text TOLD by the authors' own Lean function (tested against real Go, not proved from fmt's source: count such statements apart). THE CARD IS WHAT COUNTS. Prove the row's statement (the work); the ties are given (YtookcggmapldeaaDoorTie.lean); close each card by the builder's one call (the guide's Derived/Test/ToyasCard.lean, 'card_holds'). Laid BY PROGRAM, IN A SANDBOX (cutbox-door.mjs). By AI agents, Wed Nov 11 2026. No macro, syntax, notation, axiom, sorry.
-/
import Derived.Test.YtookcggmapldeaaDoorRows
import GoSem.ClaimSeven
namespace Go.Proofs.YtookcggmapldeaaDoor
namespace Rows

/-- THE TIED CARD OF 'laws.FnExactFormatDiagram'. -/
def fnExactFormatDiagramCard : Claim7 := { stood := { row := fnExactFormatDiagramRow, standIns := [], harness := (true, "85db031cd657e3f25f383c5ea78819eb89d11a3dc329f5738fa278579a1925dc"), looks := false }, kinds := [], alts := [], laidByText := true, laidKinds := [.data, .data, .data], laidTests := true, laidLooks := .later }
def FnExactFormatDiagramCardSaid : Prop := Claim7.holds Tryd.pinned (.plain (OpenSpec.ofChange fnExactFormatDiagramSpec)) fnExactFormatDiagramCard

/-- THE SECOND FORM's CARD OF 'laws.FnExactFormatDiagram'. -/
def fnExactFormatDiagramUptoCard : Claim7 := { stood := { row := fnExactFormatDiagramUptoRow, standIns := [], harness := (true, "85db031cd657e3f25f383c5ea78819eb89d11a3dc329f5738fa278579a1925dc"), looks := false }, kinds := [], alts := [], laidByText := true, laidKinds := [.data, .data, .data], laidTests := true, laidLooks := .later }
def FnExactFormatDiagramUptoCardSaid : Prop := Claim7.holds Tryd.pinned (.plain (OpenSpec.upto fnExactFormatDiagramSpec)) fnExactFormatDiagramUptoCard
end Rows
end Go.Proofs.YtookcggmapldeaaDoor
