/-
  DERIVED. GIVEN WITH THE SEED: THE CARDS: each row of YtglhdcodellmfaaDoorRows.lean that lists a variable, with what it lists TIED to the program's text (the seventh form; the later family's looks); each row that meets fmt, with fmt's text TOLD by the authors' own Lean function (tested against real Go, not proved from fmt's source: count such statements apart). THE CARD IS WHAT COUNTS. Prove the row's statement (the work); the ties are given (YtglhdcodellmfaaDoorTie.lean); close each card by the builder's one call (the guide's Derived/Test/ToyasCard.lean, 'card_holds'). Laid BY PROGRAM, IN A SANDBOX (cutbox-door.mjs). By AI agents, Wed Nov 11 2026. No macro, syntax, notation, axiom, sorry.
-/
import Derived.Test.YtglhdcodellmfaaDoorRows
import GoSem.ClaimSeven
namespace Go.Proofs.YtglhdcodellmfaaDoor
namespace Rows

/-- THE TIED CARD OF 'laws.FnExactInitials'. -/
def fnExactInitialsCard : Claim7 := { stood := { row := fnExactInitialsRow, standIns := [], harness := (true, "7be10ebb03c4de07d0b81d69b37b2561c4ec65386c9266cafac39ab2599c06f4"), looks := false }, kinds := [], alts := [], laidByText := true, laidKinds := [.data, .listed, .data, .pinned], laidTests := true, laidLooks := .later }
def FnExactInitialsCardSaid : Prop := Claim7.holds Tryd.pinned (.plain (OpenSpec.ofChange fnExactInitialsSpec)) fnExactInitialsCard

/-- THE SECOND FORM's CARD OF 'laws.FnExactInitials'. -/
def fnExactInitialsUptoCard : Claim7 := { stood := { row := fnExactInitialsUptoRow, standIns := [], harness := (true, "7be10ebb03c4de07d0b81d69b37b2561c4ec65386c9266cafac39ab2599c06f4"), looks := false }, kinds := [], alts := [], laidByText := true, laidKinds := [.data, .listed, .data, .pinned], laidTests := true, laidLooks := .later }
def FnExactInitialsUptoCardSaid : Prop := Claim7.holds Tryd.pinned (.plain (OpenSpec.upto fnExactInitialsSpec)) fnExactInitialsUptoCard
end Rows
end Go.Proofs.YtglhdcodellmfaaDoor
