/-
  DERIVED. GIVEN WITH THE SEED: THE CARDS: each row of YtlcpbbfcdbghdaaDoorRows.lean that lists a variable, with what it lists TIED to the program's text (the seventh form; the later family's looks); each row that meets fmt, with fmt's text TOLD by the authors' own Lean function (tested against real Go, not proved from fmt's source: count such statements apart). THE CARD IS WHAT COUNTS. Prove the row's statement (the work); the ties are given (YtlcpbbfcdbghdaaDoorTie.lean); close each card by the builder's one call (the guide's Derived/Test/ToyasCard.lean, 'card_holds'). Laid BY PROGRAM, IN A SANDBOX (cutbox-door.mjs). By AI agents, Wed Nov 11 2026. No macro, syntax, notation, axiom, sorry.
-/
import Derived.Test.YtlcpbbfcdbghdaaDoorRows
import GoSem.ClaimSeven
namespace Go.Proofs.YtlcpbbfcdbghdaaDoor
namespace Rows

/-- THE TIED CARD OF 'laws.FnNumberScores'. -/
def fnNumberScoresCard : Claim7 := { stood := { row := fnNumberScoresRow, standIns := [], harness := (true, "5284f9fedb5659cd4e6e2f86b28a9f1aa4f5941d24ea565beca661a1a4a8db04"), looks := false }, kinds := [], alts := [], laidByText := true, laidKinds := [.data, .data, .data], laidTests := true, laidLooks := .later }
def FnNumberScoresCardSaid : Prop := Claim7.holds Tryd.pinned (.plain (OpenSpec.ofChange fnNumberScoresSpec)) fnNumberScoresCard

/-- THE TIED CARD OF 'laws.FnExactParseYear'. -/
def fnExactParseYearCard : Claim7 := { stood := { row := fnExactParseYearRow, standIns := [], harness := (true, "5284f9fedb5659cd4e6e2f86b28a9f1aa4f5941d24ea565beca661a1a4a8db04"), looks := false }, kinds := [], alts := [], laidByText := true, laidKinds := [.data, .data, .data], laidTests := true, laidLooks := .later }
def FnExactParseYearCardSaid : Prop := Claim7.holds Tryd.pinned (.plain (OpenSpec.ofChange fnExactParseYearSpec)) fnExactParseYearCard

/-- THE SECOND FORM's CARD OF 'laws.FnNumberScores'. -/
def fnNumberScoresUptoCard : Claim7 := { stood := { row := fnNumberScoresUptoRow, standIns := [], harness := (true, "5284f9fedb5659cd4e6e2f86b28a9f1aa4f5941d24ea565beca661a1a4a8db04"), looks := false }, kinds := [], alts := [], laidByText := true, laidKinds := [.data, .data, .data], laidTests := true, laidLooks := .later }
def FnNumberScoresUptoCardSaid : Prop := Claim7.holds Tryd.pinned (.plain (OpenSpec.upto fnNumberScoresSpec)) fnNumberScoresUptoCard

/-- THE SECOND FORM's CARD OF 'laws.FnExactParseYear'. -/
def fnExactParseYearUptoCard : Claim7 := { stood := { row := fnExactParseYearUptoRow, standIns := [], harness := (true, "5284f9fedb5659cd4e6e2f86b28a9f1aa4f5941d24ea565beca661a1a4a8db04"), looks := false }, kinds := [], alts := [], laidByText := true, laidKinds := [.data, .data, .data], laidTests := true, laidLooks := .later }
def FnExactParseYearUptoCardSaid : Prop := Claim7.holds Tryd.pinned (.plain (OpenSpec.upto fnExactParseYearSpec)) fnExactParseYearUptoCard
end Rows
end Go.Proofs.YtlcpbbfcdbghdaaDoor
