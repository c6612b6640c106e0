/-
  DERIVED. GIVEN WITH THE SEED: THE CARDS: each row of YtknkhljegmielaaDoorRows.lean that lists a variable, with what it lists TIED to the program's text (the seventh form; the later family's looks); each row that meets fmt, with fmt's text TOLD by the authors' own Lean function (tested against real Go, not proved from fmt's source: count such statements apart). THE CARD IS WHAT COUNTS. Prove the row's statement (the work); the ties are given (YtknkhljegmielaaDoorTie.lean); close each card by the builder's one call (the guide's Derived/Test/ToyasCard.lean, 'card_holds'). Laid BY PROGRAM, IN A SANDBOX (cutbox-door.mjs). By AI agents, Wed Nov 11 2026. No macro, syntax, notation, axiom, sorry.
-/
import Derived.Test.YtknkhljegmielaaDoorRows
import GoSem.ClaimSeven
namespace Go.Proofs.YtknkhljegmielaaDoor
namespace Rows

/-- THE TIED CARD OF 'laws.FnExactFormatRules'. -/
def fnExactFormatRulesCard : Claim7 := { stood := { row := fnExactFormatRulesRow, standIns := [], harness := (true, "21c694a9142ea8f6f98439d247ee3b1d99ee6dcf10ac7de8b56fbe431d327f1c"), looks := false }, kinds := [], alts := [], laidByText := true, laidKinds := [.data, .data, .data], laidTests := true, laidLooks := .later }
def FnExactFormatRulesCardSaid : Prop := Claim7.holds Tryd.pinned (.plain (OpenSpec.ofChange fnExactFormatRulesSpec)) fnExactFormatRulesCard

/-- THE TIED CARD OF 'laws.FnExactParseRules'. -/
def fnExactParseRulesCard : Claim7 := { stood := { row := fnExactParseRulesRow, standIns := [], harness := (true, "21c694a9142ea8f6f98439d247ee3b1d99ee6dcf10ac7de8b56fbe431d327f1c"), looks := false }, kinds := [], alts := [], laidByText := true, laidKinds := [.data, .data, .data, .data, .pinned], laidTests := true, laidLooks := .later }
def FnExactParseRulesCardSaid : Prop := Claim7.holds Tryd.pinned (.plain (OpenSpec.ofChange fnExactParseRulesSpec)) fnExactParseRulesCard

/-- THE SECOND FORM's CARD OF 'laws.FnExactFormatRules'. -/
def fnExactFormatRulesUptoCard : Claim7 := { stood := { row := fnExactFormatRulesUptoRow, standIns := [], harness := (true, "21c694a9142ea8f6f98439d247ee3b1d99ee6dcf10ac7de8b56fbe431d327f1c"), looks := false }, kinds := [], alts := [], laidByText := true, laidKinds := [.data, .data, .data], laidTests := true, laidLooks := .later }
def FnExactFormatRulesUptoCardSaid : Prop := Claim7.holds Tryd.pinned (.plain (OpenSpec.upto fnExactFormatRulesSpec)) fnExactFormatRulesUptoCard

/-- THE SECOND FORM's CARD OF 'laws.FnExactParseRules'. -/
def fnExactParseRulesUptoCard : Claim7 := { stood := { row := fnExactParseRulesUptoRow, standIns := [], harness := (true, "21c694a9142ea8f6f98439d247ee3b1d99ee6dcf10ac7de8b56fbe431d327f1c"), looks := false }, kinds := [], alts := [], laidByText := true, laidKinds := [.data, .data, .data, .data, .pinned], laidTests := true, laidLooks := .later }
def FnExactParseRulesUptoCardSaid : Prop := Claim7.holds Tryd.pinned (.plain (OpenSpec.upto fnExactParseRulesSpec)) fnExactParseRulesUptoCard
end Rows
end Go.Proofs.YtknkhljegmielaaDoor
