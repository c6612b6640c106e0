/-
  DERIVED. GIVEN WITH THE SEED: THE CARDS: each row of YtpogfjcllcmaoaaDoorRows.lean that lists a variable, with what it lists TIED to the program's text (the seventh form; the later family's looks); each row that meets fmt, with fmt's text TOLD by the authors' own Lean function (tested against real Go, not proved from fmt's source: count such statements apart). THE CARD IS WHAT COUNTS. Prove the row's statement (the work); the ties are given (YtpogfjcllcmaoaaDoorTie.lean); close each card by the builder's one call (the guide's Derived/Test/ToyasCard.lean, 'card_holds'). Laid BY PROGRAM, IN A SANDBOX (cutbox-door.mjs). By AI agents, Wed Nov 11 2026. No macro, syntax, notation, axiom, sorry.
-/
import Derived.Test.YtpogfjcllcmaoaaDoorRows
import GoSem.ClaimSeven
namespace Go.Proofs.YtpogfjcllcmaoaaDoor
namespace Rows

/-- THE TIED CARD OF 'laws.FnExactFormatFeatures'. -/
def fnExactFormatFeaturesCard : Claim7 := { stood := { row := fnExactFormatFeaturesRow, standIns := [], harness := (true, "8d975d30c632b43940c9e474d02c873d49d30ae046a1b3404f0e3cea70346254"), looks := false }, kinds := [], alts := [], laidByText := true, laidKinds := [.data, .data, .data], laidTests := true, laidLooks := .later }
def FnExactFormatFeaturesCardSaid : Prop := Claim7.holds Tryd.pinned (.plain (OpenSpec.ofChange fnExactFormatFeaturesSpec)) fnExactFormatFeaturesCard

/-- THE TIED CARD OF 'laws.FnExactParseFeatures'. -/
def fnExactParseFeaturesCard : Claim7 := { stood := { row := fnExactParseFeaturesRow, standIns := [], harness := (true, "8d975d30c632b43940c9e474d02c873d49d30ae046a1b3404f0e3cea70346254"), looks := false }, kinds := [], alts := [], laidByText := true, laidKinds := [.data, .data, .data, .data, .pinned], laidTests := true, laidLooks := .later }
def FnExactParseFeaturesCardSaid : Prop := Claim7.holds Tryd.pinned (.plain (OpenSpec.ofChange fnExactParseFeaturesSpec)) fnExactParseFeaturesCard

/-- THE SECOND FORM's CARD OF 'laws.FnExactFormatFeatures'. -/
def fnExactFormatFeaturesUptoCard : Claim7 := { stood := { row := fnExactFormatFeaturesUptoRow, standIns := [], harness := (true, "8d975d30c632b43940c9e474d02c873d49d30ae046a1b3404f0e3cea70346254"), looks := false }, kinds := [], alts := [], laidByText := true, laidKinds := [.data, .data, .data], laidTests := true, laidLooks := .later }
def FnExactFormatFeaturesUptoCardSaid : Prop := Claim7.holds Tryd.pinned (.plain (OpenSpec.upto fnExactFormatFeaturesSpec)) fnExactFormatFeaturesUptoCard

/-- THE SECOND FORM's CARD OF 'laws.FnExactParseFeatures'. -/
def fnExactParseFeaturesUptoCard : Claim7 := { stood := { row := fnExactParseFeaturesUptoRow, standIns := [], harness := (true, "8d975d30c632b43940c9e474d02c873d49d30ae046a1b3404f0e3cea70346254"), looks := false }, kinds := [], alts := [], laidByText := true, laidKinds := [.data, .data, .data, .data, .pinned], laidTests := true, laidLooks := .later }
def FnExactParseFeaturesUptoCardSaid : Prop := Claim7.holds Tryd.pinned (.plain (OpenSpec.upto fnExactParseFeaturesSpec)) fnExactParseFeaturesUptoCard
end Rows
end Go.Proofs.YtpogfjcllcmaoaaDoor
