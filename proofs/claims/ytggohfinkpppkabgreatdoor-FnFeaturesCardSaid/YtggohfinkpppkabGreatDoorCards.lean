/-
  DERIVED. GIVEN WITH THE SEED: THE CARDS: each row of YtggohfinkpppkabGreatDoorRows.lean that lists a variable, with what it lists TIED to the program's text (the seventh form; the later family's looks); each row that meets fmt, with fmt's text TOLD by the authors' own Lean function (tested against real Go, not proved from fmt's source: count such statements apart). THE CARD IS WHAT COUNTS. Prove the row's statement (the work); the ties are given (YtggohfinkpppkabGreatDoorTie.lean); close each card by the builder's one call (the guide's Derived/Test/ToyasCard.lean, 'card_holds'). Laid BY PROGRAM, IN A SANDBOX (cutbox-door.mjs). By AI agents, Wed Nov 11 2026. No macro, syntax, notation, axiom, sorry.
-/
import Derived.Test.YtggohfinkpppkabGreatDoorRows
import GoSem.ClaimSeven
namespace Go.Proofs.YtggohfinkpppkabGreatDoor
namespace Rows

/-- THE TIED CARD OF 'laws.FnFeatures'. -/
def fnFeaturesCard : Claim7 := { stood := { row := fnFeaturesRow, standIns := [], harness := (true, "c41f9f3f190cc96706aeb7da059210b24be31bbc40bf828332584efddffc1014"), looks := false }, kinds := [], alts := [], laidByText := true, laidKinds := [.data, .data, .data, .listed, .data], laidTests := true, laidLooks := .later }
def FnFeaturesCardSaid : Prop := Claim7.holds Tryz.pinned (.plain (OpenSpec.ofChange fnFeaturesSpec)) fnFeaturesCard

/-- THE TIED CARD OF 'laws.FnExactPairFeatures'. -/
def fnExactPairFeaturesCard : Claim7 := { stood := { row := fnExactPairFeaturesRow, standIns := [], harness := (true, "c41f9f3f190cc96706aeb7da059210b24be31bbc40bf828332584efddffc1014"), looks := false }, kinds := [], alts := [], laidByText := true, laidKinds := [.data, .data, .data, .listed, .data], laidTests := true, laidLooks := .later }
def FnExactPairFeaturesCardSaid : Prop := Claim7.holds Tryz.pinned (.plain (OpenSpec.ofChange fnExactPairFeaturesSpec)) fnExactPairFeaturesCard

/-- THE SECOND FORM's CARD OF 'laws.FnFeatures'. -/
def fnFeaturesUptoCard : Claim7 := { stood := { row := fnFeaturesUptoRow, standIns := [], harness := (true, "c41f9f3f190cc96706aeb7da059210b24be31bbc40bf828332584efddffc1014"), looks := false }, kinds := [], alts := [], laidByText := true, laidKinds := [.data, .data, .data, .listed, .data], laidTests := true, laidLooks := .later }
def FnFeaturesUptoCardSaid : Prop := Claim7.holds Tryz.pinned (.plain (OpenSpec.upto fnFeaturesSpec)) fnFeaturesUptoCard

/-- THE SECOND FORM's CARD OF 'laws.FnExactPairFeatures'. -/
def fnExactPairFeaturesUptoCard : Claim7 := { stood := { row := fnExactPairFeaturesUptoRow, standIns := [], harness := (true, "c41f9f3f190cc96706aeb7da059210b24be31bbc40bf828332584efddffc1014"), looks := false }, kinds := [], alts := [], laidByText := true, laidKinds := [.data, .data, .data, .listed, .data], laidTests := true, laidLooks := .later }
def FnExactPairFeaturesUptoCardSaid : Prop := Claim7.holds Tryz.pinned (.plain (OpenSpec.upto fnExactPairFeaturesSpec)) fnExactPairFeaturesUptoCard
end Rows
end Go.Proofs.YtggohfinkpppkabGreatDoor
