/-
  DERIVED. GIVEN WITH THE SEED: THE CARDS: each row of YtciohiahonpfhaaDoorRows.lean that lists a variable, with what it lists TIED to the program's text (the seventh form; the later family's looks); each row that meets fmt, with fmt's text TOLD by the authors' own Lean function (tested against real Go, not proved from fmt's source: count such statements apart). THE CARD IS WHAT COUNTS. Prove the row's statement (the work); the ties are given (YtciohiahonpfhaaDoorTie.lean); close each card by the builder's one call (the guide's Derived/Test/ToyasCard.lean, 'card_holds'). Laid BY PROGRAM, IN A SANDBOX (cutbox-door.mjs). By AI agents, Wed Nov 11 2026. No macro, syntax, notation, axiom, sorry.
-/
import Derived.Test.YtciohiahonpfhaaDoorRows
import GoSem.ClaimSeven
namespace Go.Proofs.YtciohiahonpfhaaDoor
namespace Rows

/-- THE TIED CARD OF 'laws.FnNormalization'. -/
def fnNormalizationCard : Claim7 := { stood := { row := fnNormalizationRow, standIns := [], harness := (true, "3307d74810a7503733423488cb9dd4e8205bea5937c7e4f2bcbd25c65bdbbd87"), looks := false }, kinds := [], alts := [], laidByText := true, laidKinds := [.data, .listed, .data, .pinned], laidTests := true, laidLooks := .later }
def FnNormalizationCardSaid : Prop := Claim7.holds Tryd.pinned (.plain (OpenSpec.ofChange fnNormalizationSpec)) fnNormalizationCard

/-- THE TIED CARD OF 'laws.FnExactTokens'. -/
def fnExactTokensCard : Claim7 := { stood := { row := fnExactTokensRow, standIns := [], harness := (true, "3307d74810a7503733423488cb9dd4e8205bea5937c7e4f2bcbd25c65bdbbd87"), looks := false }, kinds := [], alts := [], laidByText := true, laidKinds := [.listed, .data], laidTests := true, laidLooks := .later }
def FnExactTokensCardSaid : Prop := Claim7.holds Tryd.pinned (.plain (OpenSpec.ofChange fnExactTokensSpec)) fnExactTokensCard

/-- THE SECOND FORM's CARD OF 'laws.FnNormalization'. -/
def fnNormalizationUptoCard : Claim7 := { stood := { row := fnNormalizationUptoRow, standIns := [], harness := (true, "3307d74810a7503733423488cb9dd4e8205bea5937c7e4f2bcbd25c65bdbbd87"), looks := false }, kinds := [], alts := [], laidByText := true, laidKinds := [.data, .listed, .data, .pinned], laidTests := true, laidLooks := .later }
def FnNormalizationUptoCardSaid : Prop := Claim7.holds Tryd.pinned (.plain (OpenSpec.upto fnNormalizationSpec)) fnNormalizationUptoCard

/-- THE SECOND FORM's CARD OF 'laws.FnExactTokens'. -/
def fnExactTokensUptoCard : Claim7 := { stood := { row := fnExactTokensUptoRow, standIns := [], harness := (true, "3307d74810a7503733423488cb9dd4e8205bea5937c7e4f2bcbd25c65bdbbd87"), looks := false }, kinds := [], alts := [], laidByText := true, laidKinds := [.listed, .data], laidTests := true, laidLooks := .later }
def FnExactTokensUptoCardSaid : Prop := Claim7.holds Tryd.pinned (.plain (OpenSpec.upto fnExactTokensSpec)) fnExactTokensUptoCard
end Rows
end Go.Proofs.YtciohiahonpfhaaDoor
