/-
  DERIVED. GIVEN WITH THE SEED: THE CARDS: each row of YtggohfinkpppkabDoorRows.lean that lists a variable, with what it lists TIED to the program's text (the seventh form; the later family's looks); each row that meets fmt, with fmt's text TOLD by the authors' own Lean function (tested against real Go, not proved from fmt's source: count such statements apart). THE CARD IS WHAT COUNTS. Prove the row's statement (the work); the ties are given (YtggohfinkpppkabDoorTie.lean); close each card by the builder's one call (the guide's Derived/Test/ToyasCard.lean, 'card_holds'). Laid BY PROGRAM, IN A SANDBOX (cutbox-door.mjs). By AI agents, Wed Nov 11 2026. No macro, syntax, notation, axiom, sorry.
-/
import Derived.Test.YtggohfinkpppkabDoorRows
import GoSem.ClaimSeven
namespace Go.Proofs.YtggohfinkpppkabDoor
namespace Rows

/-- THE TIED CARD OF 'laws.FnExactTokens'. -/
def fnExactTokensCard : Claim7 := { stood := { row := fnExactTokensRow, standIns := [], harness := (true, "ff327e3948c3acc8882c2dd9d21ffafd02b73920ba2f56bd9292a1a5b274dd84"), looks := false }, kinds := [], alts := [], laidByText := true, laidKinds := [.listed, .data], laidTests := true, laidLooks := .later }
def FnExactTokensCardSaid : Prop := Claim7.holds Tryd.pinned (.plain (OpenSpec.ofChange fnExactTokensSpec)) fnExactTokensCard

/-- THE TIED CARD OF 'laws.FnNormalization'. -/
def fnNormalizationCard : Claim7 := { stood := { row := fnNormalizationRow, standIns := [], harness := (true, "ff327e3948c3acc8882c2dd9d21ffafd02b73920ba2f56bd9292a1a5b274dd84"), looks := false }, kinds := [], alts := [], laidByText := true, laidKinds := [.data, .listed, .data, .pinned], laidTests := true, laidLooks := .later }
def FnNormalizationCardSaid : Prop := Claim7.holds Tryd.pinned (.plain (OpenSpec.ofChange fnNormalizationSpec)) fnNormalizationCard

/-- THE TIED CARD OF 'laws.FnSounds'. -/
def fnSoundsCard : Claim7 := { stood := { row := fnSoundsRow, standIns := [], harness := (true, "ff327e3948c3acc8882c2dd9d21ffafd02b73920ba2f56bd9292a1a5b274dd84"), looks := false }, kinds := [], alts := [], laidByText := true, laidKinds := [.listed, .data], laidTests := true, laidLooks := .later }
def FnSoundsCardSaid : Prop := Claim7.holds Tryd.pinned (.plain (OpenSpec.ofChange fnSoundsSpec)) fnSoundsCard

/-- THE TIED CARD OF 'laws.FnExactSoundKeys'. -/
def fnExactSoundKeysCard : Claim7 := { stood := { row := fnExactSoundKeysRow, standIns := [], harness := (true, "ff327e3948c3acc8882c2dd9d21ffafd02b73920ba2f56bd9292a1a5b274dd84"), looks := false }, kinds := [], alts := [], laidByText := true, laidKinds := [.listed, .data], laidTests := true, laidLooks := .later }
def FnExactSoundKeysCardSaid : Prop := Claim7.holds Tryd.pinned (.plain (OpenSpec.ofChange fnExactSoundKeysSpec)) fnExactSoundKeysCard

/-- THE SECOND FORM's CARD OF 'laws.FnExactTokens'. -/
def fnExactTokensUptoCard : Claim7 := { stood := { row := fnExactTokensUptoRow, standIns := [], harness := (true, "ff327e3948c3acc8882c2dd9d21ffafd02b73920ba2f56bd9292a1a5b274dd84"), looks := false }, kinds := [], alts := [], laidByText := true, laidKinds := [.listed, .data], laidTests := true, laidLooks := .later }
def FnExactTokensUptoCardSaid : Prop := Claim7.holds Tryd.pinned (.plain (OpenSpec.upto fnExactTokensSpec)) fnExactTokensUptoCard

/-- THE SECOND FORM's CARD OF 'laws.FnNormalization'. -/
def fnNormalizationUptoCard : Claim7 := { stood := { row := fnNormalizationUptoRow, standIns := [], harness := (true, "ff327e3948c3acc8882c2dd9d21ffafd02b73920ba2f56bd9292a1a5b274dd84"), looks := false }, kinds := [], alts := [], laidByText := true, laidKinds := [.data, .listed, .data, .pinned], laidTests := true, laidLooks := .later }
def FnNormalizationUptoCardSaid : Prop := Claim7.holds Tryd.pinned (.plain (OpenSpec.upto fnNormalizationSpec)) fnNormalizationUptoCard

/-- THE SECOND FORM's CARD OF 'laws.FnSounds'. -/
def fnSoundsUptoCard : Claim7 := { stood := { row := fnSoundsUptoRow, standIns := [], harness := (true, "ff327e3948c3acc8882c2dd9d21ffafd02b73920ba2f56bd9292a1a5b274dd84"), looks := false }, kinds := [], alts := [], laidByText := true, laidKinds := [.listed, .data], laidTests := true, laidLooks := .later }
def FnSoundsUptoCardSaid : Prop := Claim7.holds Tryd.pinned (.plain (OpenSpec.upto fnSoundsSpec)) fnSoundsUptoCard

/-- THE SECOND FORM's CARD OF 'laws.FnExactSoundKeys'. -/
def fnExactSoundKeysUptoCard : Claim7 := { stood := { row := fnExactSoundKeysUptoRow, standIns := [], harness := (true, "ff327e3948c3acc8882c2dd9d21ffafd02b73920ba2f56bd9292a1a5b274dd84"), looks := false }, kinds := [], alts := [], laidByText := true, laidKinds := [.listed, .data], laidTests := true, laidLooks := .later }
def FnExactSoundKeysUptoCardSaid : Prop := Claim7.holds Tryd.pinned (.plain (OpenSpec.upto fnExactSoundKeysSpec)) fnExactSoundKeysUptoCard
end Rows
end Go.Proofs.YtggohfinkpppkabDoor
