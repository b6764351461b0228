/-
  DERIVED. GIVEN WITH THE SEED: THE CARDS: each row of YthcnpglbfhgmfaaDoorRows.lean that lists a variable, with what it lists TIED to the program's text (the seventh form; the later family's looks); each row that meets fmt, with fmt's text TOLD by the authors' own Lean function (tested against real Go, not proved from fmt's source: count such statements apart). THE CARD IS WHAT COUNTS. Prove the row's statement (the work); the ties are given (YthcnpglbfhgmfaaDoorTie.lean); close each card by the builder's one call (the guide's Derived/Test/ToyasCard.lean, 'card_holds'). Laid BY PROGRAM, IN A SANDBOX (cutbox-door.mjs). By AI agents, Wed Nov 11 2026. No macro, syntax, notation, axiom, sorry.
-/
import Derived.Test.YthcnpglbfhgmfaaDoorRows
import GoSem.ClaimSeven
namespace Go.Proofs.YthcnpglbfhgmfaaDoor
namespace Rows

/-- THE TIED CARD OF 'laws.FnRanksOf'. -/
def fnRanksOfCard : Claim7 := { stood := { row := fnRanksOfRow, standIns := [], harness := (true, "0cb04c949accd34ec9cd8ab305ecebea24a3dcb6760a567667d2521b9ce031f1"), looks := false }, kinds := [], alts := [], laidByText := true, laidKinds := [.data, .data], laidTests := true, laidLooks := .later }
def FnRanksOfCardSaid : Prop := Claim7.holds Tryd.pinned (.plain (OpenSpec.ofChange fnRanksOfSpec)) fnRanksOfCard

/-- THE TIED CARD OF 'laws.FnWalksTo'. -/
def fnWalksToCard : Claim7 := { stood := { row := fnWalksToRow, standIns := [], harness := (true, "0cb04c949accd34ec9cd8ab305ecebea24a3dcb6760a567667d2521b9ce031f1"), looks := false }, kinds := [], alts := [], laidByText := true, laidKinds := [.data, .data], laidTests := true, laidLooks := .later }
def FnWalksToCardSaid : Prop := Claim7.holds Tryd.pinned (.plain (OpenSpec.ofChange fnWalksToSpec)) fnWalksToCard

/-- THE TIED CARD OF 'laws.FnWellFounded'. -/
def fnWellFoundedCard : Claim7 := { stood := { row := fnWellFoundedRow, standIns := [], harness := (true, "0cb04c949accd34ec9cd8ab305ecebea24a3dcb6760a567667d2521b9ce031f1"), looks := false }, kinds := [], alts := [], laidByText := true, laidKinds := [.data, .data], laidTests := true, laidLooks := .later }
def FnWellFoundedCardSaid : Prop := Claim7.holds Tryd.pinned (.plain (OpenSpec.ofChange fnWellFoundedSpec)) fnWellFoundedCard

/-- THE TIED CARD OF 'laws.FnFallOk'. -/
def fnFallOkCard : Claim7 := { stood := { row := fnFallOkRow, standIns := [], harness := (true, "0cb04c949accd34ec9cd8ab305ecebea24a3dcb6760a567667d2521b9ce031f1"), looks := false }, kinds := [], alts := [], laidByText := true, laidKinds := [.data, .data], laidTests := true, laidLooks := .later }
def FnFallOkCardSaid : Prop := Claim7.holds Tryd.pinned (.plain (OpenSpec.ofChange fnFallOkSpec)) fnFallOkCard

/-- THE TIED CARD OF 'laws.FnCircleOk'. -/
def fnCircleOkCard : Claim7 := { stood := { row := fnCircleOkRow, standIns := [], harness := (true, "0cb04c949accd34ec9cd8ab305ecebea24a3dcb6760a567667d2521b9ce031f1"), looks := false }, kinds := [], alts := [], laidByText := true, laidKinds := [.data, .data], laidTests := true, laidLooks := .later }
def FnCircleOkCardSaid : Prop := Claim7.holds Tryd.pinned (.plain (OpenSpec.ofChange fnCircleOkSpec)) fnCircleOkCard

/-- THE TIED CARD OF 'laws.FnCircleOf'. -/
def fnCircleOfCard : Claim7 := { stood := { row := fnCircleOfRow, standIns := [], harness := (true, "0cb04c949accd34ec9cd8ab305ecebea24a3dcb6760a567667d2521b9ce031f1"), looks := false }, kinds := [], alts := [], laidByText := true, laidKinds := [.data, .data], laidTests := true, laidLooks := .later }
def FnCircleOfCardSaid : Prop := Claim7.holds Tryd.pinned (.plain (OpenSpec.ofChange fnCircleOfSpec)) fnCircleOfCard

/-- THE TIED CARD OF 'laws.FnRelPairs'. -/
def fnRelPairsCard : Claim7 := { stood := { row := fnRelPairsRow, standIns := [], harness := (true, "0cb04c949accd34ec9cd8ab305ecebea24a3dcb6760a567667d2521b9ce031f1"), looks := false }, kinds := [], alts := [], laidByText := true, laidKinds := [.data, .data], laidTests := true, laidLooks := .later }
def FnRelPairsCardSaid : Prop := Claim7.holds Tryd.pinned (.plain (OpenSpec.ofChange fnRelPairsSpec)) fnRelPairsCard

/-- THE TIED CARD OF 'laws.FnRelClosed'. -/
def fnRelClosedCard : Claim7 := { stood := { row := fnRelClosedRow, standIns := [], harness := (true, "0cb04c949accd34ec9cd8ab305ecebea24a3dcb6760a567667d2521b9ce031f1"), looks := false }, kinds := [], alts := [], laidByText := true, laidKinds := [.data, .data], laidTests := true, laidLooks := .later }
def FnRelClosedCardSaid : Prop := Claim7.holds Tryd.pinned (.plain (OpenSpec.ofChange fnRelClosedSpec)) fnRelClosedCard

/-- THE SECOND FORM's CARD OF 'laws.FnRanksOf'. -/
def fnRanksOfUptoCard : Claim7 := { stood := { row := fnRanksOfUptoRow, standIns := [], harness := (true, "0cb04c949accd34ec9cd8ab305ecebea24a3dcb6760a567667d2521b9ce031f1"), looks := false }, kinds := [], alts := [], laidByText := true, laidKinds := [.data, .data], laidTests := true, laidLooks := .later }
def FnRanksOfUptoCardSaid : Prop := Claim7.holds Tryd.pinned (.plain (OpenSpec.upto fnRanksOfSpec)) fnRanksOfUptoCard

/-- THE SECOND FORM's CARD OF 'laws.FnWalksTo'. -/
def fnWalksToUptoCard : Claim7 := { stood := { row := fnWalksToUptoRow, standIns := [], harness := (true, "0cb04c949accd34ec9cd8ab305ecebea24a3dcb6760a567667d2521b9ce031f1"), looks := false }, kinds := [], alts := [], laidByText := true, laidKinds := [.data, .data], laidTests := true, laidLooks := .later }
def FnWalksToUptoCardSaid : Prop := Claim7.holds Tryd.pinned (.plain (OpenSpec.upto fnWalksToSpec)) fnWalksToUptoCard

/-- THE SECOND FORM's CARD OF 'laws.FnWellFounded'. -/
def fnWellFoundedUptoCard : Claim7 := { stood := { row := fnWellFoundedUptoRow, standIns := [], harness := (true, "0cb04c949accd34ec9cd8ab305ecebea24a3dcb6760a567667d2521b9ce031f1"), looks := false }, kinds := [], alts := [], laidByText := true, laidKinds := [.data, .data], laidTests := true, laidLooks := .later }
def FnWellFoundedUptoCardSaid : Prop := Claim7.holds Tryd.pinned (.plain (OpenSpec.upto fnWellFoundedSpec)) fnWellFoundedUptoCard

/-- THE SECOND FORM's CARD OF 'laws.FnFallOk'. -/
def fnFallOkUptoCard : Claim7 := { stood := { row := fnFallOkUptoRow, standIns := [], harness := (true, "0cb04c949accd34ec9cd8ab305ecebea24a3dcb6760a567667d2521b9ce031f1"), looks := false }, kinds := [], alts := [], laidByText := true, laidKinds := [.data, .data], laidTests := true, laidLooks := .later }
def FnFallOkUptoCardSaid : Prop := Claim7.holds Tryd.pinned (.plain (OpenSpec.upto fnFallOkSpec)) fnFallOkUptoCard

/-- THE SECOND FORM's CARD OF 'laws.FnCircleOk'. -/
def fnCircleOkUptoCard : Claim7 := { stood := { row := fnCircleOkUptoRow, standIns := [], harness := (true, "0cb04c949accd34ec9cd8ab305ecebea24a3dcb6760a567667d2521b9ce031f1"), looks := false }, kinds := [], alts := [], laidByText := true, laidKinds := [.data, .data], laidTests := true, laidLooks := .later }
def FnCircleOkUptoCardSaid : Prop := Claim7.holds Tryd.pinned (.plain (OpenSpec.upto fnCircleOkSpec)) fnCircleOkUptoCard

/-- THE SECOND FORM's CARD OF 'laws.FnCircleOf'. -/
def fnCircleOfUptoCard : Claim7 := { stood := { row := fnCircleOfUptoRow, standIns := [], harness := (true, "0cb04c949accd34ec9cd8ab305ecebea24a3dcb6760a567667d2521b9ce031f1"), looks := false }, kinds := [], alts := [], laidByText := true, laidKinds := [.data, .data], laidTests := true, laidLooks := .later }
def FnCircleOfUptoCardSaid : Prop := Claim7.holds Tryd.pinned (.plain (OpenSpec.upto fnCircleOfSpec)) fnCircleOfUptoCard

/-- THE SECOND FORM's CARD OF 'laws.FnRelPairs'. -/
def fnRelPairsUptoCard : Claim7 := { stood := { row := fnRelPairsUptoRow, standIns := [], harness := (true, "0cb04c949accd34ec9cd8ab305ecebea24a3dcb6760a567667d2521b9ce031f1"), looks := false }, kinds := [], alts := [], laidByText := true, laidKinds := [.data, .data], laidTests := true, laidLooks := .later }
def FnRelPairsUptoCardSaid : Prop := Claim7.holds Tryd.pinned (.plain (OpenSpec.upto fnRelPairsSpec)) fnRelPairsUptoCard

/-- THE SECOND FORM's CARD OF 'laws.FnRelClosed'. -/
def fnRelClosedUptoCard : Claim7 := { stood := { row := fnRelClosedUptoRow, standIns := [], harness := (true, "0cb04c949accd34ec9cd8ab305ecebea24a3dcb6760a567667d2521b9ce031f1"), looks := false }, kinds := [], alts := [], laidByText := true, laidKinds := [.data, .data], laidTests := true, laidLooks := .later }
def FnRelClosedUptoCardSaid : Prop := Claim7.holds Tryd.pinned (.plain (OpenSpec.upto fnRelClosedSpec)) fnRelClosedUptoCard
end Rows
end Go.Proofs.YthcnpglbfhgmfaaDoor
