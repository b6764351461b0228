/-
  DERIVED. GIVEN WITH THE SEED: THE CARDS: each row of YtagdeifalkenhaaDoorRows.lean that lists a variable, with what it lists TIED to the program's text (the seventh form; the later family's looks); each row that meets fmt, with fmt's text TOLD by the authors' own Lean function (tested against real Go, not proved from fmt's source: count such statements apart). THE CARD IS WHAT COUNTS. Prove the row's statement (the work); the ties are given (YtagdeifalkenhaaDoorTie.lean); close each card by the builder's one call (the guide's Derived/Test/ToyasCard.lean, 'card_holds'). Laid BY PROGRAM, IN A SANDBOX (cutbox-door.mjs). By AI agents, Wed Nov 11 2026. No macro, syntax, notation, axiom, sorry.
-/
import Derived.Test.YtagdeifalkenhaaDoorRows
import GoSem.ClaimSeven
namespace Go.Proofs.YtagdeifalkenhaaDoor
namespace Rows

/-- THE TIED CARD OF 'laws.FnCircleOk'. -/
def fnCircleOkCard : Claim7 := { stood := { row := fnCircleOkRow, standIns := [], harness := (true, "bf97bca7bc526bf7f294840b68ca79552db2e67771d6f56160095c51f8cd8a75"), looks := false }, kinds := [], alts := [], laidByText := true, laidKinds := [.data, .data], laidTests := true, laidLooks := .later }
def FnCircleOkCardSaid : Prop := Claim7.holds Tryd.pinned (.plain (OpenSpec.ofChange fnCircleOkSpec)) fnCircleOkCard

/-- THE TIED CARD OF 'laws.FnFallOk'. -/
def fnFallOkCard : Claim7 := { stood := { row := fnFallOkRow, standIns := [], harness := (true, "bf97bca7bc526bf7f294840b68ca79552db2e67771d6f56160095c51f8cd8a75"), looks := false }, kinds := [], alts := [], laidByText := true, laidKinds := [.data, .data], laidTests := true, laidLooks := .later }
def FnFallOkCardSaid : Prop := Claim7.holds Tryd.pinned (.plain (OpenSpec.ofChange fnFallOkSpec)) fnFallOkCard

/-- THE TIED CARD OF 'laws.FnRelPairs'. -/
def fnRelPairsCard : Claim7 := { stood := { row := fnRelPairsRow, standIns := [], harness := (true, "bf97bca7bc526bf7f294840b68ca79552db2e67771d6f56160095c51f8cd8a75"), looks := false }, kinds := [], alts := [], laidByText := true, laidKinds := [.data, .data], laidTests := true, laidLooks := .later }
def FnRelPairsCardSaid : Prop := Claim7.holds Tryd.pinned (.plain (OpenSpec.ofChange fnRelPairsSpec)) fnRelPairsCard

/-- THE TIED CARD OF 'laws.FnCircleOf'. -/
def fnCircleOfCard : Claim7 := { stood := { row := fnCircleOfRow, standIns := [], harness := (true, "bf97bca7bc526bf7f294840b68ca79552db2e67771d6f56160095c51f8cd8a75"), looks := false }, kinds := [], alts := [], laidByText := true, laidKinds := [.data, .data], laidTests := true, laidLooks := .later }
def FnCircleOfCardSaid : Prop := Claim7.holds Tryd.pinned (.plain (OpenSpec.ofChange fnCircleOfSpec)) fnCircleOfCard

/-- THE SECOND FORM's CARD OF 'laws.FnCircleOk'. -/
def fnCircleOkUptoCard : Claim7 := { stood := { row := fnCircleOkUptoRow, standIns := [], harness := (true, "bf97bca7bc526bf7f294840b68ca79552db2e67771d6f56160095c51f8cd8a75"), looks := false }, kinds := [], alts := [], laidByText := true, laidKinds := [.data, .data], laidTests := true, laidLooks := .later }
def FnCircleOkUptoCardSaid : Prop := Claim7.holds Tryd.pinned (.plain (OpenSpec.upto fnCircleOkSpec)) fnCircleOkUptoCard

/-- THE SECOND FORM's CARD OF 'laws.FnFallOk'. -/
def fnFallOkUptoCard : Claim7 := { stood := { row := fnFallOkUptoRow, standIns := [], harness := (true, "bf97bca7bc526bf7f294840b68ca79552db2e67771d6f56160095c51f8cd8a75"), looks := false }, kinds := [], alts := [], laidByText := true, laidKinds := [.data, .data], laidTests := true, laidLooks := .later }
def FnFallOkUptoCardSaid : Prop := Claim7.holds Tryd.pinned (.plain (OpenSpec.upto fnFallOkSpec)) fnFallOkUptoCard

/-- THE SECOND FORM's CARD OF 'laws.FnRelPairs'. -/
def fnRelPairsUptoCard : Claim7 := { stood := { row := fnRelPairsUptoRow, standIns := [], harness := (true, "bf97bca7bc526bf7f294840b68ca79552db2e67771d6f56160095c51f8cd8a75"), looks := false }, kinds := [], alts := [], laidByText := true, laidKinds := [.data, .data], laidTests := true, laidLooks := .later }
def FnRelPairsUptoCardSaid : Prop := Claim7.holds Tryd.pinned (.plain (OpenSpec.upto fnRelPairsSpec)) fnRelPairsUptoCard

/-- THE SECOND FORM's CARD OF 'laws.FnCircleOf'. -/
def fnCircleOfUptoCard : Claim7 := { stood := { row := fnCircleOfUptoRow, standIns := [], harness := (true, "bf97bca7bc526bf7f294840b68ca79552db2e67771d6f56160095c51f8cd8a75"), looks := false }, kinds := [], alts := [], laidByText := true, laidKinds := [.data, .data], laidTests := true, laidLooks := .later }
def FnCircleOfUptoCardSaid : Prop := Claim7.holds Tryd.pinned (.plain (OpenSpec.upto fnCircleOfSpec)) fnCircleOfUptoCard
end Rows
end Go.Proofs.YtagdeifalkenhaaDoor
