/-
  DERIVED. GIVEN WITH THE SEED: THE CARDS: each row of YtgkgjacjcenekaaDoorRows.lean that lists a variable, with what it lists TIED to the program's text (the seventh form; the later family's looks); each row that meets fmt, with fmt's text TOLD by the authors' own Lean function (tested against real Go, not proved from fmt's source: count such statements apart). THE CARD IS WHAT COUNTS. Prove the row's statement (the work); the ties are given (YtgkgjacjcenekaaDoorTie.lean); close each card by the builder's one call (the guide's Derived/Test/ToyasCard.lean, 'card_holds'). Laid BY PROGRAM, IN A SANDBOX (cutbox-door.mjs). By AI agents, Wed Nov 11 2026. No macro, syntax, notation, axiom, sorry.
-/
import Derived.Test.YtgkgjacjcenekaaDoorRows
import GoSem.ClaimSeven
namespace Go.Proofs.YtgkgjacjcenekaaDoor
namespace Rows

/-- THE TIED CARD OF 'laws.FnExactRanksOf'. -/
def fnExactRanksOfCard : Claim7 := { stood := { row := fnExactRanksOfRow, standIns := [], harness := (true, "236e931aecf19362d0a741c98a4b54ff9f1758df77394ea0138aadbe158b0ca2"), looks := false }, kinds := [], alts := [], laidByText := true, laidKinds := [.data, .data], laidTests := true, laidLooks := .later }
def FnExactRanksOfCardSaid : Prop := Claim7.holds Tryd.pinned (.plain (OpenSpec.ofChange fnExactRanksOfSpec)) fnExactRanksOfCard

/-- THE TIED CARD OF 'laws.FnExactWalksTo'. -/
def fnExactWalksToCard : Claim7 := { stood := { row := fnExactWalksToRow, standIns := [], harness := (true, "236e931aecf19362d0a741c98a4b54ff9f1758df77394ea0138aadbe158b0ca2"), looks := false }, kinds := [], alts := [], laidByText := true, laidKinds := [.data, .data], laidTests := true, laidLooks := .later }
def FnExactWalksToCardSaid : Prop := Claim7.holds Tryd.pinned (.plain (OpenSpec.ofChange fnExactWalksToSpec)) fnExactWalksToCard

/-- THE TIED CARD OF 'laws.FnExactWellFounded'. -/
def fnExactWellFoundedCard : Claim7 := { stood := { row := fnExactWellFoundedRow, standIns := [], harness := (true, "236e931aecf19362d0a741c98a4b54ff9f1758df77394ea0138aadbe158b0ca2"), looks := false }, kinds := [], alts := [], laidByText := true, laidKinds := [.data, .data], laidTests := true, laidLooks := .later }
def FnExactWellFoundedCardSaid : Prop := Claim7.holds Tryd.pinned (.plain (OpenSpec.ofChange fnExactWellFoundedSpec)) fnExactWellFoundedCard

/-- THE TIED CARD OF 'laws.FnExactFallOk'. -/
def fnExactFallOkCard : Claim7 := { stood := { row := fnExactFallOkRow, standIns := [], harness := (true, "236e931aecf19362d0a741c98a4b54ff9f1758df77394ea0138aadbe158b0ca2"), looks := false }, kinds := [], alts := [], laidByText := true, laidKinds := [.data, .data], laidTests := true, laidLooks := .later }
def FnExactFallOkCardSaid : Prop := Claim7.holds Tryd.pinned (.plain (OpenSpec.ofChange fnExactFallOkSpec)) fnExactFallOkCard

/-- THE TIED CARD OF 'laws.FnExactCircleOf'. -/
def fnExactCircleOfCard : Claim7 := { stood := { row := fnExactCircleOfRow, standIns := [], harness := (true, "236e931aecf19362d0a741c98a4b54ff9f1758df77394ea0138aadbe158b0ca2"), looks := false }, kinds := [], alts := [], laidByText := true, laidKinds := [.data, .data], laidTests := true, laidLooks := .later }
def FnExactCircleOfCardSaid : Prop := Claim7.holds Tryd.pinned (.plain (OpenSpec.ofChange fnExactCircleOfSpec)) fnExactCircleOfCard

/-- THE TIED CARD OF 'laws.FnExactRelPairs'. -/
def fnExactRelPairsCard : Claim7 := { stood := { row := fnExactRelPairsRow, standIns := [], harness := (true, "236e931aecf19362d0a741c98a4b54ff9f1758df77394ea0138aadbe158b0ca2"), looks := false }, kinds := [], alts := [], laidByText := true, laidKinds := [.data, .data], laidTests := true, laidLooks := .later }
def FnExactRelPairsCardSaid : Prop := Claim7.holds Tryd.pinned (.plain (OpenSpec.ofChange fnExactRelPairsSpec)) fnExactRelPairsCard

/-- THE TIED CARD OF 'laws.FnExactRelClosed'. -/
def fnExactRelClosedCard : Claim7 := { stood := { row := fnExactRelClosedRow, standIns := [], harness := (true, "236e931aecf19362d0a741c98a4b54ff9f1758df77394ea0138aadbe158b0ca2"), looks := false }, kinds := [], alts := [], laidByText := true, laidKinds := [.data, .data], laidTests := true, laidLooks := .later }
def FnExactRelClosedCardSaid : Prop := Claim7.holds Tryd.pinned (.plain (OpenSpec.ofChange fnExactRelClosedSpec)) fnExactRelClosedCard

/-- THE SECOND FORM's CARD OF 'laws.FnExactRanksOf'. -/
def fnExactRanksOfUptoCard : Claim7 := { stood := { row := fnExactRanksOfUptoRow, standIns := [], harness := (true, "236e931aecf19362d0a741c98a4b54ff9f1758df77394ea0138aadbe158b0ca2"), looks := false }, kinds := [], alts := [], laidByText := true, laidKinds := [.data, .data], laidTests := true, laidLooks := .later }
def FnExactRanksOfUptoCardSaid : Prop := Claim7.holds Tryd.pinned (.plain (OpenSpec.upto fnExactRanksOfSpec)) fnExactRanksOfUptoCard

/-- THE SECOND FORM's CARD OF 'laws.FnExactWalksTo'. -/
def fnExactWalksToUptoCard : Claim7 := { stood := { row := fnExactWalksToUptoRow, standIns := [], harness := (true, "236e931aecf19362d0a741c98a4b54ff9f1758df77394ea0138aadbe158b0ca2"), looks := false }, kinds := [], alts := [], laidByText := true, laidKinds := [.data, .data], laidTests := true, laidLooks := .later }
def FnExactWalksToUptoCardSaid : Prop := Claim7.holds Tryd.pinned (.plain (OpenSpec.upto fnExactWalksToSpec)) fnExactWalksToUptoCard

/-- THE SECOND FORM's CARD OF 'laws.FnExactWellFounded'. -/
def fnExactWellFoundedUptoCard : Claim7 := { stood := { row := fnExactWellFoundedUptoRow, standIns := [], harness := (true, "236e931aecf19362d0a741c98a4b54ff9f1758df77394ea0138aadbe158b0ca2"), looks := false }, kinds := [], alts := [], laidByText := true, laidKinds := [.data, .data], laidTests := true, laidLooks := .later }
def FnExactWellFoundedUptoCardSaid : Prop := Claim7.holds Tryd.pinned (.plain (OpenSpec.upto fnExactWellFoundedSpec)) fnExactWellFoundedUptoCard

/-- THE SECOND FORM's CARD OF 'laws.FnExactFallOk'. -/
def fnExactFallOkUptoCard : Claim7 := { stood := { row := fnExactFallOkUptoRow, standIns := [], harness := (true, "236e931aecf19362d0a741c98a4b54ff9f1758df77394ea0138aadbe158b0ca2"), looks := false }, kinds := [], alts := [], laidByText := true, laidKinds := [.data, .data], laidTests := true, laidLooks := .later }
def FnExactFallOkUptoCardSaid : Prop := Claim7.holds Tryd.pinned (.plain (OpenSpec.upto fnExactFallOkSpec)) fnExactFallOkUptoCard

/-- THE SECOND FORM's CARD OF 'laws.FnExactCircleOf'. -/
def fnExactCircleOfUptoCard : Claim7 := { stood := { row := fnExactCircleOfUptoRow, standIns := [], harness := (true, "236e931aecf19362d0a741c98a4b54ff9f1758df77394ea0138aadbe158b0ca2"), looks := false }, kinds := [], alts := [], laidByText := true, laidKinds := [.data, .data], laidTests := true, laidLooks := .later }
def FnExactCircleOfUptoCardSaid : Prop := Claim7.holds Tryd.pinned (.plain (OpenSpec.upto fnExactCircleOfSpec)) fnExactCircleOfUptoCard

/-- THE SECOND FORM's CARD OF 'laws.FnExactRelPairs'. -/
def fnExactRelPairsUptoCard : Claim7 := { stood := { row := fnExactRelPairsUptoRow, standIns := [], harness := (true, "236e931aecf19362d0a741c98a4b54ff9f1758df77394ea0138aadbe158b0ca2"), looks := false }, kinds := [], alts := [], laidByText := true, laidKinds := [.data, .data], laidTests := true, laidLooks := .later }
def FnExactRelPairsUptoCardSaid : Prop := Claim7.holds Tryd.pinned (.plain (OpenSpec.upto fnExactRelPairsSpec)) fnExactRelPairsUptoCard

/-- THE SECOND FORM's CARD OF 'laws.FnExactRelClosed'. -/
def fnExactRelClosedUptoCard : Claim7 := { stood := { row := fnExactRelClosedUptoRow, standIns := [], harness := (true, "236e931aecf19362d0a741c98a4b54ff9f1758df77394ea0138aadbe158b0ca2"), looks := false }, kinds := [], alts := [], laidByText := true, laidKinds := [.data, .data], laidTests := true, laidLooks := .later }
def FnExactRelClosedUptoCardSaid : Prop := Claim7.holds Tryd.pinned (.plain (OpenSpec.upto fnExactRelClosedSpec)) fnExactRelClosedUptoCard
end Rows
end Go.Proofs.YtgkgjacjcenekaaDoor
