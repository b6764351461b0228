/-
  DERIVED. GIVEN WITH THE SEED: THE CARDS: each row of YtfigkfcdfmoihaaDoorRows.lean that lists a variable, with what it lists TIED to the program's text (the seventh form; the later family's looks); each row that meets fmt, with fmt's text TOLD by the authors' own Lean function (tested against real Go, not proved from fmt's source: count such statements apart). THE CARD IS WHAT COUNTS. Prove the row's statement (the work); the ties are given (YtfigkfcdfmoihaaDoorTie.lean); close each card by the builder's one call (the guide's Derived/Test/ToyasCard.lean, 'card_holds'). Laid BY PROGRAM, IN A SANDBOX (cutbox-door.mjs). By AI agents, Wed Nov 11 2026. No macro, syntax, notation, axiom, sorry.
-/
import Derived.Test.YtfigkfcdfmoihaaDoorRows
import GoSem.ClaimSeven
namespace Go.Proofs.YtfigkfcdfmoihaaDoor
namespace Rows

/-- THE TIED CARD OF 'laws.FnExactCircleOf'. -/
def fnExactCircleOfCard : Claim7 := { stood := { row := fnExactCircleOfRow, standIns := [], harness := (true, "0ef8eaf0e7f7ed0ffb5c892a5d8f714f4cf7623d9a0104a3c371459715c3f522"), looks := false }, kinds := [], alts := [], laidByText := true, laidKinds := [.data, .data], laidTests := true, laidLooks := .later }
def FnExactCircleOfCardSaid : Prop := Claim7.holds Tryd.pinned (.plain (OpenSpec.ofChange fnExactCircleOfSpec)) fnExactCircleOfCard

/-- THE TIED CARD OF 'laws.FnExactFallOk'. -/
def fnExactFallOkCard : Claim7 := { stood := { row := fnExactFallOkRow, standIns := [], harness := (true, "0ef8eaf0e7f7ed0ffb5c892a5d8f714f4cf7623d9a0104a3c371459715c3f522"), looks := false }, kinds := [], alts := [], laidByText := true, laidKinds := [.data, .data], laidTests := true, laidLooks := .later }
def FnExactFallOkCardSaid : Prop := Claim7.holds Tryd.pinned (.plain (OpenSpec.ofChange fnExactFallOkSpec)) fnExactFallOkCard

/-- THE TIED CARD OF 'laws.FnExactRelPairs'. -/
def fnExactRelPairsCard : Claim7 := { stood := { row := fnExactRelPairsRow, standIns := [], harness := (true, "0ef8eaf0e7f7ed0ffb5c892a5d8f714f4cf7623d9a0104a3c371459715c3f522"), looks := false }, kinds := [], alts := [], laidByText := true, laidKinds := [.data, .data], laidTests := true, laidLooks := .later }
def FnExactRelPairsCardSaid : Prop := Claim7.holds Tryd.pinned (.plain (OpenSpec.ofChange fnExactRelPairsSpec)) fnExactRelPairsCard

/-- THE SECOND FORM's CARD OF 'laws.FnExactCircleOf'. -/
def fnExactCircleOfUptoCard : Claim7 := { stood := { row := fnExactCircleOfUptoRow, standIns := [], harness := (true, "0ef8eaf0e7f7ed0ffb5c892a5d8f714f4cf7623d9a0104a3c371459715c3f522"), looks := false }, kinds := [], alts := [], laidByText := true, laidKinds := [.data, .data], laidTests := true, laidLooks := .later }
def FnExactCircleOfUptoCardSaid : Prop := Claim7.holds Tryd.pinned (.plain (OpenSpec.upto fnExactCircleOfSpec)) fnExactCircleOfUptoCard

/-- THE SECOND FORM's CARD OF 'laws.FnExactFallOk'. -/
def fnExactFallOkUptoCard : Claim7 := { stood := { row := fnExactFallOkUptoRow, standIns := [], harness := (true, "0ef8eaf0e7f7ed0ffb5c892a5d8f714f4cf7623d9a0104a3c371459715c3f522"), looks := false }, kinds := [], alts := [], laidByText := true, laidKinds := [.data, .data], laidTests := true, laidLooks := .later }
def FnExactFallOkUptoCardSaid : Prop := Claim7.holds Tryd.pinned (.plain (OpenSpec.upto fnExactFallOkSpec)) fnExactFallOkUptoCard

/-- THE SECOND FORM's CARD OF 'laws.FnExactRelPairs'. -/
def fnExactRelPairsUptoCard : Claim7 := { stood := { row := fnExactRelPairsUptoRow, standIns := [], harness := (true, "0ef8eaf0e7f7ed0ffb5c892a5d8f714f4cf7623d9a0104a3c371459715c3f522"), looks := false }, kinds := [], alts := [], laidByText := true, laidKinds := [.data, .data], laidTests := true, laidLooks := .later }
def FnExactRelPairsUptoCardSaid : Prop := Claim7.holds Tryd.pinned (.plain (OpenSpec.upto fnExactRelPairsSpec)) fnExactRelPairsUptoCard
end Rows
end Go.Proofs.YtfigkfcdfmoihaaDoor
