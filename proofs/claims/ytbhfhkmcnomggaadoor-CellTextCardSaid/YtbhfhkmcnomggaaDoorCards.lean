/-
  DERIVED. GIVEN WITH THE SEED: THE CARDS: each row of YtbhfhkmcnomggaaDoorRows.lean that lists a variable, with what it lists TIED to the program's text (the seventh form; the later family's looks); each row that meets fmt, with fmt's text TOLD by the authors' own Lean function (tested against real Go, not proved from fmt's source: count such statements apart). THE CARD IS WHAT COUNTS. Prove the row's statement (the work); the ties are given (YtbhfhkmcnomggaaDoorTie.lean); close each card by the builder's one call (the guide's Derived/Test/ToyasCard.lean, 'card_holds'). Laid BY PROGRAM, IN A SANDBOX (cutbox-door.mjs). By AI agents, Wed Nov 11 2026. No macro, syntax, notation, axiom, sorry.
-/
import Derived.Test.YtbhfhkmcnomggaaDoorRows
import GoSem.ClaimSeven
namespace Go.Proofs.YtbhfhkmcnomggaaDoor
namespace Rows

/-- THE TIED CARD OF 'rotuluslaw1.UtfAll'. -/
def utfAllCard : Claim7 := { stood := { row := utfAllRow, standIns := [], harness := (true, "22db9a5f0ad639dbc44378273857836c02c7ca561660ba38e46262958da2f072"), looks := false }, kinds := [], alts := [], laidByText := true, laidKinds := [.data], laidTests := true, laidLooks := .later }
def UtfAllCardSaid : Prop := Claim7.holds Tryd.pinned (.plain (OpenSpec.ofChange utfAllSpec)) utfAllCard

/-- THE TIED CARD OF 'rotuluslaw1.UtfWrite'. -/
def utfWriteCard : Claim7 := { stood := { row := utfWriteRow, standIns := [], harness := (true, "22db9a5f0ad639dbc44378273857836c02c7ca561660ba38e46262958da2f072"), looks := false }, kinds := [], alts := [], laidByText := true, laidKinds := [.data], laidTests := true, laidLooks := .later }
def UtfWriteCardSaid : Prop := Claim7.holds Tryd.pinned (.plain (OpenSpec.ofChange utfWriteSpec)) utfWriteCard

/-- THE TIED CARD OF 'rotuluslaw1.UtfParts'. -/
def utfPartsCard : Claim7 := { stood := { row := utfPartsRow, standIns := [], harness := (true, "22db9a5f0ad639dbc44378273857836c02c7ca561660ba38e46262958da2f072"), looks := false }, kinds := [], alts := [], laidByText := true, laidKinds := [.data], laidTests := true, laidLooks := .later }
def UtfPartsCardSaid : Prop := Claim7.holds Tryd.pinned (.plain (OpenSpec.ofChange utfPartsSpec)) utfPartsCard

/-- THE TIED CARD OF 'rotuluslaw1.UtfOne'. -/
def utfOneCard : Claim7 := { stood := { row := utfOneRow, standIns := [], harness := (true, "22db9a5f0ad639dbc44378273857836c02c7ca561660ba38e46262958da2f072"), looks := false }, kinds := [], alts := [], laidByText := true, laidKinds := [.data], laidTests := true, laidLooks := .later }
def UtfOneCardSaid : Prop := Claim7.holds Tryd.pinned (.plain (OpenSpec.ofChange utfOneSpec)) utfOneCard

/-- THE TIED CARD OF 'rotuluslaw1.WidthAll'. -/
def widthAllCard : Claim7 := { stood := { row := widthAllRow, standIns := [], harness := (true, "22db9a5f0ad639dbc44378273857836c02c7ca561660ba38e46262958da2f072"), looks := false }, kinds := [], alts := [], laidByText := true, laidKinds := [.data], laidTests := true, laidLooks := .later }
def WidthAllCardSaid : Prop := Claim7.holds Tryd.pinned (.plain (OpenSpec.ofChange widthAllSpec)) widthAllCard

/-- THE TIED CARD OF 'rotuluslaw1.WidthEdges'. -/
def widthEdgesCard : Claim7 := { stood := { row := widthEdgesRow, standIns := [], harness := (true, "22db9a5f0ad639dbc44378273857836c02c7ca561660ba38e46262958da2f072"), looks := false }, kinds := [], alts := [], laidByText := true, laidKinds := [.data], laidTests := true, laidLooks := .later }
def WidthEdgesCardSaid : Prop := Claim7.holds Tryd.pinned (.plain (OpenSpec.ofChange widthEdgesSpec)) widthEdgesCard

/-- THE TIED CARD OF 'rotuluslaw1.CellOwn'. -/
def cellOwnCard : Claim7 := { stood := { row := cellOwnRow, standIns := [], harness := (true, "22db9a5f0ad639dbc44378273857836c02c7ca561660ba38e46262958da2f072"), looks := false }, kinds := [], alts := [], laidByText := true, laidKinds := [.data], laidTests := true, laidLooks := .later }
def CellOwnCardSaid : Prop := Claim7.holds Tryd.pinned (.plain (OpenSpec.ofChange cellOwnSpec)) cellOwnCard

/-- THE TIED CARD OF 'rotuluslaw1.CellText'. -/
def cellTextCard : Claim7 := { stood := { row := cellTextRow, standIns := [], harness := (true, "22db9a5f0ad639dbc44378273857836c02c7ca561660ba38e46262958da2f072"), looks := false }, kinds := [], alts := [], laidByText := true, laidKinds := [.data], laidTests := true, laidLooks := .later }
def CellTextCardSaid : Prop := Claim7.holds Tryd.pinned (.plain (OpenSpec.ofChange cellTextSpec)) cellTextCard

/-- THE TIED CARD OF 'rotuluslaw1.UtfNone'. -/
def utfNoneCard : Claim7 := { stood := { row := utfNoneRow, standIns := [], harness := (true, "22db9a5f0ad639dbc44378273857836c02c7ca561660ba38e46262958da2f072"), looks := false }, kinds := [], alts := [], laidByText := true, laidKinds := [.data], laidTests := true, laidLooks := .later }
def UtfNoneCardSaid : Prop := Claim7.holds Tryd.pinned (.plain (OpenSpec.ofChange utfNoneSpec)) utfNoneCard

/-- THE TIED CARD OF 'rotuluslaw1.UtfRaw'. -/
def utfRawCard : Claim7 := { stood := { row := utfRawRow, standIns := [], harness := (true, "22db9a5f0ad639dbc44378273857836c02c7ca561660ba38e46262958da2f072"), looks := false }, kinds := [], alts := [], laidByText := true, laidKinds := [.data], laidTests := true, laidLooks := .later }
def UtfRawCardSaid : Prop := Claim7.holds Tryd.pinned (.plain (OpenSpec.ofChange utfRawSpec)) utfRawCard

/-- THE TIED CARD OF 'rotuluslaw1.UtfFour'. -/
def utfFourCard : Claim7 := { stood := { row := utfFourRow, standIns := [], harness := (true, "22db9a5f0ad639dbc44378273857836c02c7ca561660ba38e46262958da2f072"), looks := false }, kinds := [], alts := [], laidByText := true, laidKinds := [.data], laidTests := true, laidLooks := .later }
def UtfFourCardSaid : Prop := Claim7.holds Tryd.pinned (.plain (OpenSpec.ofChange utfFourSpec)) utfFourCard

/-- THE TIED CARD OF 'rotuluslaw1.UtfSplit'. -/
def utfSplitCard : Claim7 := { stood := { row := utfSplitRow, standIns := [], harness := (true, "22db9a5f0ad639dbc44378273857836c02c7ca561660ba38e46262958da2f072"), looks := false }, kinds := [], alts := [], laidByText := true, laidKinds := [.data], laidTests := true, laidLooks := .later }
def UtfSplitCardSaid : Prop := Claim7.holds Tryd.pinned (.plain (OpenSpec.ofChange utfSplitSpec)) utfSplitCard

/-- THE SECOND FORM's CARD OF 'rotuluslaw1.UtfAll'. -/
def utfAllUptoCard : Claim7 := { stood := { row := utfAllUptoRow, standIns := [], harness := (true, "22db9a5f0ad639dbc44378273857836c02c7ca561660ba38e46262958da2f072"), looks := false }, kinds := [], alts := [], laidByText := true, laidKinds := [.data], laidTests := true, laidLooks := .later }
def UtfAllUptoCardSaid : Prop := Claim7.holds Tryd.pinned (.plain (OpenSpec.upto utfAllSpec)) utfAllUptoCard

/-- THE SECOND FORM's CARD OF 'rotuluslaw1.UtfWrite'. -/
def utfWriteUptoCard : Claim7 := { stood := { row := utfWriteUptoRow, standIns := [], harness := (true, "22db9a5f0ad639dbc44378273857836c02c7ca561660ba38e46262958da2f072"), looks := false }, kinds := [], alts := [], laidByText := true, laidKinds := [.data], laidTests := true, laidLooks := .later }
def UtfWriteUptoCardSaid : Prop := Claim7.holds Tryd.pinned (.plain (OpenSpec.upto utfWriteSpec)) utfWriteUptoCard

/-- THE SECOND FORM's CARD OF 'rotuluslaw1.UtfParts'. -/
def utfPartsUptoCard : Claim7 := { stood := { row := utfPartsUptoRow, standIns := [], harness := (true, "22db9a5f0ad639dbc44378273857836c02c7ca561660ba38e46262958da2f072"), looks := false }, kinds := [], alts := [], laidByText := true, laidKinds := [.data], laidTests := true, laidLooks := .later }
def UtfPartsUptoCardSaid : Prop := Claim7.holds Tryd.pinned (.plain (OpenSpec.upto utfPartsSpec)) utfPartsUptoCard

/-- THE SECOND FORM's CARD OF 'rotuluslaw1.UtfOne'. -/
def utfOneUptoCard : Claim7 := { stood := { row := utfOneUptoRow, standIns := [], harness := (true, "22db9a5f0ad639dbc44378273857836c02c7ca561660ba38e46262958da2f072"), looks := false }, kinds := [], alts := [], laidByText := true, laidKinds := [.data], laidTests := true, laidLooks := .later }
def UtfOneUptoCardSaid : Prop := Claim7.holds Tryd.pinned (.plain (OpenSpec.upto utfOneSpec)) utfOneUptoCard

/-- THE SECOND FORM's CARD OF 'rotuluslaw1.WidthAll'. -/
def widthAllUptoCard : Claim7 := { stood := { row := widthAllUptoRow, standIns := [], harness := (true, "22db9a5f0ad639dbc44378273857836c02c7ca561660ba38e46262958da2f072"), looks := false }, kinds := [], alts := [], laidByText := true, laidKinds := [.data], laidTests := true, laidLooks := .later }
def WidthAllUptoCardSaid : Prop := Claim7.holds Tryd.pinned (.plain (OpenSpec.upto widthAllSpec)) widthAllUptoCard

/-- THE SECOND FORM's CARD OF 'rotuluslaw1.WidthEdges'. -/
def widthEdgesUptoCard : Claim7 := { stood := { row := widthEdgesUptoRow, standIns := [], harness := (true, "22db9a5f0ad639dbc44378273857836c02c7ca561660ba38e46262958da2f072"), looks := false }, kinds := [], alts := [], laidByText := true, laidKinds := [.data], laidTests := true, laidLooks := .later }
def WidthEdgesUptoCardSaid : Prop := Claim7.holds Tryd.pinned (.plain (OpenSpec.upto widthEdgesSpec)) widthEdgesUptoCard

/-- THE SECOND FORM's CARD OF 'rotuluslaw1.CellOwn'. -/
def cellOwnUptoCard : Claim7 := { stood := { row := cellOwnUptoRow, standIns := [], harness := (true, "22db9a5f0ad639dbc44378273857836c02c7ca561660ba38e46262958da2f072"), looks := false }, kinds := [], alts := [], laidByText := true, laidKinds := [.data], laidTests := true, laidLooks := .later }
def CellOwnUptoCardSaid : Prop := Claim7.holds Tryd.pinned (.plain (OpenSpec.upto cellOwnSpec)) cellOwnUptoCard

/-- THE SECOND FORM's CARD OF 'rotuluslaw1.CellText'. -/
def cellTextUptoCard : Claim7 := { stood := { row := cellTextUptoRow, standIns := [], harness := (true, "22db9a5f0ad639dbc44378273857836c02c7ca561660ba38e46262958da2f072"), looks := false }, kinds := [], alts := [], laidByText := true, laidKinds := [.data], laidTests := true, laidLooks := .later }
def CellTextUptoCardSaid : Prop := Claim7.holds Tryd.pinned (.plain (OpenSpec.upto cellTextSpec)) cellTextUptoCard

/-- THE SECOND FORM's CARD OF 'rotuluslaw1.UtfNone'. -/
def utfNoneUptoCard : Claim7 := { stood := { row := utfNoneUptoRow, standIns := [], harness := (true, "22db9a5f0ad639dbc44378273857836c02c7ca561660ba38e46262958da2f072"), looks := false }, kinds := [], alts := [], laidByText := true, laidKinds := [.data], laidTests := true, laidLooks := .later }
def UtfNoneUptoCardSaid : Prop := Claim7.holds Tryd.pinned (.plain (OpenSpec.upto utfNoneSpec)) utfNoneUptoCard

/-- THE SECOND FORM's CARD OF 'rotuluslaw1.UtfRaw'. -/
def utfRawUptoCard : Claim7 := { stood := { row := utfRawUptoRow, standIns := [], harness := (true, "22db9a5f0ad639dbc44378273857836c02c7ca561660ba38e46262958da2f072"), looks := false }, kinds := [], alts := [], laidByText := true, laidKinds := [.data], laidTests := true, laidLooks := .later }
def UtfRawUptoCardSaid : Prop := Claim7.holds Tryd.pinned (.plain (OpenSpec.upto utfRawSpec)) utfRawUptoCard

/-- THE SECOND FORM's CARD OF 'rotuluslaw1.UtfFour'. -/
def utfFourUptoCard : Claim7 := { stood := { row := utfFourUptoRow, standIns := [], harness := (true, "22db9a5f0ad639dbc44378273857836c02c7ca561660ba38e46262958da2f072"), looks := false }, kinds := [], alts := [], laidByText := true, laidKinds := [.data], laidTests := true, laidLooks := .later }
def UtfFourUptoCardSaid : Prop := Claim7.holds Tryd.pinned (.plain (OpenSpec.upto utfFourSpec)) utfFourUptoCard

/-- THE SECOND FORM's CARD OF 'rotuluslaw1.UtfSplit'. -/
def utfSplitUptoCard : Claim7 := { stood := { row := utfSplitUptoRow, standIns := [], harness := (true, "22db9a5f0ad639dbc44378273857836c02c7ca561660ba38e46262958da2f072"), looks := false }, kinds := [], alts := [], laidByText := true, laidKinds := [.data], laidTests := true, laidLooks := .later }
def UtfSplitUptoCardSaid : Prop := Claim7.holds Tryd.pinned (.plain (OpenSpec.upto utfSplitSpec)) utfSplitUptoCard
end Rows
end Go.Proofs.YtbhfhkmcnomggaaDoor
