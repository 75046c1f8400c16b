/-
  DERIVED. GIVEN WITH THE SEED: THE CARDS: each row of YtaclmhopcfgbmaaGreatDoorRows.lean that lists a variable, with what it lists TIED to the program's text (the seventh form; the later family's looks); each row that meets fmt, with fmt's text TOLD by the authors' own Lean function (tested against real Go, not proved from fmt's source: count such statements apart). THE CARD IS WHAT COUNTS. Prove the row's statement (the work); the ties are given (YtaclmhopcfgbmaaGreatDoorTie.lean); close each card by the builder's one call (the guide's Derived/Test/ToyasCard.lean, 'card_holds'). Laid BY PROGRAM, IN A SANDBOX (cutbox-door.mjs). By AI agents, Wed Nov 11 2026. No macro, syntax, notation, axiom, sorry.
-/
import Derived.Test.YtaclmhopcfgbmaaGreatDoorRows
import GoSem.ClaimSeven
namespace Go.Proofs.YtaclmhopcfgbmaaGreatDoor
namespace Rows

/-- THE TIED CARD OF 'rotuluslaw7.EscOsc'. -/
def escOscCard : Claim7 := { stood := { row := escOscRow, standIns := [], harness := (true, "c5ba00bd1220213946a65d9cbdac4b81fa181d08a20b9ba693b9584955d519e5"), looks := false }, kinds := [], alts := [], laidByText := true, laidKinds := [.data], laidTests := true, laidLooks := .later }
def EscOscCardSaid : Prop := Claim7.holds Tryz.pinned (.plain (OpenSpec.ofChange escOscSpec)) escOscCard

/-- THE TIED CARD OF 'rotuluslaw7.EscNumbers'. -/
def escNumbersCard : Claim7 := { stood := { row := escNumbersRow, standIns := [], harness := (true, "c5ba00bd1220213946a65d9cbdac4b81fa181d08a20b9ba693b9584955d519e5"), looks := false }, kinds := [], alts := [], laidByText := true, laidKinds := [.data], laidTests := true, laidLooks := .later }
def EscNumbersCardSaid : Prop := Claim7.holds Tryz.pinned (.plain (OpenSpec.ofChange escNumbersSpec)) escNumbersCard

/-- THE TIED CARD OF 'rotuluslaw7.RowAll'. -/
def rowAllCard : Claim7 := { stood := { row := rowAllRow, standIns := [], harness := (true, "c5ba00bd1220213946a65d9cbdac4b81fa181d08a20b9ba693b9584955d519e5"), looks := false }, kinds := [], alts := [], laidByText := true, laidKinds := [.data], laidTests := true, laidLooks := .later }
def RowAllCardSaid : Prop := Claim7.holds Tryz.pinned (.plain (OpenSpec.ofChange rowAllSpec)) rowAllCard

/-- THE TIED CARD OF 'rotuluslaw7.RowOwn'. -/
def rowOwnCard : Claim7 := { stood := { row := rowOwnRow, standIns := [], harness := (true, "c5ba00bd1220213946a65d9cbdac4b81fa181d08a20b9ba693b9584955d519e5"), looks := false }, kinds := [], alts := [], laidByText := true, laidKinds := [.data], laidTests := true, laidLooks := .later }
def RowOwnCardSaid : Prop := Claim7.holds Tryz.pinned (.plain (OpenSpec.ofChange rowOwnSpec)) rowOwnCard

/-- THE TIED CARD OF 'rotuluslaw7.RowSpan'. -/
def rowSpanCard : Claim7 := { stood := { row := rowSpanRow, standIns := [], harness := (true, "c5ba00bd1220213946a65d9cbdac4b81fa181d08a20b9ba693b9584955d519e5"), looks := false }, kinds := [], alts := [], laidByText := true, laidKinds := [.data], laidTests := true, laidLooks := .later }
def RowSpanCardSaid : Prop := Claim7.holds Tryz.pinned (.plain (OpenSpec.ofChange rowSpanSpec)) rowSpanCard

/-- THE TIED CARD OF 'rotuluslaw7.ScreenAll'. -/
def screenAllCard : Claim7 := { stood := { row := screenAllRow, standIns := [], harness := (true, "c5ba00bd1220213946a65d9cbdac4b81fa181d08a20b9ba693b9584955d519e5"), looks := false }, kinds := [], alts := [], laidByText := true, laidKinds := [.data], laidTests := true, laidLooks := .later }
def ScreenAllCardSaid : Prop := Claim7.holds Tryz.pinned (.plain (OpenSpec.ofChange screenAllSpec)) screenAllCard

/-- THE TIED CARD OF 'rotuluslaw7.ScreenOf'. -/
def screenOfCard : Claim7 := { stood := { row := screenOfRow, standIns := [], harness := (true, "c5ba00bd1220213946a65d9cbdac4b81fa181d08a20b9ba693b9584955d519e5"), looks := false }, kinds := [], alts := [], laidByText := true, laidKinds := [.data], laidTests := true, laidLooks := .later }
def ScreenOfCardSaid : Prop := Claim7.holds Tryz.pinned (.plain (OpenSpec.ofChange screenOfSpec)) screenOfCard

/-- THE TIED CARD OF 'rotuluslaw7.ScreenMay'. -/
def screenMayCard : Claim7 := { stood := { row := screenMayRow, standIns := [], harness := (true, "c5ba00bd1220213946a65d9cbdac4b81fa181d08a20b9ba693b9584955d519e5"), looks := false }, kinds := [], alts := [], laidByText := true, laidKinds := [.data], laidTests := true, laidLooks := .later }
def ScreenMayCardSaid : Prop := Claim7.holds Tryz.pinned (.plain (OpenSpec.ofChange screenMaySpec)) screenMayCard

/-- THE TIED CARD OF 'rotuluslaw7.ScreenOwn'. -/
def screenOwnCard : Claim7 := { stood := { row := screenOwnRow, standIns := [], harness := (true, "c5ba00bd1220213946a65d9cbdac4b81fa181d08a20b9ba693b9584955d519e5"), looks := false }, kinds := [], alts := [], laidByText := true, laidKinds := [.data], laidTests := true, laidLooks := .later }
def ScreenOwnCardSaid : Prop := Claim7.holds Tryz.pinned (.plain (OpenSpec.ofChange screenOwnSpec)) screenOwnCard

/-- THE TIED CARD OF 'rotuluslaw7.ScreenHome'. -/
def screenHomeCard : Claim7 := { stood := { row := screenHomeRow, standIns := [], harness := (true, "c5ba00bd1220213946a65d9cbdac4b81fa181d08a20b9ba693b9584955d519e5"), looks := false }, kinds := [], alts := [], laidByText := true, laidKinds := [.data], laidTests := true, laidLooks := .later }
def ScreenHomeCardSaid : Prop := Claim7.holds Tryz.pinned (.plain (OpenSpec.ofChange screenHomeSpec)) screenHomeCard

/-- THE TIED CARD OF 'rotuluslaw7.ScreenMoves'. -/
def screenMovesCard : Claim7 := { stood := { row := screenMovesRow, standIns := [], harness := (true, "c5ba00bd1220213946a65d9cbdac4b81fa181d08a20b9ba693b9584955d519e5"), looks := false }, kinds := [], alts := [], laidByText := true, laidKinds := [.data], laidTests := true, laidLooks := .later }
def ScreenMovesCardSaid : Prop := Claim7.holds Tryz.pinned (.plain (OpenSpec.ofChange screenMovesSpec)) screenMovesCard

/-- THE TIED CARD OF 'rotuluslaw7.ScreenErase'. -/
def screenEraseCard : Claim7 := { stood := { row := screenEraseRow, standIns := [], harness := (true, "c5ba00bd1220213946a65d9cbdac4b81fa181d08a20b9ba693b9584955d519e5"), looks := false }, kinds := [], alts := [], laidByText := true, laidKinds := [.data], laidTests := true, laidLooks := .later }
def ScreenEraseCardSaid : Prop := Claim7.holds Tryz.pinned (.plain (OpenSpec.ofChange screenEraseSpec)) screenEraseCard

/-- THE SECOND FORM's CARD OF 'rotuluslaw7.EscOsc'. -/
def escOscUptoCard : Claim7 := { stood := { row := escOscUptoRow, standIns := [], harness := (true, "c5ba00bd1220213946a65d9cbdac4b81fa181d08a20b9ba693b9584955d519e5"), looks := false }, kinds := [], alts := [], laidByText := true, laidKinds := [.data], laidTests := true, laidLooks := .later }
def EscOscUptoCardSaid : Prop := Claim7.holds Tryz.pinned (.plain (OpenSpec.upto escOscSpec)) escOscUptoCard

/-- THE SECOND FORM's CARD OF 'rotuluslaw7.EscNumbers'. -/
def escNumbersUptoCard : Claim7 := { stood := { row := escNumbersUptoRow, standIns := [], harness := (true, "c5ba00bd1220213946a65d9cbdac4b81fa181d08a20b9ba693b9584955d519e5"), looks := false }, kinds := [], alts := [], laidByText := true, laidKinds := [.data], laidTests := true, laidLooks := .later }
def EscNumbersUptoCardSaid : Prop := Claim7.holds Tryz.pinned (.plain (OpenSpec.upto escNumbersSpec)) escNumbersUptoCard

/-- THE SECOND FORM's CARD OF 'rotuluslaw7.RowAll'. -/
def rowAllUptoCard : Claim7 := { stood := { row := rowAllUptoRow, standIns := [], harness := (true, "c5ba00bd1220213946a65d9cbdac4b81fa181d08a20b9ba693b9584955d519e5"), looks := false }, kinds := [], alts := [], laidByText := true, laidKinds := [.data], laidTests := true, laidLooks := .later }
def RowAllUptoCardSaid : Prop := Claim7.holds Tryz.pinned (.plain (OpenSpec.upto rowAllSpec)) rowAllUptoCard

/-- THE SECOND FORM's CARD OF 'rotuluslaw7.RowOwn'. -/
def rowOwnUptoCard : Claim7 := { stood := { row := rowOwnUptoRow, standIns := [], harness := (true, "c5ba00bd1220213946a65d9cbdac4b81fa181d08a20b9ba693b9584955d519e5"), looks := false }, kinds := [], alts := [], laidByText := true, laidKinds := [.data], laidTests := true, laidLooks := .later }
def RowOwnUptoCardSaid : Prop := Claim7.holds Tryz.pinned (.plain (OpenSpec.upto rowOwnSpec)) rowOwnUptoCard

/-- THE SECOND FORM's CARD OF 'rotuluslaw7.RowSpan'. -/
def rowSpanUptoCard : Claim7 := { stood := { row := rowSpanUptoRow, standIns := [], harness := (true, "c5ba00bd1220213946a65d9cbdac4b81fa181d08a20b9ba693b9584955d519e5"), looks := false }, kinds := [], alts := [], laidByText := true, laidKinds := [.data], laidTests := true, laidLooks := .later }
def RowSpanUptoCardSaid : Prop := Claim7.holds Tryz.pinned (.plain (OpenSpec.upto rowSpanSpec)) rowSpanUptoCard

/-- THE SECOND FORM's CARD OF 'rotuluslaw7.ScreenAll'. -/
def screenAllUptoCard : Claim7 := { stood := { row := screenAllUptoRow, standIns := [], harness := (true, "c5ba00bd1220213946a65d9cbdac4b81fa181d08a20b9ba693b9584955d519e5"), looks := false }, kinds := [], alts := [], laidByText := true, laidKinds := [.data], laidTests := true, laidLooks := .later }
def ScreenAllUptoCardSaid : Prop := Claim7.holds Tryz.pinned (.plain (OpenSpec.upto screenAllSpec)) screenAllUptoCard

/-- THE SECOND FORM's CARD OF 'rotuluslaw7.ScreenOf'. -/
def screenOfUptoCard : Claim7 := { stood := { row := screenOfUptoRow, standIns := [], harness := (true, "c5ba00bd1220213946a65d9cbdac4b81fa181d08a20b9ba693b9584955d519e5"), looks := false }, kinds := [], alts := [], laidByText := true, laidKinds := [.data], laidTests := true, laidLooks := .later }
def ScreenOfUptoCardSaid : Prop := Claim7.holds Tryz.pinned (.plain (OpenSpec.upto screenOfSpec)) screenOfUptoCard

/-- THE SECOND FORM's CARD OF 'rotuluslaw7.ScreenMay'. -/
def screenMayUptoCard : Claim7 := { stood := { row := screenMayUptoRow, standIns := [], harness := (true, "c5ba00bd1220213946a65d9cbdac4b81fa181d08a20b9ba693b9584955d519e5"), looks := false }, kinds := [], alts := [], laidByText := true, laidKinds := [.data], laidTests := true, laidLooks := .later }
def ScreenMayUptoCardSaid : Prop := Claim7.holds Tryz.pinned (.plain (OpenSpec.upto screenMaySpec)) screenMayUptoCard

/-- THE SECOND FORM's CARD OF 'rotuluslaw7.ScreenOwn'. -/
def screenOwnUptoCard : Claim7 := { stood := { row := screenOwnUptoRow, standIns := [], harness := (true, "c5ba00bd1220213946a65d9cbdac4b81fa181d08a20b9ba693b9584955d519e5"), looks := false }, kinds := [], alts := [], laidByText := true, laidKinds := [.data], laidTests := true, laidLooks := .later }
def ScreenOwnUptoCardSaid : Prop := Claim7.holds Tryz.pinned (.plain (OpenSpec.upto screenOwnSpec)) screenOwnUptoCard

/-- THE SECOND FORM's CARD OF 'rotuluslaw7.ScreenHome'. -/
def screenHomeUptoCard : Claim7 := { stood := { row := screenHomeUptoRow, standIns := [], harness := (true, "c5ba00bd1220213946a65d9cbdac4b81fa181d08a20b9ba693b9584955d519e5"), looks := false }, kinds := [], alts := [], laidByText := true, laidKinds := [.data], laidTests := true, laidLooks := .later }
def ScreenHomeUptoCardSaid : Prop := Claim7.holds Tryz.pinned (.plain (OpenSpec.upto screenHomeSpec)) screenHomeUptoCard

/-- THE SECOND FORM's CARD OF 'rotuluslaw7.ScreenMoves'. -/
def screenMovesUptoCard : Claim7 := { stood := { row := screenMovesUptoRow, standIns := [], harness := (true, "c5ba00bd1220213946a65d9cbdac4b81fa181d08a20b9ba693b9584955d519e5"), looks := false }, kinds := [], alts := [], laidByText := true, laidKinds := [.data], laidTests := true, laidLooks := .later }
def ScreenMovesUptoCardSaid : Prop := Claim7.holds Tryz.pinned (.plain (OpenSpec.upto screenMovesSpec)) screenMovesUptoCard

/-- THE SECOND FORM's CARD OF 'rotuluslaw7.ScreenErase'. -/
def screenEraseUptoCard : Claim7 := { stood := { row := screenEraseUptoRow, standIns := [], harness := (true, "c5ba00bd1220213946a65d9cbdac4b81fa181d08a20b9ba693b9584955d519e5"), looks := false }, kinds := [], alts := [], laidByText := true, laidKinds := [.data], laidTests := true, laidLooks := .later }
def ScreenEraseUptoCardSaid : Prop := Claim7.holds Tryz.pinned (.plain (OpenSpec.upto screenEraseSpec)) screenEraseUptoCard
end Rows
end Go.Proofs.YtaclmhopcfgbmaaGreatDoor
