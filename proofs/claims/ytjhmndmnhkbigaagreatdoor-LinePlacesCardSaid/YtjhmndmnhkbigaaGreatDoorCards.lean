/-
  DERIVED. GIVEN WITH THE SEED: THE CARDS: each row of YtjhmndmnhkbigaaGreatDoorRows.lean that lists a variable, with what it lists TIED to the program's text (the seventh form; the later family's looks); each row that meets fmt, with fmt's text TOLD by the authors' own Lean function (tested against real Go, not proved from fmt's source: count such statements apart). THE CARD IS WHAT COUNTS. Prove the row's statement (the work); the ties are given (YtjhmndmnhkbigaaGreatDoorTie.lean); close each card by the builder's one call (the guide's Derived/Test/ToyasCard.lean, 'card_holds'). Laid BY PROGRAM, IN A SANDBOX (cutbox-door.mjs). By AI agents, Wed Nov 11 2026. No macro, syntax, notation, axiom, sorry.
-/
import Derived.Test.YtjhmndmnhkbigaaGreatDoorRows
import GoSem.ClaimSeven
namespace Go.Proofs.YtjhmndmnhkbigaaGreatDoor
namespace Rows

/-- THE TIED CARD OF 'rotuluslaw10.LineAll'. -/
def lineAllCard : Claim7 := { stood := { row := lineAllRow, standIns := [], harness := (true, "495d4cd88cffd54959e8e5ee2e003b99e3e766559cb60d1e20fcb86536dcda14"), looks := false }, kinds := [], alts := [], laidByText := true, laidKinds := [.data], laidTests := true, laidLooks := .later }
def LineAllCardSaid : Prop := Claim7.holds Tryz.pinned (.plain (OpenSpec.ofChange lineAllSpec)) lineAllCard

/-- THE TIED CARD OF 'rotuluslaw10.LineEach'. -/
def lineEachCard : Claim7 := { stood := { row := lineEachRow, standIns := [], harness := (true, "495d4cd88cffd54959e8e5ee2e003b99e3e766559cb60d1e20fcb86536dcda14"), looks := false }, kinds := [], alts := [], laidByText := true, laidKinds := [.data], laidTests := true, laidLooks := .later }
def LineEachCardSaid : Prop := Claim7.holds Tryz.pinned (.plain (OpenSpec.ofChange lineEachSpec)) lineEachCard

/-- THE TIED CARD OF 'rotuluslaw10.LineBack'. -/
def lineBackCard : Claim7 := { stood := { row := lineBackRow, standIns := [], harness := (true, "495d4cd88cffd54959e8e5ee2e003b99e3e766559cb60d1e20fcb86536dcda14"), looks := false }, kinds := [], alts := [], laidByText := true, laidKinds := [.data], laidTests := true, laidLooks := .later }
def LineBackCardSaid : Prop := Claim7.holds Tryz.pinned (.plain (OpenSpec.ofChange lineBackSpec)) lineBackCard

/-- THE TIED CARD OF 'rotuluslaw10.LinePlaces'. -/
def linePlacesCard : Claim7 := { stood := { row := linePlacesRow, standIns := [], harness := (true, "495d4cd88cffd54959e8e5ee2e003b99e3e766559cb60d1e20fcb86536dcda14"), looks := false }, kinds := [], alts := [], laidByText := true, laidKinds := [.data], laidTests := true, laidLooks := .later }
def LinePlacesCardSaid : Prop := Claim7.holds Tryz.pinned (.plain (OpenSpec.ofChange linePlacesSpec)) linePlacesCard

/-- THE TIED CARD OF 'rotuluslaw10.LineRows'. -/
def lineRowsCard : Claim7 := { stood := { row := lineRowsRow, standIns := [], harness := (true, "495d4cd88cffd54959e8e5ee2e003b99e3e766559cb60d1e20fcb86536dcda14"), looks := false }, kinds := [], alts := [], laidByText := true, laidKinds := [.data], laidTests := true, laidLooks := .later }
def LineRowsCardSaid : Prop := Claim7.holds Tryz.pinned (.plain (OpenSpec.ofChange lineRowsSpec)) lineRowsCard

/-- THE TIED CARD OF 'rotuluslaw10.LineEnds'. -/
def lineEndsCard : Claim7 := { stood := { row := lineEndsRow, standIns := [], harness := (true, "495d4cd88cffd54959e8e5ee2e003b99e3e766559cb60d1e20fcb86536dcda14"), looks := false }, kinds := [], alts := [], laidByText := true, laidKinds := [.data], laidTests := true, laidLooks := .later }
def LineEndsCardSaid : Prop := Claim7.holds Tryz.pinned (.plain (OpenSpec.ofChange lineEndsSpec)) lineEndsCard

/-- THE TIED CARD OF 'rotuluslaw10.ReflowSame'. -/
def reflowSameCard : Claim7 := { stood := { row := reflowSameRow, standIns := [], harness := (true, "495d4cd88cffd54959e8e5ee2e003b99e3e766559cb60d1e20fcb86536dcda14"), looks := false }, kinds := [], alts := [], laidByText := true, laidKinds := [.data], laidTests := true, laidLooks := .later }
def ReflowSameCardSaid : Prop := Claim7.holds Tryz.pinned (.plain (OpenSpec.ofChange reflowSameSpec)) reflowSameCard

/-- THE SECOND FORM's CARD OF 'rotuluslaw10.LineAll'. -/
def lineAllUptoCard : Claim7 := { stood := { row := lineAllUptoRow, standIns := [], harness := (true, "495d4cd88cffd54959e8e5ee2e003b99e3e766559cb60d1e20fcb86536dcda14"), looks := false }, kinds := [], alts := [], laidByText := true, laidKinds := [.data], laidTests := true, laidLooks := .later }
def LineAllUptoCardSaid : Prop := Claim7.holds Tryz.pinned (.plain (OpenSpec.upto lineAllSpec)) lineAllUptoCard

/-- THE SECOND FORM's CARD OF 'rotuluslaw10.LineEach'. -/
def lineEachUptoCard : Claim7 := { stood := { row := lineEachUptoRow, standIns := [], harness := (true, "495d4cd88cffd54959e8e5ee2e003b99e3e766559cb60d1e20fcb86536dcda14"), looks := false }, kinds := [], alts := [], laidByText := true, laidKinds := [.data], laidTests := true, laidLooks := .later }
def LineEachUptoCardSaid : Prop := Claim7.holds Tryz.pinned (.plain (OpenSpec.upto lineEachSpec)) lineEachUptoCard

/-- THE SECOND FORM's CARD OF 'rotuluslaw10.LineBack'. -/
def lineBackUptoCard : Claim7 := { stood := { row := lineBackUptoRow, standIns := [], harness := (true, "495d4cd88cffd54959e8e5ee2e003b99e3e766559cb60d1e20fcb86536dcda14"), looks := false }, kinds := [], alts := [], laidByText := true, laidKinds := [.data], laidTests := true, laidLooks := .later }
def LineBackUptoCardSaid : Prop := Claim7.holds Tryz.pinned (.plain (OpenSpec.upto lineBackSpec)) lineBackUptoCard

/-- THE SECOND FORM's CARD OF 'rotuluslaw10.LinePlaces'. -/
def linePlacesUptoCard : Claim7 := { stood := { row := linePlacesUptoRow, standIns := [], harness := (true, "495d4cd88cffd54959e8e5ee2e003b99e3e766559cb60d1e20fcb86536dcda14"), looks := false }, kinds := [], alts := [], laidByText := true, laidKinds := [.data], laidTests := true, laidLooks := .later }
def LinePlacesUptoCardSaid : Prop := Claim7.holds Tryz.pinned (.plain (OpenSpec.upto linePlacesSpec)) linePlacesUptoCard

/-- THE SECOND FORM's CARD OF 'rotuluslaw10.LineRows'. -/
def lineRowsUptoCard : Claim7 := { stood := { row := lineRowsUptoRow, standIns := [], harness := (true, "495d4cd88cffd54959e8e5ee2e003b99e3e766559cb60d1e20fcb86536dcda14"), looks := false }, kinds := [], alts := [], laidByText := true, laidKinds := [.data], laidTests := true, laidLooks := .later }
def LineRowsUptoCardSaid : Prop := Claim7.holds Tryz.pinned (.plain (OpenSpec.upto lineRowsSpec)) lineRowsUptoCard

/-- THE SECOND FORM's CARD OF 'rotuluslaw10.LineEnds'. -/
def lineEndsUptoCard : Claim7 := { stood := { row := lineEndsUptoRow, standIns := [], harness := (true, "495d4cd88cffd54959e8e5ee2e003b99e3e766559cb60d1e20fcb86536dcda14"), looks := false }, kinds := [], alts := [], laidByText := true, laidKinds := [.data], laidTests := true, laidLooks := .later }
def LineEndsUptoCardSaid : Prop := Claim7.holds Tryz.pinned (.plain (OpenSpec.upto lineEndsSpec)) lineEndsUptoCard

/-- THE SECOND FORM's CARD OF 'rotuluslaw10.ReflowSame'. -/
def reflowSameUptoCard : Claim7 := { stood := { row := reflowSameUptoRow, standIns := [], harness := (true, "495d4cd88cffd54959e8e5ee2e003b99e3e766559cb60d1e20fcb86536dcda14"), looks := false }, kinds := [], alts := [], laidByText := true, laidKinds := [.data], laidTests := true, laidLooks := .later }
def ReflowSameUptoCardSaid : Prop := Claim7.holds Tryz.pinned (.plain (OpenSpec.upto reflowSameSpec)) reflowSameUptoCard
end Rows
end Go.Proofs.YtjhmndmnhkbigaaGreatDoor
