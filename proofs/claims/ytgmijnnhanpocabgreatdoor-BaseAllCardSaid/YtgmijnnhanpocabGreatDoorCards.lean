/-
  DERIVED. GIVEN WITH THE SEED: THE CARDS: each row of YtgmijnnhanpocabGreatDoorRows.lean that lists a variable, with what it lists TIED to the program's text (the seventh form; the later family's looks); each row that meets fmt, with fmt's text TOLD by the authors' own Lean function (tested against real Go, not proved from fmt's source: count such statements apart). THE CARD IS WHAT COUNTS. Prove the row's statement (the work); the ties are given (YtgmijnnhanpocabGreatDoorTie.lean); close each card by the builder's one call (the guide's Derived/Test/ToyasCard.lean, 'card_holds'). Laid BY PROGRAM, IN A SANDBOX (cutbox-door.mjs). By AI agents, Wed Nov 11 2026. No macro, syntax, notation, axiom, sorry.
-/
import Derived.Test.YtgmijnnhanpocabGreatDoorRows
import GoSem.ClaimSeven
namespace Go.Proofs.YtgmijnnhanpocabGreatDoor
namespace Rows

/-- THE TIED CARD OF 'rotuluslaw14.BaseAll'. -/
def baseAllCard : Claim7 := { stood := { row := baseAllRow, standIns := [], harness := (true, "335784c505c0ab4c0b18c9c6a355eb9894eecfbd94754f36ba191582bf44f964"), looks := false }, kinds := [], alts := [], laidByText := true, laidKinds := [.data], laidTests := true, laidLooks := .later }
def BaseAllCardSaid : Prop := Claim7.holds Tryz.pinned (.plain (OpenSpec.ofChange baseAllSpec)) baseAllCard

/-- THE TIED CARD OF 'rotuluslaw14.BaseTurn'. -/
def baseTurnCard : Claim7 := { stood := { row := baseTurnRow, standIns := [], harness := (true, "335784c505c0ab4c0b18c9c6a355eb9894eecfbd94754f36ba191582bf44f964"), looks := false }, kinds := [], alts := [], laidByText := true, laidKinds := [.data], laidTests := true, laidLooks := .later }
def BaseTurnCardSaid : Prop := Claim7.holds Tryz.pinned (.plain (OpenSpec.ofChange baseTurnSpec)) baseTurnCard

/-- THE TIED CARD OF 'rotuluslaw14.BaseLen'. -/
def baseLenCard : Claim7 := { stood := { row := baseLenRow, standIns := [], harness := (true, "335784c505c0ab4c0b18c9c6a355eb9894eecfbd94754f36ba191582bf44f964"), looks := false }, kinds := [], alts := [], laidByText := true, laidKinds := [.data], laidTests := true, laidLooks := .later }
def BaseLenCardSaid : Prop := Claim7.holds Tryz.pinned (.plain (OpenSpec.ofChange baseLenSpec)) baseLenCard

/-- THE TIED CARD OF 'rotuluslaw14.NfaNone'. -/
def nfaNoneCard : Claim7 := { stood := { row := nfaNoneRow, standIns := [], harness := (true, "335784c505c0ab4c0b18c9c6a355eb9894eecfbd94754f36ba191582bf44f964"), looks := false }, kinds := [], alts := [], laidByText := true, laidKinds := [.data], laidTests := true, laidLooks := .later }
def NfaNoneCardSaid : Prop := Claim7.holds Tryz.pinned (.plain (OpenSpec.ofChange nfaNoneSpec)) nfaNoneCard

/-- THE TIED CARD OF 'rotuluslaw14.BaseOrder'. -/
def baseOrderCard : Claim7 := { stood := { row := baseOrderRow, standIns := [], harness := (true, "335784c505c0ab4c0b18c9c6a355eb9894eecfbd94754f36ba191582bf44f964"), looks := false }, kinds := [], alts := [], laidByText := true, laidKinds := [.data], laidTests := true, laidLooks := .later }
def BaseOrderCardSaid : Prop := Claim7.holds Tryz.pinned (.plain (OpenSpec.ofChange baseOrderSpec)) baseOrderCard

/-- THE SECOND FORM's CARD OF 'rotuluslaw14.BaseAll'. -/
def baseAllUptoCard : Claim7 := { stood := { row := baseAllUptoRow, standIns := [], harness := (true, "335784c505c0ab4c0b18c9c6a355eb9894eecfbd94754f36ba191582bf44f964"), looks := false }, kinds := [], alts := [], laidByText := true, laidKinds := [.data], laidTests := true, laidLooks := .later }
def BaseAllUptoCardSaid : Prop := Claim7.holds Tryz.pinned (.plain (OpenSpec.upto baseAllSpec)) baseAllUptoCard

/-- THE SECOND FORM's CARD OF 'rotuluslaw14.BaseTurn'. -/
def baseTurnUptoCard : Claim7 := { stood := { row := baseTurnUptoRow, standIns := [], harness := (true, "335784c505c0ab4c0b18c9c6a355eb9894eecfbd94754f36ba191582bf44f964"), looks := false }, kinds := [], alts := [], laidByText := true, laidKinds := [.data], laidTests := true, laidLooks := .later }
def BaseTurnUptoCardSaid : Prop := Claim7.holds Tryz.pinned (.plain (OpenSpec.upto baseTurnSpec)) baseTurnUptoCard

/-- THE SECOND FORM's CARD OF 'rotuluslaw14.BaseLen'. -/
def baseLenUptoCard : Claim7 := { stood := { row := baseLenUptoRow, standIns := [], harness := (true, "335784c505c0ab4c0b18c9c6a355eb9894eecfbd94754f36ba191582bf44f964"), looks := false }, kinds := [], alts := [], laidByText := true, laidKinds := [.data], laidTests := true, laidLooks := .later }
def BaseLenUptoCardSaid : Prop := Claim7.holds Tryz.pinned (.plain (OpenSpec.upto baseLenSpec)) baseLenUptoCard

/-- THE SECOND FORM's CARD OF 'rotuluslaw14.NfaNone'. -/
def nfaNoneUptoCard : Claim7 := { stood := { row := nfaNoneUptoRow, standIns := [], harness := (true, "335784c505c0ab4c0b18c9c6a355eb9894eecfbd94754f36ba191582bf44f964"), looks := false }, kinds := [], alts := [], laidByText := true, laidKinds := [.data], laidTests := true, laidLooks := .later }
def NfaNoneUptoCardSaid : Prop := Claim7.holds Tryz.pinned (.plain (OpenSpec.upto nfaNoneSpec)) nfaNoneUptoCard

/-- THE SECOND FORM's CARD OF 'rotuluslaw14.BaseOrder'. -/
def baseOrderUptoCard : Claim7 := { stood := { row := baseOrderUptoRow, standIns := [], harness := (true, "335784c505c0ab4c0b18c9c6a355eb9894eecfbd94754f36ba191582bf44f964"), looks := false }, kinds := [], alts := [], laidByText := true, laidKinds := [.data], laidTests := true, laidLooks := .later }
def BaseOrderUptoCardSaid : Prop := Claim7.holds Tryz.pinned (.plain (OpenSpec.upto baseOrderSpec)) baseOrderUptoCard
end Rows
end Go.Proofs.YtgmijnnhanpocabGreatDoor
