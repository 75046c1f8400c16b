/-
  DERIVED. GIVEN WITH THE SEED: THE CARDS: each row of YtbmldpodcipncabGreatDoorRows.lean that lists a variable, with what it lists TIED to the program's text (the seventh form; the later family's looks); each row that meets fmt, with fmt's text TOLD by the authors' own Lean function (tested against real Go, not proved from fmt's source: count such statements apart). THE CARD IS WHAT COUNTS. Prove the row's statement (the work); the ties are given (YtbmldpodcipncabGreatDoorTie.lean); close each card by the builder's one call (the guide's Derived/Test/ToyasCard.lean, 'card_holds'). Laid BY PROGRAM, IN A SANDBOX (cutbox-door.mjs). By AI agents, Wed Nov 11 2026. No macro, syntax, notation, axiom, sorry.
-/
import Derived.Test.YtbmldpodcipncabGreatDoorRows
import GoSem.ClaimSeven
namespace Go.Proofs.YtbmldpodcipncabGreatDoor
namespace Rows

/-- THE TIED CARD OF 'rotuluslaw16.FindAll'. -/
def findAllCard : Claim7 := { stood := { row := findAllRow, standIns := [], harness := (true, "b7447baf0b8f960cb3817ec0c5c180c5a3860a6389a747e129619de31e785cc6"), looks := false }, kinds := [], alts := [], laidByText := true, laidKinds := [.data], laidTests := true, laidLooks := .later }
def FindAllCardSaid : Prop := Claim7.holds Tryz.pinned (.plain (OpenSpec.ofChange findAllSpec)) findAllCard

/-- THE TIED CARD OF 'rotuluslaw16.FindCount'. -/
def findCountCard : Claim7 := { stood := { row := findCountRow, standIns := [], harness := (true, "b7447baf0b8f960cb3817ec0c5c180c5a3860a6389a747e129619de31e785cc6"), looks := false }, kinds := [], alts := [], laidByText := true, laidKinds := [.data], laidTests := true, laidLooks := .later }
def FindCountCardSaid : Prop := Claim7.holds Tryz.pinned (.plain (OpenSpec.ofChange findCountSpec)) findCountCard

/-- THE TIED CARD OF 'rotuluslaw16.FindAnchors'. -/
def findAnchorsCard : Claim7 := { stood := { row := findAnchorsRow, standIns := [], harness := (true, "b7447baf0b8f960cb3817ec0c5c180c5a3860a6389a747e129619de31e785cc6"), looks := false }, kinds := [], alts := [], laidByText := true, laidKinds := [.data], laidTests := true, laidLooks := .later }
def FindAnchorsCardSaid : Prop := Claim7.holds Tryz.pinned (.plain (OpenSpec.ofChange findAnchorsSpec)) findAnchorsCard

/-- THE TIED CARD OF 'rotuluslaw16.SearchNone'. -/
def searchNoneCard : Claim7 := { stood := { row := searchNoneRow, standIns := [], harness := (true, "b7447baf0b8f960cb3817ec0c5c180c5a3860a6389a747e129619de31e785cc6"), looks := false }, kinds := [], alts := [], laidByText := true, laidKinds := [.data], laidTests := true, laidLooks := .later }
def SearchNoneCardSaid : Prop := Claim7.holds Tryz.pinned (.plain (OpenSpec.ofChange searchNoneSpec)) searchNoneCard

/-- THE SECOND FORM's CARD OF 'rotuluslaw16.FindAll'. -/
def findAllUptoCard : Claim7 := { stood := { row := findAllUptoRow, standIns := [], harness := (true, "b7447baf0b8f960cb3817ec0c5c180c5a3860a6389a747e129619de31e785cc6"), looks := false }, kinds := [], alts := [], laidByText := true, laidKinds := [.data], laidTests := true, laidLooks := .later }
def FindAllUptoCardSaid : Prop := Claim7.holds Tryz.pinned (.plain (OpenSpec.upto findAllSpec)) findAllUptoCard

/-- THE SECOND FORM's CARD OF 'rotuluslaw16.FindCount'. -/
def findCountUptoCard : Claim7 := { stood := { row := findCountUptoRow, standIns := [], harness := (true, "b7447baf0b8f960cb3817ec0c5c180c5a3860a6389a747e129619de31e785cc6"), looks := false }, kinds := [], alts := [], laidByText := true, laidKinds := [.data], laidTests := true, laidLooks := .later }
def FindCountUptoCardSaid : Prop := Claim7.holds Tryz.pinned (.plain (OpenSpec.upto findCountSpec)) findCountUptoCard

/-- THE SECOND FORM's CARD OF 'rotuluslaw16.FindAnchors'. -/
def findAnchorsUptoCard : Claim7 := { stood := { row := findAnchorsUptoRow, standIns := [], harness := (true, "b7447baf0b8f960cb3817ec0c5c180c5a3860a6389a747e129619de31e785cc6"), looks := false }, kinds := [], alts := [], laidByText := true, laidKinds := [.data], laidTests := true, laidLooks := .later }
def FindAnchorsUptoCardSaid : Prop := Claim7.holds Tryz.pinned (.plain (OpenSpec.upto findAnchorsSpec)) findAnchorsUptoCard

/-- THE SECOND FORM's CARD OF 'rotuluslaw16.SearchNone'. -/
def searchNoneUptoCard : Claim7 := { stood := { row := searchNoneUptoRow, standIns := [], harness := (true, "b7447baf0b8f960cb3817ec0c5c180c5a3860a6389a747e129619de31e785cc6"), looks := false }, kinds := [], alts := [], laidByText := true, laidKinds := [.data], laidTests := true, laidLooks := .later }
def SearchNoneUptoCardSaid : Prop := Claim7.holds Tryz.pinned (.plain (OpenSpec.upto searchNoneSpec)) searchNoneUptoCard
end Rows
end Go.Proofs.YtbmldpodcipncabGreatDoor
