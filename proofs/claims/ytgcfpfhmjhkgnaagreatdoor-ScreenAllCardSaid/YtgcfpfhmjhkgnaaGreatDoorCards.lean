/-
  DERIVED. GIVEN WITH THE SEED: THE CARDS: each row of YtgcfpfhmjhkgnaaGreatDoorRows.lean that lists a variable, with what it lists TIED to the program's text (the seventh form; the later family's looks); each row that meets fmt, with fmt's text TOLD by the authors' own Lean function (tested against real Go, not proved from fmt's source: count such statements apart). THE CARD IS WHAT COUNTS. Prove the row's statement (the work); the ties are given (YtgcfpfhmjhkgnaaGreatDoorTie.lean); close each card by the builder's one call (the guide's Derived/Test/ToyasCard.lean, 'card_holds'). Laid BY PROGRAM, IN A SANDBOX (cutbox-door.mjs). By AI agents, Wed Nov 11 2026. No macro, syntax, notation, axiom, sorry.
-/
import Derived.Test.YtgcfpfhmjhkgnaaGreatDoorRows
import GoSem.ClaimSeven
namespace Go.Proofs.YtgcfpfhmjhkgnaaGreatDoor
namespace Rows

/-- THE TIED CARD OF 'rotuluslaw7.RowOwn'. -/
def rowOwnCard : Claim7 := { stood := { row := rowOwnRow, standIns := [], harness := (true, "b1a32c7dc26ed4856bdee5a8657537dc9a36a4cd254adad440964498d6e58c21"), looks := false }, kinds := [], alts := [], laidByText := true, laidKinds := [.data], laidTests := true, laidLooks := .later }
def RowOwnCardSaid : Prop := Claim7.holds Tryz.pinned (.plain (OpenSpec.ofChange rowOwnSpec)) rowOwnCard

/-- THE TIED CARD OF 'rotuluslaw7.ScreenAll'. -/
def screenAllCard : Claim7 := { stood := { row := screenAllRow, standIns := [], harness := (true, "b1a32c7dc26ed4856bdee5a8657537dc9a36a4cd254adad440964498d6e58c21"), looks := false }, kinds := [], alts := [], laidByText := true, laidKinds := [.data], laidTests := true, laidLooks := .later }
def ScreenAllCardSaid : Prop := Claim7.holds Tryz.pinned (.plain (OpenSpec.ofChange screenAllSpec)) screenAllCard

/-- THE TIED CARD OF 'rotuluslaw7.ScreenOf'. -/
def screenOfCard : Claim7 := { stood := { row := screenOfRow, standIns := [], harness := (true, "b1a32c7dc26ed4856bdee5a8657537dc9a36a4cd254adad440964498d6e58c21"), looks := false }, kinds := [], alts := [], laidByText := true, laidKinds := [.data], laidTests := true, laidLooks := .later }
def ScreenOfCardSaid : Prop := Claim7.holds Tryz.pinned (.plain (OpenSpec.ofChange screenOfSpec)) screenOfCard

/-- THE TIED CARD OF 'rotuluslaw7.ScreenOwn'. -/
def screenOwnCard : Claim7 := { stood := { row := screenOwnRow, standIns := [], harness := (true, "b1a32c7dc26ed4856bdee5a8657537dc9a36a4cd254adad440964498d6e58c21"), looks := false }, kinds := [], alts := [], laidByText := true, laidKinds := [.data], laidTests := true, laidLooks := .later }
def ScreenOwnCardSaid : Prop := Claim7.holds Tryz.pinned (.plain (OpenSpec.ofChange screenOwnSpec)) screenOwnCard

/-- THE SECOND FORM's CARD OF 'rotuluslaw7.RowOwn'. -/
def rowOwnUptoCard : Claim7 := { stood := { row := rowOwnUptoRow, standIns := [], harness := (true, "b1a32c7dc26ed4856bdee5a8657537dc9a36a4cd254adad440964498d6e58c21"), looks := false }, kinds := [], alts := [], laidByText := true, laidKinds := [.data], laidTests := true, laidLooks := .later }
def RowOwnUptoCardSaid : Prop := Claim7.holds Tryz.pinned (.plain (OpenSpec.upto rowOwnSpec)) rowOwnUptoCard

/-- THE SECOND FORM's CARD OF 'rotuluslaw7.ScreenAll'. -/
def screenAllUptoCard : Claim7 := { stood := { row := screenAllUptoRow, standIns := [], harness := (true, "b1a32c7dc26ed4856bdee5a8657537dc9a36a4cd254adad440964498d6e58c21"), looks := false }, kinds := [], alts := [], laidByText := true, laidKinds := [.data], laidTests := true, laidLooks := .later }
def ScreenAllUptoCardSaid : Prop := Claim7.holds Tryz.pinned (.plain (OpenSpec.upto screenAllSpec)) screenAllUptoCard

/-- THE SECOND FORM's CARD OF 'rotuluslaw7.ScreenOf'. -/
def screenOfUptoCard : Claim7 := { stood := { row := screenOfUptoRow, standIns := [], harness := (true, "b1a32c7dc26ed4856bdee5a8657537dc9a36a4cd254adad440964498d6e58c21"), looks := false }, kinds := [], alts := [], laidByText := true, laidKinds := [.data], laidTests := true, laidLooks := .later }
def ScreenOfUptoCardSaid : Prop := Claim7.holds Tryz.pinned (.plain (OpenSpec.upto screenOfSpec)) screenOfUptoCard

/-- THE SECOND FORM's CARD OF 'rotuluslaw7.ScreenOwn'. -/
def screenOwnUptoCard : Claim7 := { stood := { row := screenOwnUptoRow, standIns := [], harness := (true, "b1a32c7dc26ed4856bdee5a8657537dc9a36a4cd254adad440964498d6e58c21"), looks := false }, kinds := [], alts := [], laidByText := true, laidKinds := [.data], laidTests := true, laidLooks := .later }
def ScreenOwnUptoCardSaid : Prop := Claim7.holds Tryz.pinned (.plain (OpenSpec.upto screenOwnSpec)) screenOwnUptoCard
end Rows
end Go.Proofs.YtgcfpfhmjhkgnaaGreatDoor
