/-
  DERIVED. GIVEN WITH THE SEED: THE CARDS: each row of YtbhfhkmcnomggabDoorRows.lean that lists a variable, with what it lists TIED to the program's text (the seventh form; the later family's looks); each row that meets fmt, with fmt's text TOLD by the authors' own Lean function (tested against real Go, not proved from fmt's source: count such statements apart). THE CARD IS WHAT COUNTS. Prove the row's statement (the work); the ties are given (YtbhfhkmcnomggabDoorTie.lean); close each card by the builder's one call (the guide's Derived/Test/ToyasCard.lean, 'card_holds'). Laid BY PROGRAM, IN A SANDBOX (cutbox-door.mjs). By AI agents, Wed Nov 11 2026. No macro, syntax, notation, axiom, sorry.
-/
import Derived.Test.YtbhfhkmcnomggabDoorRows
import GoSem.ClaimSeven
namespace Go.Proofs.YtbhfhkmcnomggabDoor
namespace Rows

/-- THE TIED CARD OF 'rotuluslaw1.WidthText'. -/
def widthTextCard : Claim7 := { stood := { row := widthTextRow, standIns := [], harness := (true, "16d3576607290b7c94ad63da824e3d09a6b18fc908a5022f77d7422fc15571f8"), looks := false }, kinds := [], alts := [], laidByText := true, laidKinds := [.data], laidTests := true, laidLooks := .later }
def WidthTextCardSaid : Prop := Claim7.holds Tryd.pinned (.plain (OpenSpec.ofChange widthTextSpec)) widthTextCard

/-- THE TIED CARD OF 'rotuluslaw1.CellWide'. -/
def cellWideCard : Claim7 := { stood := { row := cellWideRow, standIns := [], harness := (true, "16d3576607290b7c94ad63da824e3d09a6b18fc908a5022f77d7422fc15571f8"), looks := false }, kinds := [], alts := [], laidByText := true, laidKinds := [.data], laidTests := true, laidLooks := .later }
def CellWideCardSaid : Prop := Claim7.holds Tryd.pinned (.plain (OpenSpec.ofChange cellWideSpec)) cellWideCard

/-- THE TIED CARD OF 'rotuluslaw1.CellTrim'. -/
def cellTrimCard : Claim7 := { stood := { row := cellTrimRow, standIns := [], harness := (true, "16d3576607290b7c94ad63da824e3d09a6b18fc908a5022f77d7422fc15571f8"), looks := false }, kinds := [], alts := [], laidByText := true, laidKinds := [.data], laidTests := true, laidLooks := .later }
def CellTrimCardSaid : Prop := Claim7.holds Tryd.pinned (.plain (OpenSpec.ofChange cellTrimSpec)) cellTrimCard

/-- THE SECOND FORM's CARD OF 'rotuluslaw1.WidthText'. -/
def widthTextUptoCard : Claim7 := { stood := { row := widthTextUptoRow, standIns := [], harness := (true, "16d3576607290b7c94ad63da824e3d09a6b18fc908a5022f77d7422fc15571f8"), looks := false }, kinds := [], alts := [], laidByText := true, laidKinds := [.data], laidTests := true, laidLooks := .later }
def WidthTextUptoCardSaid : Prop := Claim7.holds Tryd.pinned (.plain (OpenSpec.upto widthTextSpec)) widthTextUptoCard

/-- THE SECOND FORM's CARD OF 'rotuluslaw1.CellWide'. -/
def cellWideUptoCard : Claim7 := { stood := { row := cellWideUptoRow, standIns := [], harness := (true, "16d3576607290b7c94ad63da824e3d09a6b18fc908a5022f77d7422fc15571f8"), looks := false }, kinds := [], alts := [], laidByText := true, laidKinds := [.data], laidTests := true, laidLooks := .later }
def CellWideUptoCardSaid : Prop := Claim7.holds Tryd.pinned (.plain (OpenSpec.upto cellWideSpec)) cellWideUptoCard

/-- THE SECOND FORM's CARD OF 'rotuluslaw1.CellTrim'. -/
def cellTrimUptoCard : Claim7 := { stood := { row := cellTrimUptoRow, standIns := [], harness := (true, "16d3576607290b7c94ad63da824e3d09a6b18fc908a5022f77d7422fc15571f8"), looks := false }, kinds := [], alts := [], laidByText := true, laidKinds := [.data], laidTests := true, laidLooks := .later }
def CellTrimUptoCardSaid : Prop := Claim7.holds Tryd.pinned (.plain (OpenSpec.upto cellTrimSpec)) cellTrimUptoCard
end Rows
end Go.Proofs.YtbhfhkmcnomggabDoor
