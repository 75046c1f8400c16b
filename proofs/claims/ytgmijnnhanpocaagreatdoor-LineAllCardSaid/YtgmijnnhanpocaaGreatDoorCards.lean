/-
  DERIVED. GIVEN WITH THE SEED: THE CARDS: each row of YtgmijnnhanpocaaGreatDoorRows.lean that lists a variable, with what it lists TIED to the program's text (the seventh form; the later family's looks); each row that meets fmt, with fmt's text TOLD by the authors' own Lean function (tested against real Go, not proved from fmt's source: count such statements apart). THE CARD IS WHAT COUNTS. Prove the row's statement (the work); the ties are given (YtgmijnnhanpocaaGreatDoorTie.lean); close each card by the builder's one call (the guide's Derived/Test/ToyasCard.lean, 'card_holds'). Laid BY PROGRAM, IN A SANDBOX (cutbox-door.mjs). By AI agents, Wed Nov 11 2026. No macro, syntax, notation, axiom, sorry.
-/
import Derived.Test.YtgmijnnhanpocaaGreatDoorRows
import GoSem.ClaimSeven
namespace Go.Proofs.YtgmijnnhanpocaaGreatDoor
namespace Rows

/-- THE TIED CARD OF 'rotuluslaw10.LineAll'. -/
def lineAllCard : Claim7 := { stood := { row := lineAllRow, standIns := [], harness := (true, "305ab7cdf2780e11fee196c873d16c3da3b9b3bac19434bdd34d55792587d9ba"), looks := false }, kinds := [], alts := [], laidByText := true, laidKinds := [.data], laidTests := true, laidLooks := .later }
def LineAllCardSaid : Prop := Claim7.holds Tryz.pinned (.plain (OpenSpec.ofChange lineAllSpec)) lineAllCard

/-- THE TIED CARD OF 'rotuluslaw10.ReflowAll'. -/
def reflowAllCard : Claim7 := { stood := { row := reflowAllRow, standIns := [], harness := (true, "305ab7cdf2780e11fee196c873d16c3da3b9b3bac19434bdd34d55792587d9ba"), looks := false }, kinds := [], alts := [], laidByText := true, laidKinds := [.data], laidTests := true, laidLooks := .later }
def ReflowAllCardSaid : Prop := Claim7.holds Tryz.pinned (.plain (OpenSpec.ofChange reflowAllSpec)) reflowAllCard

/-- THE TIED CARD OF 'rotuluslaw10.ReflowBack'. -/
def reflowBackCard : Claim7 := { stood := { row := reflowBackRow, standIns := [], harness := (true, "305ab7cdf2780e11fee196c873d16c3da3b9b3bac19434bdd34d55792587d9ba"), looks := false }, kinds := [], alts := [], laidByText := true, laidKinds := [.data], laidTests := true, laidLooks := .later }
def ReflowBackCardSaid : Prop := Claim7.holds Tryz.pinned (.plain (OpenSpec.ofChange reflowBackSpec)) reflowBackCard

/-- THE TIED CARD OF 'rotuluslaw10.ReflowMarks'. -/
def reflowMarksCard : Claim7 := { stood := { row := reflowMarksRow, standIns := [], harness := (true, "305ab7cdf2780e11fee196c873d16c3da3b9b3bac19434bdd34d55792587d9ba"), looks := false }, kinds := [], alts := [], laidByText := true, laidKinds := [.data], laidTests := true, laidLooks := .later }
def ReflowMarksCardSaid : Prop := Claim7.holds Tryz.pinned (.plain (OpenSpec.ofChange reflowMarksSpec)) reflowMarksCard

/-- THE TIED CARD OF 'rotuluslaw10.ReflowOne'. -/
def reflowOneCard : Claim7 := { stood := { row := reflowOneRow, standIns := [], harness := (true, "305ab7cdf2780e11fee196c873d16c3da3b9b3bac19434bdd34d55792587d9ba"), looks := false }, kinds := [], alts := [], laidByText := true, laidKinds := [.data], laidTests := true, laidLooks := .later }
def ReflowOneCardSaid : Prop := Claim7.holds Tryz.pinned (.plain (OpenSpec.ofChange reflowOneSpec)) reflowOneCard

/-- THE SECOND FORM's CARD OF 'rotuluslaw10.LineAll'. -/
def lineAllUptoCard : Claim7 := { stood := { row := lineAllUptoRow, standIns := [], harness := (true, "305ab7cdf2780e11fee196c873d16c3da3b9b3bac19434bdd34d55792587d9ba"), looks := false }, kinds := [], alts := [], laidByText := true, laidKinds := [.data], laidTests := true, laidLooks := .later }
def LineAllUptoCardSaid : Prop := Claim7.holds Tryz.pinned (.plain (OpenSpec.upto lineAllSpec)) lineAllUptoCard

/-- THE SECOND FORM's CARD OF 'rotuluslaw10.ReflowAll'. -/
def reflowAllUptoCard : Claim7 := { stood := { row := reflowAllUptoRow, standIns := [], harness := (true, "305ab7cdf2780e11fee196c873d16c3da3b9b3bac19434bdd34d55792587d9ba"), looks := false }, kinds := [], alts := [], laidByText := true, laidKinds := [.data], laidTests := true, laidLooks := .later }
def ReflowAllUptoCardSaid : Prop := Claim7.holds Tryz.pinned (.plain (OpenSpec.upto reflowAllSpec)) reflowAllUptoCard

/-- THE SECOND FORM's CARD OF 'rotuluslaw10.ReflowBack'. -/
def reflowBackUptoCard : Claim7 := { stood := { row := reflowBackUptoRow, standIns := [], harness := (true, "305ab7cdf2780e11fee196c873d16c3da3b9b3bac19434bdd34d55792587d9ba"), looks := false }, kinds := [], alts := [], laidByText := true, laidKinds := [.data], laidTests := true, laidLooks := .later }
def ReflowBackUptoCardSaid : Prop := Claim7.holds Tryz.pinned (.plain (OpenSpec.upto reflowBackSpec)) reflowBackUptoCard

/-- THE SECOND FORM's CARD OF 'rotuluslaw10.ReflowMarks'. -/
def reflowMarksUptoCard : Claim7 := { stood := { row := reflowMarksUptoRow, standIns := [], harness := (true, "305ab7cdf2780e11fee196c873d16c3da3b9b3bac19434bdd34d55792587d9ba"), looks := false }, kinds := [], alts := [], laidByText := true, laidKinds := [.data], laidTests := true, laidLooks := .later }
def ReflowMarksUptoCardSaid : Prop := Claim7.holds Tryz.pinned (.plain (OpenSpec.upto reflowMarksSpec)) reflowMarksUptoCard

/-- THE SECOND FORM's CARD OF 'rotuluslaw10.ReflowOne'. -/
def reflowOneUptoCard : Claim7 := { stood := { row := reflowOneUptoRow, standIns := [], harness := (true, "305ab7cdf2780e11fee196c873d16c3da3b9b3bac19434bdd34d55792587d9ba"), looks := false }, kinds := [], alts := [], laidByText := true, laidKinds := [.data], laidTests := true, laidLooks := .later }
def ReflowOneUptoCardSaid : Prop := Claim7.holds Tryz.pinned (.plain (OpenSpec.upto reflowOneSpec)) reflowOneUptoCard
end Rows
end Go.Proofs.YtgmijnnhanpocaaGreatDoor
