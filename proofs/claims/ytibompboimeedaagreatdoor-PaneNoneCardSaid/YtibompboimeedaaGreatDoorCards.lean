/-
  DERIVED. GIVEN WITH THE SEED: THE CARDS: each row of YtibompboimeedaaGreatDoorRows.lean that lists a variable, with what it lists TIED to the program's text (the seventh form; the later family's looks); each row that meets fmt, with fmt's text TOLD by the authors' own Lean function (tested against real Go, not proved from fmt's source: count such statements apart). THE CARD IS WHAT COUNTS. Prove the row's statement (the work); the ties are given (YtibompboimeedaaGreatDoorTie.lean); close each card by the builder's one call (the guide's Derived/Test/ToyasCard.lean, 'card_holds'). Laid BY PROGRAM, IN A SANDBOX (cutbox-door.mjs). By AI agents, Wed Nov 11 2026. No macro, syntax, notation, axiom, sorry.
-/
import Derived.Test.YtibompboimeedaaGreatDoorRows
import GoSem.ClaimSeven
namespace Go.Proofs.YtibompboimeedaaGreatDoor
namespace Rows

/-- THE TIED CARD OF 'rotuluslaw10.PaneNone'. -/
def paneNoneCard : Claim7 := { stood := { row := paneNoneRow, standIns := [], harness := (true, "e27a76ad85ee4e3be99ab6d72cc52144d915afe80dd6a134047e36a74fe218b4"), looks := false }, kinds := [], alts := [], laidByText := true, laidKinds := [.data], laidTests := true, laidLooks := .later }
def PaneNoneCardSaid : Prop := Claim7.holds Tryz.pinned (.plain (OpenSpec.ofChange paneNoneSpec)) paneNoneCard

/-- THE SECOND FORM's CARD OF 'rotuluslaw10.PaneNone'. -/
def paneNoneUptoCard : Claim7 := { stood := { row := paneNoneUptoRow, standIns := [], harness := (true, "e27a76ad85ee4e3be99ab6d72cc52144d915afe80dd6a134047e36a74fe218b4"), looks := false }, kinds := [], alts := [], laidByText := true, laidKinds := [.data], laidTests := true, laidLooks := .later }
def PaneNoneUptoCardSaid : Prop := Claim7.holds Tryz.pinned (.plain (OpenSpec.upto paneNoneSpec)) paneNoneUptoCard
end Rows
end Go.Proofs.YtibompboimeedaaGreatDoor
