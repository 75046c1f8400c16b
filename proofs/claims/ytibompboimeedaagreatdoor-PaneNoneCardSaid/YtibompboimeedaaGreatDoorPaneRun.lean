/-
  PaneNone answers true wherever the table of widths stands: one run of the evaluator.
-/
import Derived.Test.YtibompboimeedaaGreatDoorEvRun
namespace Go.Proofs.YtibompboimeedaaGreatDoor.paneNone
open Go.ChangeShapes Go.WideShapes Go.ChangeAt Go.RowKit

set_option maxRecDepth 100000 in
theorem all : Ev.Trues Tryz.prog 3 0 Ev.table :=
  Ev.layer (bg := some 33) (n := 100000) Ev.mixed Ev.ints (by decide +kernel) (Ev.told (fun f h => by obtain rfl := Ev.some_inj h; exact Ev.begun7)) ⟨_, Tryz.func3, by kernel_rfl, by kernel_rfl⟩ rfl (fun _ => by kernel_rfl)
end Go.Proofs.YtibompboimeedaaGreatDoor.paneNone
