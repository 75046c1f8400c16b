/-
  SearchNone answers true wherever the table of widths stands: one run of the evaluator.
-/
import Derived.Test.YtbmldpodcipncabGreatDoorQSEvZ0
namespace Go.Proofs.YtbmldpodcipncabGreatDoor.searchNone
open Go.ChangeShapes Go.WideShapes Go.ChangeAt Go.RowKit
set_option maxRecDepth 100000 in
theorem all : Ev.Trues Tryz.prog 6 0 Ev.table :=
 Ev.layer (bg := some 21) (n := 100000) Ev.mixed Ev.ints (by decide +kernel) (Ev.told (fun f h => by obtain rfl := Ev.some_inj h; exact Ev.begun10b)) ⟨_, Tryz.func6, by kernel_rfl, by kernel_rfl⟩ rfl (fun _ => by kernel_rfl)
end Go.Proofs.YtbmldpodcipncabGreatDoor.searchNone
