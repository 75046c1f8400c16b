import Derived.Test.YtgcfpfhmjhkgnaaGreatDoorQBase6
import Derived.ClosedOfChecked
set_option maxRecDepth 100000
namespace Go.Proofs.YtgcfpfhmjhkgnaaGreatDoor
open Go.ChangeShapes Go.WideShapes Go.ChangeAt Go.RowKit
namespace Sum
theorem and_mk {a b : Bool} (h1 : a = true) (h2 : b = true) : (a && b) = true := by rw [h1, h2]; rfl
theorem tables : laidOutB Tryz.checked.prog = true ∧ mapsRowed Tryz.checked.prog = true ∧ Tryz.checked.prog.plainKeys = true :=
 Go.ClosedOfChecked.closed_of_checked Tryz.checked (by kernel_rfl) (by kernel_rfl) (by kernel_rfl)
theorem mayEnter : Tryz.checked.prog.mayEnter = true := by kernel_rfl
theorem lifts : (Rows.rowOwnRow.lifted == Tryz.checked.prog.liftsFinal) = true := by kernel_rfl
theorem make : (Tryz.checked.prog.make == some Rows.rowOwnRow.make) = true := by kernel_rfl
end Sum
