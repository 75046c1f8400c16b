import Derived.Test.YtmpoboffdfcpiaaGreatDoorQBase2
import Derived.BigQuiet
namespace Go.Proofs.YtmpoboffdfcpiaaGreatDoor
open Go.ChangeShapes Go.WideShapes Go.ChangeAt Go.RowKit
namespace Cls
theorem region {P : Program} {id : Nat} {Q : Exit → Act → World → Prop} {a : Act} {w : World} {l : List Oper} {I : Type} (F : I → World) (h0 : ∃ n, w.drew = F n) (hm : P.follows .mixedOrders = true) (hB : Region.lexB .any l.toArray = true)
  (h : wpQuiet P l.toArray (fun w' => ∃ n, w' = F n) (fun a' => ∀ w', (∃ n, w' = F n) → Q .normal a' w') l a) : (Code.region id l.toArray true).wp P Q a w :=
 wp_region_quiet (C := fun w' => ∃ n, w' = F n) hm hB h0 (by simpa using h)
theorem below (w : World) : ∃ (I : Type) (_ : Nonempty I) (F : I → World), (∃ n, w.drew = F n) ∧ (∀ n, Below w.heap.size w (F n)) ∧ ∀ n W, Below (F n).heap.size (F n) W → ∃ m, W = F m :=
 ⟨{ W : World // Below w.heap.size w W }, ⟨⟨w, Below.refl _ _⟩⟩, Subtype.val, ⟨⟨w.drew, (Below.refl _ _).drew⟩, rfl⟩, fun n => n.2, fun n W h => ⟨⟨W, n.2.trans (h.mono n.2.size)⟩, rfl⟩⟩
end Cls
