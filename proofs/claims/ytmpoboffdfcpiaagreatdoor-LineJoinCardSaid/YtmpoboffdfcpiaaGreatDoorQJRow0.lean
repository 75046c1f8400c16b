/-
  Layer 8 in plain words: rows that may be, by their places; cells put over others; that the reference's way comes to the same.
-/
import Derived.Test.YtmpoboffdfcpiaaGreatDoorQJBase0
namespace Go.Proofs.YtmpoboffdfcpiaaGreatDoor
namespace Rw
end Rw
end Go.Proofs.YtmpoboffdfcpiaaGreatDoor
