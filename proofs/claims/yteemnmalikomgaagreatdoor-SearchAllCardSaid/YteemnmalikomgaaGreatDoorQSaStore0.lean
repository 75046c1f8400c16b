import Derived.Test.YteemnmalikomgaaGreatDoorQSaBase15
import Derived.Lib.AppendZerosOnto
import Derived.Lib.Walk
