import Derived.Test.YteemnmalikomgaaGreatDoorQSrBase14
import Derived.Lib.AppendZerosOnto
import Derived.Lib.Walk
