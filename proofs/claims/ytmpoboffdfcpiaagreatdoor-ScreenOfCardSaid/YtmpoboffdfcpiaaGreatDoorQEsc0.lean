import Derived.Test.YtmpoboffdfcpiaaGreatDoorQBase4
import Derived.Lib.AppendStr
import Derived.StillTailTactics
import Derived.WalkMore
