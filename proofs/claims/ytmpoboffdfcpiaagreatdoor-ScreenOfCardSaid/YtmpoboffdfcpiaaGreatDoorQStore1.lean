import Derived.Test.YtmpoboffdfcpiaaGreatDoorQBase3
import Derived.Laws.CopyOwn
import Derived.Lib.SliceRun
import Derived.Deep.AppendSrc
