/-
  The row of package row: its copy; Used, IsBlank, First. row.overwrite: cells put over those of a row that is the caller's own. row.overwrite. row.isOne: its last statement, step by step. row.isOne: are these the cells of one sign, a Blank or a Pad? slices.Repeat: one round, step by step. slices.Repeat of one Blank; row.blanks. row.Set. row.Blank, row.IsBlank.
-/
import Derived.Test.YtjhmndmnhkbigaaGreatDoorQYBase2
import Derived.Test.YtjhmndmnhkbigaaGreatDoorQYRow0
import Derived.Test.YtjhmndmnhkbigaaGreatDoorQYBase1
import Derived.Test.YtjhmndmnhkbigaaGreatDoorQYBase0
import Derived.IntWalk
import Derived.Laws.CopyRow
import Derived.Deep.CutRange
import Derived.Laws.MakeOwn
import Derived.StillTailTactics









