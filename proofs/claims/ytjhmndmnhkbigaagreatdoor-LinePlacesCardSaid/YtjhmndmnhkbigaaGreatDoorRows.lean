/-
  NARROWER THAN 'FOR EVERY INPUT', by the rows' own cells (each row's printed sentence says how): LineAll: laid · LineEach: laid · LineBack: laid · LinePlaces: laid · LineRows: laid · LineEnds: laid · ReflowSame: laid.
  DERIVED. THE GIVEN ROWS OF THIS SEAT. 7 by the template 'for every input the law returns true; each argument reads behind the call as it read before'; 0 by the template 'total and deterministic' (their statements: YtjhmndmnhkbigaaGreatDoorTotals.lean).
  GIVEN WITH THE SEED: the statements are not yours to turn. If you find one false, say at which input.
  Laid BY PROGRAM, IN A SANDBOX (cutbox-rows.mjs): the forced cells as the released guide's own fill.sh prints them over the translation 5c55fc944a0c5649… (all of the seat's roots in one cut). By AI agents, Wed Nov 11 2026. No macro, syntax, notation, axiom, sorry.
-/
import Derived.Test.YtjhmndmnhkbigaaGreatDoorChecked
import GoSem.Claim
import GoSem.ClaimJoined
import GoSem.ClaimMapViews
import Derived.JoinedTies
import Derived.KernelRfl
namespace Go.Proofs.YtjhmndmnhkbigaaGreatDoor
/- THE CELL 'sum', in the pinned program and in every row, IS THE sha256 OF THE DUMP (.gsa) THAT YtjhmndmnhkbigaaGreatDoorProg.lean LOADS. Nothing in Lean hashes anything: it is a label: what it is worth is what the hold of that sum in a sandbox is worth. -/
noncomputable def Tryz.pinned : Pinned := { name := "ytjhmndmnhkbigaagreatdoor", sum := "5c55fc944a0c5649e21c7d94e19fa22c00b86a5eb46fa89b31452b5f81f4114d", checked := Tryz.checked }
namespace Rows
def none {H : Type} : Left H := { results := [], args := [] }

/- WHAT THE LISTED PACKAGE-LEVEL VARIABLES READ AS WHEN THE CALL BEGINS. Each datum BY PROGRAM (the guide's laid-datum.mjs) off the statement by which the dump's own 'gosem.cut.vars' lays the variable. In a bare row this is a premise. The card (YtjhmndmnhkbigaaGreatDoorCards.lean) ties it to the program's text. -/
def laid_rotulus_width_spans {H : Type} : DataW H := .agg [.agg [.lit (.int .i32 (-2147483648)), .lit (.int .i32 31), .lit (.int .i64 0)], .agg [.lit (.int .i32 127), .lit (.int .i32 159), .lit (.int .i64 0)], .agg [.lit (.int .i32 768), .lit (.int .i32 879), .lit (.int .i64 0)], .agg [.lit (.int .i32 4352), .lit (.int .i32 4447), .lit (.int .i64 2)], .agg [.lit (.int .i32 8203), .lit (.int .i32 8207), .lit (.int .i64 0)], .agg [.lit (.int .i32 11904), .lit (.int .i32 12350), .lit (.int .i64 2)], .agg [.lit (.int .i32 12353), .lit (.int .i32 13311), .lit (.int .i64 2)], .agg [.lit (.int .i32 13312), .lit (.int .i32 19903), .lit (.int .i64 2)], .agg [.lit (.int .i32 19968), .lit (.int .i32 40959), .lit (.int .i64 2)], .agg [.lit (.int .i32 40960), .lit (.int .i32 42191), .lit (.int .i64 2)], .agg [.lit (.int .i32 44032), .lit (.int .i32 55203), .lit (.int .i64 2)], .agg [.lit (.int .i32 55296), .lit (.int .i32 57343), .lit (.int .i64 0)], .agg [.lit (.int .i32 63744), .lit (.int .i32 64255), .lit (.int .i64 2)], .agg [.lit (.int .i32 65024), .lit (.int .i32 65039), .lit (.int .i64 0)], .agg [.lit (.int .i32 65072), .lit (.int .i32 65135), .lit (.int .i64 2)], .agg [.lit (.int .i32 65280), .lit (.int .i32 65376), .lit (.int .i64 2)], .agg [.lit (.int .i32 65504), .lit (.int .i32 65510), .lit (.int .i64 2)], .agg [.lit (.int .i32 127744), .lit (.int .i32 128591), .lit (.int .i64 2)], .agg [.lit (.int .i32 129280), .lit (.int .i32 129535), .lit (.int .i64 2)], .agg [.lit (.int .i32 131072), .lit (.int .i32 262141), .lit (.int .i64 2)], .agg [.lit (.int .i32 1114112), .lit (.int .i32 2147483647), .lit (.int .i64 0)]]

/-- 'rotuluslaw10.LineAll': WHATEVER THE INPUT: true; the input reads as it did. -/
def lineAllSpec : ChangeSpec := { name := "lineAll", fn := fun _ => fun
  | [d1, d2, d3, d4, d5] => { results := [.lit (.bool true)], args := [d1, d2, d3, d4, d5] }
  | _ => none }
def lineAllRow : OpenClaim := { program := "ytjhmndmnhkbigaagreatdoor", sum := "5c55fc944a0c5649e21c7d94e19fa22c00b86a5eb46fa89b31452b5f81f4114d", func := "rotulus/rotuluslaw10.LineAll", spec := "lineAll", inPlace := ["internal/bytealg.IndexByteString", "internal/bytealg.IndexString", "internal/abi.NoEscape"], unfollowed := true, recurses := true, named := ["rotulus/width.spans", "internal/bytealg.MaxLen"], apart := false, laid := [("rotulus/width.spans", laid_rotulus_width_spans)] }
def LineAllSaid : Prop := lineAllRow.holds Tryz.pinned (OpenSpec.ofChange lineAllSpec)

/-- ITS FALSE NEIGHBOUR: 'it returns false'. Refute it at one input. -/
def lineAllWrong : ChangeSpec := { name := "lineAll", fn := fun _ => fun
  | [d1, d2, d3, d4, d5] => { results := [.lit (.bool false)], args := [d1, d2, d3, d4, d5] }
  | _ => none }
def LineAllWrongFalsely : Prop := lineAllRow.holds Tryz.pinned (OpenSpec.ofChange lineAllWrong)

/-- 'rotuluslaw10.LineEach': WHATEVER THE INPUT: true; the input reads as it did. -/
def lineEachSpec : ChangeSpec := { name := "lineEach", fn := fun _ => fun
  | [d1, d2] => { results := [.lit (.bool true)], args := [d1, d2] }
  | _ => none }
def lineEachRow : OpenClaim := { program := "ytjhmndmnhkbigaagreatdoor", sum := "5c55fc944a0c5649e21c7d94e19fa22c00b86a5eb46fa89b31452b5f81f4114d", func := "rotulus/rotuluslaw10.LineEach", spec := "lineEach", inPlace := ["internal/bytealg.IndexByteString", "internal/bytealg.IndexString", "internal/abi.NoEscape"], unfollowed := true, recurses := true, named := ["rotulus/width.spans", "internal/bytealg.MaxLen"], apart := false, laid := [("rotulus/width.spans", laid_rotulus_width_spans)] }
def LineEachSaid : Prop := lineEachRow.holds Tryz.pinned (OpenSpec.ofChange lineEachSpec)

/-- ITS FALSE NEIGHBOUR: 'it returns false'. Refute it at one input. -/
def lineEachWrong : ChangeSpec := { name := "lineEach", fn := fun _ => fun
  | [d1, d2] => { results := [.lit (.bool false)], args := [d1, d2] }
  | _ => none }
def LineEachWrongFalsely : Prop := lineEachRow.holds Tryz.pinned (OpenSpec.ofChange lineEachWrong)

/-- 'rotuluslaw10.LineBack': WHATEVER THE INPUT: true; the input reads as it did. -/
def lineBackSpec : ChangeSpec := { name := "lineBack", fn := fun _ => fun
  | [d1, d2] => { results := [.lit (.bool true)], args := [d1, d2] }
  | _ => none }
def lineBackRow : OpenClaim := { program := "ytjhmndmnhkbigaagreatdoor", sum := "5c55fc944a0c5649e21c7d94e19fa22c00b86a5eb46fa89b31452b5f81f4114d", func := "rotulus/rotuluslaw10.LineBack", spec := "lineBack", inPlace := ["internal/bytealg.IndexByteString", "internal/bytealg.IndexString", "internal/abi.NoEscape"], unfollowed := true, recurses := true, named := ["rotulus/width.spans", "internal/bytealg.MaxLen"], apart := false, laid := [("rotulus/width.spans", laid_rotulus_width_spans)] }
def LineBackSaid : Prop := lineBackRow.holds Tryz.pinned (OpenSpec.ofChange lineBackSpec)

/-- ITS FALSE NEIGHBOUR: 'it returns false'. Refute it at one input. -/
def lineBackWrong : ChangeSpec := { name := "lineBack", fn := fun _ => fun
  | [d1, d2] => { results := [.lit (.bool false)], args := [d1, d2] }
  | _ => none }
def LineBackWrongFalsely : Prop := lineBackRow.holds Tryz.pinned (OpenSpec.ofChange lineBackWrong)

/-- 'rotuluslaw10.LinePlaces': WHATEVER THE INPUT: true; the input reads as it did. -/
def linePlacesSpec : ChangeSpec := { name := "linePlaces", fn := fun _ => fun
  | [d1, d2] => { results := [.lit (.bool true)], args := [d1, d2] }
  | _ => none }
def linePlacesRow : OpenClaim := { program := "ytjhmndmnhkbigaagreatdoor", sum := "5c55fc944a0c5649e21c7d94e19fa22c00b86a5eb46fa89b31452b5f81f4114d", func := "rotulus/rotuluslaw10.LinePlaces", spec := "linePlaces", inPlace := ["internal/bytealg.IndexByteString", "internal/bytealg.IndexString", "internal/abi.NoEscape"], unfollowed := true, recurses := true, named := ["rotulus/width.spans", "internal/bytealg.MaxLen"], apart := false, laid := [("rotulus/width.spans", laid_rotulus_width_spans)] }
def LinePlacesSaid : Prop := linePlacesRow.holds Tryz.pinned (OpenSpec.ofChange linePlacesSpec)

/-- ITS FALSE NEIGHBOUR: 'it returns false'. Refute it at one input. -/
def linePlacesWrong : ChangeSpec := { name := "linePlaces", fn := fun _ => fun
  | [d1, d2] => { results := [.lit (.bool false)], args := [d1, d2] }
  | _ => none }
def LinePlacesWrongFalsely : Prop := linePlacesRow.holds Tryz.pinned (OpenSpec.ofChange linePlacesWrong)

/-- 'rotuluslaw10.LineRows': WHATEVER THE INPUT: true; the input reads as it did. -/
def lineRowsSpec : ChangeSpec := { name := "lineRows", fn := fun _ => fun
  | [d1, d2] => { results := [.lit (.bool true)], args := [d1, d2] }
  | _ => none }
def lineRowsRow : OpenClaim := { program := "ytjhmndmnhkbigaagreatdoor", sum := "5c55fc944a0c5649e21c7d94e19fa22c00b86a5eb46fa89b31452b5f81f4114d", func := "rotulus/rotuluslaw10.LineRows", spec := "lineRows", inPlace := ["internal/bytealg.IndexByteString", "internal/bytealg.IndexString", "internal/abi.NoEscape"], unfollowed := true, recurses := true, named := ["rotulus/width.spans", "internal/bytealg.MaxLen"], apart := false, laid := [("rotulus/width.spans", laid_rotulus_width_spans)] }
def LineRowsSaid : Prop := lineRowsRow.holds Tryz.pinned (OpenSpec.ofChange lineRowsSpec)

/-- ITS FALSE NEIGHBOUR: 'it returns false'. Refute it at one input. -/
def lineRowsWrong : ChangeSpec := { name := "lineRows", fn := fun _ => fun
  | [d1, d2] => { results := [.lit (.bool false)], args := [d1, d2] }
  | _ => none }
def LineRowsWrongFalsely : Prop := lineRowsRow.holds Tryz.pinned (OpenSpec.ofChange lineRowsWrong)

/-- 'rotuluslaw10.LineEnds': WHATEVER THE INPUT: true; the input reads as it did. -/
def lineEndsSpec : ChangeSpec := { name := "lineEnds", fn := fun _ => fun
  | [d1, d2, d3] => { results := [.lit (.bool true)], args := [d1, d2, d3] }
  | _ => none }
def lineEndsRow : OpenClaim := { program := "ytjhmndmnhkbigaagreatdoor", sum := "5c55fc944a0c5649e21c7d94e19fa22c00b86a5eb46fa89b31452b5f81f4114d", func := "rotulus/rotuluslaw10.LineEnds", spec := "lineEnds", inPlace := ["internal/bytealg.IndexByteString", "internal/bytealg.IndexString", "internal/abi.NoEscape"], unfollowed := true, recurses := true, named := ["rotulus/width.spans", "internal/bytealg.MaxLen"], apart := false, laid := [("rotulus/width.spans", laid_rotulus_width_spans)] }
def LineEndsSaid : Prop := lineEndsRow.holds Tryz.pinned (OpenSpec.ofChange lineEndsSpec)

/-- ITS FALSE NEIGHBOUR: 'it returns false'. Refute it at one input. -/
def lineEndsWrong : ChangeSpec := { name := "lineEnds", fn := fun _ => fun
  | [d1, d2, d3] => { results := [.lit (.bool false)], args := [d1, d2, d3] }
  | _ => none }
def LineEndsWrongFalsely : Prop := lineEndsRow.holds Tryz.pinned (OpenSpec.ofChange lineEndsWrong)

/-- 'rotuluslaw10.ReflowSame': WHATEVER THE INPUT: true; the input reads as it did. -/
def reflowSameSpec : ChangeSpec := { name := "reflowSame", fn := fun _ => fun
  | [d1, d2] => { results := [.lit (.bool true)], args := [d1, d2] }
  | _ => none }
def reflowSameRow : OpenClaim := { program := "ytjhmndmnhkbigaagreatdoor", sum := "5c55fc944a0c5649e21c7d94e19fa22c00b86a5eb46fa89b31452b5f81f4114d", func := "rotulus/rotuluslaw10.ReflowSame", spec := "reflowSame", inPlace := ["internal/bytealg.IndexByteString", "internal/bytealg.IndexString", "internal/abi.NoEscape"], unfollowed := true, recurses := true, named := ["rotulus/width.spans", "internal/bytealg.MaxLen"], apart := false, laid := [("rotulus/width.spans", laid_rotulus_width_spans)] }
def ReflowSameSaid : Prop := reflowSameRow.holds Tryz.pinned (OpenSpec.ofChange reflowSameSpec)

/-- ITS FALSE NEIGHBOUR: 'it returns false'. Refute it at one input. -/
def reflowSameWrong : ChangeSpec := { name := "reflowSame", fn := fun _ => fun
  | [d1, d2] => { results := [.lit (.bool false)], args := [d1, d2] }
  | _ => none }
def ReflowSameWrongFalsely : Prop := reflowSameRow.holds Tryz.pinned (OpenSpec.ofChange reflowSameWrong)

/- THE SECOND FORM. 'bulk': how many values and letters a reading holds, each counted each time it is reached (what is shared counts as often as it is met; a slice's spare places count too). A statement '..UptoSaid' is the law's where the arguments, and the package variables that the reading takes, are together of bulk at most 1048576: NARROWER than '..Said'. Prove '..Said' where nothing that the law and all that it calls make is longer than what came in: it says more and counts as full. Else prove '..UptoSaid'. A law counts once. -/
mutual
def uptoBulk {H : Type} : DataW H → Nat
  | .lit (.string bytes) => bytes.length + 1
  | .lit _ => 1
  | .nil => 1
  | .ptr d => uptoBulk d + 1
  | .slice elems spare => uptoBulkAll elems + uptoBulkAll spare + 1
  | .agg parts => uptoBulkAll parts + 1
  | .iface _ d => uptoBulk d + 1
  | .map entries => uptoBulkEntries entries + 1
  | .held _ => 1
def uptoBulkAll {H : Type} : List (DataW H) → Nat
  | [] => 0
  | d :: r => uptoBulk d + uptoBulkAll r
def uptoBulkEntries {H : Type} : List (Lit × DataW H) → Nat
  | [] => 0
  | x :: r => uptoBulkEntry x + uptoBulkEntries r
def uptoBulkEntry {H : Type} : Lit × DataW H → Nat
  | (.string bytes, d) => bytes.length + uptoBulk d + 1
  | (_, d) => uptoBulk d + 1
 end
def uptoSmall : (H : Type) → List (DataW H) → Bool := fun _ ds => decide (uptoBulkAll ds ≤ 1048576)
def OpenSpec.upto (s : _root_.Go.ChangeSpec) : _root_.Go.OpenSpec := { _root_.Go.OpenSpec.ofChange s with cond := some uptoSmall }

/-- 'rotuluslaw10.LineAll', WHERE WHAT IT READS IS OF BULK AT MOST 1048576: true; the input reads as it did. -/
def lineAllUptoRow : OpenClaim := { program := "ytjhmndmnhkbigaagreatdoor", sum := "5c55fc944a0c5649e21c7d94e19fa22c00b86a5eb46fa89b31452b5f81f4114d", func := "rotulus/rotuluslaw10.LineAll", spec := "lineAll", inPlace := ["internal/bytealg.IndexByteString", "internal/bytealg.IndexString", "internal/abi.NoEscape"], unfollowed := true, recurses := true, named := ["rotulus/width.spans", "internal/bytealg.MaxLen"], apart := false, laid := [("rotulus/width.spans", laid_rotulus_width_spans)], narrowed := true }
def LineAllUptoSaid : Prop := lineAllUptoRow.holds Tryz.pinned (OpenSpec.upto lineAllSpec)

/-- 'rotuluslaw10.LineEach', WHERE WHAT IT READS IS OF BULK AT MOST 1048576: true; the input reads as it did. -/
def lineEachUptoRow : OpenClaim := { program := "ytjhmndmnhkbigaagreatdoor", sum := "5c55fc944a0c5649e21c7d94e19fa22c00b86a5eb46fa89b31452b5f81f4114d", func := "rotulus/rotuluslaw10.LineEach", spec := "lineEach", inPlace := ["internal/bytealg.IndexByteString", "internal/bytealg.IndexString", "internal/abi.NoEscape"], unfollowed := true, recurses := true, named := ["rotulus/width.spans", "internal/bytealg.MaxLen"], apart := false, laid := [("rotulus/width.spans", laid_rotulus_width_spans)], narrowed := true }
def LineEachUptoSaid : Prop := lineEachUptoRow.holds Tryz.pinned (OpenSpec.upto lineEachSpec)

/-- 'rotuluslaw10.LineBack', WHERE WHAT IT READS IS OF BULK AT MOST 1048576: true; the input reads as it did. -/
def lineBackUptoRow : OpenClaim := { program := "ytjhmndmnhkbigaagreatdoor", sum := "5c55fc944a0c5649e21c7d94e19fa22c00b86a5eb46fa89b31452b5f81f4114d", func := "rotulus/rotuluslaw10.LineBack", spec := "lineBack", inPlace := ["internal/bytealg.IndexByteString", "internal/bytealg.IndexString", "internal/abi.NoEscape"], unfollowed := true, recurses := true, named := ["rotulus/width.spans", "internal/bytealg.MaxLen"], apart := false, laid := [("rotulus/width.spans", laid_rotulus_width_spans)], narrowed := true }
def LineBackUptoSaid : Prop := lineBackUptoRow.holds Tryz.pinned (OpenSpec.upto lineBackSpec)

/-- 'rotuluslaw10.LinePlaces', WHERE WHAT IT READS IS OF BULK AT MOST 1048576: true; the input reads as it did. -/
def linePlacesUptoRow : OpenClaim := { program := "ytjhmndmnhkbigaagreatdoor", sum := "5c55fc944a0c5649e21c7d94e19fa22c00b86a5eb46fa89b31452b5f81f4114d", func := "rotulus/rotuluslaw10.LinePlaces", spec := "linePlaces", inPlace := ["internal/bytealg.IndexByteString", "internal/bytealg.IndexString", "internal/abi.NoEscape"], unfollowed := true, recurses := true, named := ["rotulus/width.spans", "internal/bytealg.MaxLen"], apart := false, laid := [("rotulus/width.spans", laid_rotulus_width_spans)], narrowed := true }
def LinePlacesUptoSaid : Prop := linePlacesUptoRow.holds Tryz.pinned (OpenSpec.upto linePlacesSpec)

/-- 'rotuluslaw10.LineRows', WHERE WHAT IT READS IS OF BULK AT MOST 1048576: true; the input reads as it did. -/
def lineRowsUptoRow : OpenClaim := { program := "ytjhmndmnhkbigaagreatdoor", sum := "5c55fc944a0c5649e21c7d94e19fa22c00b86a5eb46fa89b31452b5f81f4114d", func := "rotulus/rotuluslaw10.LineRows", spec := "lineRows", inPlace := ["internal/bytealg.IndexByteString", "internal/bytealg.IndexString", "internal/abi.NoEscape"], unfollowed := true, recurses := true, named := ["rotulus/width.spans", "internal/bytealg.MaxLen"], apart := false, laid := [("rotulus/width.spans", laid_rotulus_width_spans)], narrowed := true }
def LineRowsUptoSaid : Prop := lineRowsUptoRow.holds Tryz.pinned (OpenSpec.upto lineRowsSpec)

/-- 'rotuluslaw10.LineEnds', WHERE WHAT IT READS IS OF BULK AT MOST 1048576: true; the input reads as it did. -/
def lineEndsUptoRow : OpenClaim := { program := "ytjhmndmnhkbigaagreatdoor", sum := "5c55fc944a0c5649e21c7d94e19fa22c00b86a5eb46fa89b31452b5f81f4114d", func := "rotulus/rotuluslaw10.LineEnds", spec := "lineEnds", inPlace := ["internal/bytealg.IndexByteString", "internal/bytealg.IndexString", "internal/abi.NoEscape"], unfollowed := true, recurses := true, named := ["rotulus/width.spans", "internal/bytealg.MaxLen"], apart := false, laid := [("rotulus/width.spans", laid_rotulus_width_spans)], narrowed := true }
def LineEndsUptoSaid : Prop := lineEndsUptoRow.holds Tryz.pinned (OpenSpec.upto lineEndsSpec)

/-- 'rotuluslaw10.ReflowSame', WHERE WHAT IT READS IS OF BULK AT MOST 1048576: true; the input reads as it did. -/
def reflowSameUptoRow : OpenClaim := { program := "ytjhmndmnhkbigaagreatdoor", sum := "5c55fc944a0c5649e21c7d94e19fa22c00b86a5eb46fa89b31452b5f81f4114d", func := "rotulus/rotuluslaw10.ReflowSame", spec := "reflowSame", inPlace := ["internal/bytealg.IndexByteString", "internal/bytealg.IndexString", "internal/abi.NoEscape"], unfollowed := true, recurses := true, named := ["rotulus/width.spans", "internal/bytealg.MaxLen"], apart := false, laid := [("rotulus/width.spans", laid_rotulus_width_spans)], narrowed := true }
def ReflowSameUptoSaid : Prop := reflowSameUptoRow.holds Tryz.pinned (OpenSpec.upto reflowSameSpec)

end Rows
end Go.Proofs.YtjhmndmnhkbigaaGreatDoor
