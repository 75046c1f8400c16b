/-
  NARROWER THAN 'FOR EVERY INPUT', by the rows' own cells (each row's printed sentence says how): UtfAll: laid · UtfWrite: laid · UtfParts: laid · UtfOne: laid · WidthAll: laid · WidthEdges: laid · CellOwn: laid · CellText: laid · UtfNone: laid · UtfRaw: laid · UtfFour: laid · UtfSplit: laid.
  DERIVED. THE GIVEN ROWS OF THIS SEAT. 12 by the template 'for every input the law returns true; each argument reads behind the call as it read before'; 0 by the template 'total and deterministic' (their statements: YtbhfhkmcnomggaaDoorTotals.lean).
  GIVEN WITH THE SEED: the statements are not yours to turn. If you find one false, say at which input.
  Laid BY PROGRAM, IN A SANDBOX (cutbox-rows.mjs): the forced cells as the released guide's own fill.sh prints them over the translation 4cba6a642fd126d4… (all of the seat's roots in one cut). By AI agents, Wed Nov 11 2026. No macro, syntax, notation, axiom, sorry.
-/
import Derived.Test.YtbhfhkmcnomggaaDoorChecked
import GoSem.Claim
import GoSem.ClaimJoined
import GoSem.ClaimMapViews
import Derived.JoinedTies
import Derived.KernelRfl
namespace Go.Proofs.YtbhfhkmcnomggaaDoor
/- THE CELL 'sum', in the pinned program and in every row, IS THE sha256 OF THE DUMP (.gsa) THAT YtbhfhkmcnomggaaDoorProg.lean LOADS. Nothing in Lean hashes anything: it is a label: what it is worth is what the hold of that sum in a sandbox is worth. -/
noncomputable def Tryd.pinned : Pinned := { name := "ytbhfhkmcnomggaadoor", sum := "4cba6a642fd126d49ceb476cfc4f3baff1e179684e6f4626ba8c399e8d7e1fd4", checked := Tryd.checked }
namespace Rows
def none {H : Type} : Left H := { results := [], args := [] }

/- WHAT THE LISTED PACKAGE-LEVEL VARIABLES READ AS WHEN THE CALL BEGINS. Each datum BY PROGRAM (the guide's laid-datum.mjs) off the statement by which the dump's own 'gosem.cut.vars' lays the variable. In a bare row this is a premise. The card (YtbhfhkmcnomggaaDoorCards.lean) ties it to the program's text. -/
def laid_rotulus_width_spans {H : Type} : DataW H := .agg [.agg [.lit (.int .i32 (-2147483648)), .lit (.int .i32 31), .lit (.int .i64 0)], .agg [.lit (.int .i32 127), .lit (.int .i32 159), .lit (.int .i64 0)], .agg [.lit (.int .i32 768), .lit (.int .i32 879), .lit (.int .i64 0)], .agg [.lit (.int .i32 4352), .lit (.int .i32 4447), .lit (.int .i64 2)], .agg [.lit (.int .i32 8203), .lit (.int .i32 8207), .lit (.int .i64 0)], .agg [.lit (.int .i32 11904), .lit (.int .i32 12350), .lit (.int .i64 2)], .agg [.lit (.int .i32 12353), .lit (.int .i32 13311), .lit (.int .i64 2)], .agg [.lit (.int .i32 13312), .lit (.int .i32 19903), .lit (.int .i64 2)], .agg [.lit (.int .i32 19968), .lit (.int .i32 40959), .lit (.int .i64 2)], .agg [.lit (.int .i32 40960), .lit (.int .i32 42191), .lit (.int .i64 2)], .agg [.lit (.int .i32 44032), .lit (.int .i32 55203), .lit (.int .i64 2)], .agg [.lit (.int .i32 55296), .lit (.int .i32 57343), .lit (.int .i64 0)], .agg [.lit (.int .i32 63744), .lit (.int .i32 64255), .lit (.int .i64 2)], .agg [.lit (.int .i32 65024), .lit (.int .i32 65039), .lit (.int .i64 0)], .agg [.lit (.int .i32 65072), .lit (.int .i32 65135), .lit (.int .i64 2)], .agg [.lit (.int .i32 65280), .lit (.int .i32 65376), .lit (.int .i64 2)], .agg [.lit (.int .i32 65504), .lit (.int .i32 65510), .lit (.int .i64 2)], .agg [.lit (.int .i32 127744), .lit (.int .i32 128591), .lit (.int .i64 2)], .agg [.lit (.int .i32 129280), .lit (.int .i32 129535), .lit (.int .i64 2)], .agg [.lit (.int .i32 131072), .lit (.int .i32 262141), .lit (.int .i64 2)], .agg [.lit (.int .i32 1114112), .lit (.int .i32 2147483647), .lit (.int .i64 0)]]

/-- 'rotuluslaw1.UtfAll': WHATEVER THE INPUT: true; the input reads as it did. -/
def utfAllSpec : ChangeSpec := { name := "utfAll", fn := fun _ => fun
  | [d] => { results := [.lit (.bool true)], args := [d] }
  | _ => none }
def utfAllRow : OpenClaim := { program := "ytbhfhkmcnomggaadoor", sum := "4cba6a642fd126d49ceb476cfc4f3baff1e179684e6f4626ba8c399e8d7e1fd4", func := "rotulus/rotuluslaw1.UtfAll", spec := "utfAll", inPlace := ["internal/abi.NoEscape"], named := ["rotulus/width.spans"], apart := false, laid := [("rotulus/width.spans", laid_rotulus_width_spans)] }
def UtfAllSaid : Prop := utfAllRow.holds Tryd.pinned (OpenSpec.ofChange utfAllSpec)

/-- ITS FALSE NEIGHBOUR: 'it returns false'. Refute it at one input. -/
def utfAllWrong : ChangeSpec := { name := "utfAll", fn := fun _ => fun
  | [d] => { results := [.lit (.bool false)], args := [d] }
  | _ => none }
def UtfAllWrongFalsely : Prop := utfAllRow.holds Tryd.pinned (OpenSpec.ofChange utfAllWrong)

/-- 'rotuluslaw1.UtfWrite': WHATEVER THE INPUT: true; the input reads as it did. -/
def utfWriteSpec : ChangeSpec := { name := "utfWrite", fn := fun _ => fun
  | [d] => { results := [.lit (.bool true)], args := [d] }
  | _ => none }
def utfWriteRow : OpenClaim := { program := "ytbhfhkmcnomggaadoor", sum := "4cba6a642fd126d49ceb476cfc4f3baff1e179684e6f4626ba8c399e8d7e1fd4", func := "rotulus/rotuluslaw1.UtfWrite", spec := "utfWrite", inPlace := ["internal/abi.NoEscape"], recurses := true, named := ["rotulus/width.spans"], apart := false, laid := [("rotulus/width.spans", laid_rotulus_width_spans)] }
def UtfWriteSaid : Prop := utfWriteRow.holds Tryd.pinned (OpenSpec.ofChange utfWriteSpec)

/-- ITS FALSE NEIGHBOUR: 'it returns false'. Refute it at one input. -/
def utfWriteWrong : ChangeSpec := { name := "utfWrite", fn := fun _ => fun
  | [d] => { results := [.lit (.bool false)], args := [d] }
  | _ => none }
def UtfWriteWrongFalsely : Prop := utfWriteRow.holds Tryd.pinned (OpenSpec.ofChange utfWriteWrong)

/-- 'rotuluslaw1.UtfParts': WHATEVER THE INPUT: true; the input reads as it did. -/
def utfPartsSpec : ChangeSpec := { name := "utfParts", fn := fun _ => fun
  | [d1, d2] => { results := [.lit (.bool true)], args := [d1, d2] }
  | _ => none }
def utfPartsRow : OpenClaim := { program := "ytbhfhkmcnomggaadoor", sum := "4cba6a642fd126d49ceb476cfc4f3baff1e179684e6f4626ba8c399e8d7e1fd4", func := "rotulus/rotuluslaw1.UtfParts", spec := "utfParts", inPlace := ["internal/abi.NoEscape"], named := ["rotulus/width.spans"], apart := false, laid := [("rotulus/width.spans", laid_rotulus_width_spans)] }
def UtfPartsSaid : Prop := utfPartsRow.holds Tryd.pinned (OpenSpec.ofChange utfPartsSpec)

/-- ITS FALSE NEIGHBOUR: 'it returns false'. Refute it at one input. -/
def utfPartsWrong : ChangeSpec := { name := "utfParts", fn := fun _ => fun
  | [d1, d2] => { results := [.lit (.bool false)], args := [d1, d2] }
  | _ => none }
def UtfPartsWrongFalsely : Prop := utfPartsRow.holds Tryd.pinned (OpenSpec.ofChange utfPartsWrong)

/-- 'rotuluslaw1.UtfOne': WHATEVER THE INPUT: true; the input reads as it did. -/
def utfOneSpec : ChangeSpec := { name := "utfOne", fn := fun _ => fun
  | [d1, d2, d3, d4] => { results := [.lit (.bool true)], args := [d1, d2, d3, d4] }
  | _ => none }
def utfOneRow : OpenClaim := { program := "ytbhfhkmcnomggaadoor", sum := "4cba6a642fd126d49ceb476cfc4f3baff1e179684e6f4626ba8c399e8d7e1fd4", func := "rotulus/rotuluslaw1.UtfOne", spec := "utfOne", inPlace := ["internal/abi.NoEscape"], recurses := true, named := ["rotulus/width.spans"], apart := false, laid := [("rotulus/width.spans", laid_rotulus_width_spans)] }
def UtfOneSaid : Prop := utfOneRow.holds Tryd.pinned (OpenSpec.ofChange utfOneSpec)

/-- ITS FALSE NEIGHBOUR: 'it returns false'. Refute it at one input. -/
def utfOneWrong : ChangeSpec := { name := "utfOne", fn := fun _ => fun
  | [d1, d2, d3, d4] => { results := [.lit (.bool false)], args := [d1, d2, d3, d4] }
  | _ => none }
def UtfOneWrongFalsely : Prop := utfOneRow.holds Tryd.pinned (OpenSpec.ofChange utfOneWrong)

/-- 'rotuluslaw1.WidthAll': WHATEVER THE INPUT: true; the input reads as it did. -/
def widthAllSpec : ChangeSpec := { name := "widthAll", fn := fun _ => fun
  | [d1, d2] => { results := [.lit (.bool true)], args := [d1, d2] }
  | _ => none }
def widthAllRow : OpenClaim := { program := "ytbhfhkmcnomggaadoor", sum := "4cba6a642fd126d49ceb476cfc4f3baff1e179684e6f4626ba8c399e8d7e1fd4", func := "rotulus/rotuluslaw1.WidthAll", spec := "widthAll", inPlace := ["internal/abi.NoEscape"], named := ["rotulus/width.spans"], apart := false, laid := [("rotulus/width.spans", laid_rotulus_width_spans)] }
def WidthAllSaid : Prop := widthAllRow.holds Tryd.pinned (OpenSpec.ofChange widthAllSpec)

/-- ITS FALSE NEIGHBOUR: 'it returns false'. Refute it at one input. -/
def widthAllWrong : ChangeSpec := { name := "widthAll", fn := fun _ => fun
  | [d1, d2] => { results := [.lit (.bool false)], args := [d1, d2] }
  | _ => none }
def WidthAllWrongFalsely : Prop := widthAllRow.holds Tryd.pinned (OpenSpec.ofChange widthAllWrong)

/-- 'rotuluslaw1.WidthEdges': WHATEVER THE INPUT: true; the input reads as it did. -/
def widthEdgesSpec : ChangeSpec := { name := "widthEdges", fn := fun _ => fun
  | [d1, d2] => { results := [.lit (.bool true)], args := [d1, d2] }
  | _ => none }
def widthEdgesRow : OpenClaim := { program := "ytbhfhkmcnomggaadoor", sum := "4cba6a642fd126d49ceb476cfc4f3baff1e179684e6f4626ba8c399e8d7e1fd4", func := "rotulus/rotuluslaw1.WidthEdges", spec := "widthEdges", inPlace := ["internal/abi.NoEscape"], named := ["rotulus/width.spans"], apart := false, laid := [("rotulus/width.spans", laid_rotulus_width_spans)] }
def WidthEdgesSaid : Prop := widthEdgesRow.holds Tryd.pinned (OpenSpec.ofChange widthEdgesSpec)

/-- ITS FALSE NEIGHBOUR: 'it returns false'. Refute it at one input. -/
def widthEdgesWrong : ChangeSpec := { name := "widthEdges", fn := fun _ => fun
  | [d1, d2] => { results := [.lit (.bool false)], args := [d1, d2] }
  | _ => none }
def WidthEdgesWrongFalsely : Prop := widthEdgesRow.holds Tryd.pinned (OpenSpec.ofChange widthEdgesWrong)

/-- 'rotuluslaw1.CellOwn': WHATEVER THE INPUT: true; the input reads as it did. -/
def cellOwnSpec : ChangeSpec := { name := "cellOwn", fn := fun _ => fun
  | [d] => { results := [.lit (.bool true)], args := [d] }
  | _ => none }
def cellOwnRow : OpenClaim := { program := "ytbhfhkmcnomggaadoor", sum := "4cba6a642fd126d49ceb476cfc4f3baff1e179684e6f4626ba8c399e8d7e1fd4", func := "rotulus/rotuluslaw1.CellOwn", spec := "cellOwn", inPlace := ["internal/abi.NoEscape"], named := ["rotulus/width.spans"], apart := false, laid := [("rotulus/width.spans", laid_rotulus_width_spans)] }
def CellOwnSaid : Prop := cellOwnRow.holds Tryd.pinned (OpenSpec.ofChange cellOwnSpec)

/-- ITS FALSE NEIGHBOUR: 'it returns false'. Refute it at one input. -/
def cellOwnWrong : ChangeSpec := { name := "cellOwn", fn := fun _ => fun
  | [d] => { results := [.lit (.bool false)], args := [d] }
  | _ => none }
def CellOwnWrongFalsely : Prop := cellOwnRow.holds Tryd.pinned (OpenSpec.ofChange cellOwnWrong)

/-- 'rotuluslaw1.CellText': WHATEVER THE INPUT: true; the input reads as it did. -/
def cellTextSpec : ChangeSpec := { name := "cellText", fn := fun _ => fun
  | [d1, d2] => { results := [.lit (.bool true)], args := [d1, d2] }
  | _ => none }
def cellTextRow : OpenClaim := { program := "ytbhfhkmcnomggaadoor", sum := "4cba6a642fd126d49ceb476cfc4f3baff1e179684e6f4626ba8c399e8d7e1fd4", func := "rotulus/rotuluslaw1.CellText", spec := "cellText", inPlace := ["internal/abi.NoEscape"], recurses := true, named := ["rotulus/width.spans"], apart := false, laid := [("rotulus/width.spans", laid_rotulus_width_spans)] }
def CellTextSaid : Prop := cellTextRow.holds Tryd.pinned (OpenSpec.ofChange cellTextSpec)

/-- ITS FALSE NEIGHBOUR: 'it returns false'. Refute it at one input. -/
def cellTextWrong : ChangeSpec := { name := "cellText", fn := fun _ => fun
  | [d1, d2] => { results := [.lit (.bool false)], args := [d1, d2] }
  | _ => none }
def CellTextWrongFalsely : Prop := cellTextRow.holds Tryd.pinned (OpenSpec.ofChange cellTextWrong)

/-- 'rotuluslaw1.UtfNone': WHATEVER THE INPUT: true; the input reads as it did. -/
def utfNoneSpec : ChangeSpec := { name := "utfNone", fn := fun _ => fun
  | [] => { results := [.lit (.bool true)], args := [] }
  | _ => none }
def utfNoneRow : OpenClaim := { program := "ytbhfhkmcnomggaadoor", sum := "4cba6a642fd126d49ceb476cfc4f3baff1e179684e6f4626ba8c399e8d7e1fd4", func := "rotulus/rotuluslaw1.UtfNone", spec := "utfNone", inPlace := ["internal/abi.NoEscape"], named := ["rotulus/width.spans"], apart := false, laid := [("rotulus/width.spans", laid_rotulus_width_spans)] }
def UtfNoneSaid : Prop := utfNoneRow.holds Tryd.pinned (OpenSpec.ofChange utfNoneSpec)

/-- ITS FALSE NEIGHBOUR: 'it returns false'. Refute it at one input. -/
def utfNoneWrong : ChangeSpec := { name := "utfNone", fn := fun _ => fun
  | [] => { results := [.lit (.bool false)], args := [] }
  | _ => none }
def UtfNoneWrongFalsely : Prop := utfNoneRow.holds Tryd.pinned (OpenSpec.ofChange utfNoneWrong)

/-- 'rotuluslaw1.UtfRaw': WHATEVER THE INPUT: true; the input reads as it did. -/
def utfRawSpec : ChangeSpec := { name := "utfRaw", fn := fun _ => fun
  | [d1, d2, d3] => { results := [.lit (.bool true)], args := [d1, d2, d3] }
  | _ => none }
def utfRawRow : OpenClaim := { program := "ytbhfhkmcnomggaadoor", sum := "4cba6a642fd126d49ceb476cfc4f3baff1e179684e6f4626ba8c399e8d7e1fd4", func := "rotulus/rotuluslaw1.UtfRaw", spec := "utfRaw", inPlace := ["internal/abi.NoEscape"], named := ["rotulus/width.spans"], apart := false, laid := [("rotulus/width.spans", laid_rotulus_width_spans)] }
def UtfRawSaid : Prop := utfRawRow.holds Tryd.pinned (OpenSpec.ofChange utfRawSpec)

/-- ITS FALSE NEIGHBOUR: 'it returns false'. Refute it at one input. -/
def utfRawWrong : ChangeSpec := { name := "utfRaw", fn := fun _ => fun
  | [d1, d2, d3] => { results := [.lit (.bool false)], args := [d1, d2, d3] }
  | _ => none }
def UtfRawWrongFalsely : Prop := utfRawRow.holds Tryd.pinned (OpenSpec.ofChange utfRawWrong)

/-- 'rotuluslaw1.UtfFour': WHATEVER THE INPUT: true; the input reads as it did. -/
def utfFourSpec : ChangeSpec := { name := "utfFour", fn := fun _ => fun
  | [d1, d2, d3] => { results := [.lit (.bool true)], args := [d1, d2, d3] }
  | _ => none }
def utfFourRow : OpenClaim := { program := "ytbhfhkmcnomggaadoor", sum := "4cba6a642fd126d49ceb476cfc4f3baff1e179684e6f4626ba8c399e8d7e1fd4", func := "rotulus/rotuluslaw1.UtfFour", spec := "utfFour", inPlace := ["internal/abi.NoEscape"], recurses := true, named := ["rotulus/width.spans"], apart := false, laid := [("rotulus/width.spans", laid_rotulus_width_spans)] }
def UtfFourSaid : Prop := utfFourRow.holds Tryd.pinned (OpenSpec.ofChange utfFourSpec)

/-- ITS FALSE NEIGHBOUR: 'it returns false'. Refute it at one input. -/
def utfFourWrong : ChangeSpec := { name := "utfFour", fn := fun _ => fun
  | [d1, d2, d3] => { results := [.lit (.bool false)], args := [d1, d2, d3] }
  | _ => none }
def UtfFourWrongFalsely : Prop := utfFourRow.holds Tryd.pinned (OpenSpec.ofChange utfFourWrong)

/-- 'rotuluslaw1.UtfSplit': WHATEVER THE INPUT: true; the input reads as it did. -/
def utfSplitSpec : ChangeSpec := { name := "utfSplit", fn := fun _ => fun
  | [d1, d2] => { results := [.lit (.bool true)], args := [d1, d2] }
  | _ => none }
def utfSplitRow : OpenClaim := { program := "ytbhfhkmcnomggaadoor", sum := "4cba6a642fd126d49ceb476cfc4f3baff1e179684e6f4626ba8c399e8d7e1fd4", func := "rotulus/rotuluslaw1.UtfSplit", spec := "utfSplit", inPlace := ["internal/abi.NoEscape"], named := ["rotulus/width.spans"], apart := false, laid := [("rotulus/width.spans", laid_rotulus_width_spans)] }
def UtfSplitSaid : Prop := utfSplitRow.holds Tryd.pinned (OpenSpec.ofChange utfSplitSpec)

/-- ITS FALSE NEIGHBOUR: 'it returns false'. Refute it at one input. -/
def utfSplitWrong : ChangeSpec := { name := "utfSplit", fn := fun _ => fun
  | [d1, d2] => { results := [.lit (.bool false)], args := [d1, d2] }
  | _ => none }
def UtfSplitWrongFalsely : Prop := utfSplitRow.holds Tryd.pinned (OpenSpec.ofChange utfSplitWrong)

/- THE SECOND FORM. 'bulk': how many values and letters a reading holds, each counted each time it is reached (what is shared counts as often as it is met; a slice's spare places count too). A statement '..UptoSaid' is the law's where the arguments, and the package variables that the reading takes, are together of bulk at most 1048576: NARROWER than '..Said'. Prove '..Said' where nothing that the law and all that it calls make is longer than what came in: it says more and counts as full. Else prove '..UptoSaid'. A law counts once. -/
mutual
def uptoBulk {H : Type} : DataW H → Nat
  | .lit (.string bytes) => bytes.length + 1
  | .lit _ => 1
  | .nil => 1
  | .ptr d => uptoBulk d + 1
  | .slice elems spare => uptoBulkAll elems + uptoBulkAll spare + 1
  | .agg parts => uptoBulkAll parts + 1
  | .iface _ d => uptoBulk d + 1
  | .map entries => uptoBulkEntries entries + 1
  | .held _ => 1
def uptoBulkAll {H : Type} : List (DataW H) → Nat
  | [] => 0
  | d :: r => uptoBulk d + uptoBulkAll r
def uptoBulkEntries {H : Type} : List (Lit × DataW H) → Nat
  | [] => 0
  | x :: r => uptoBulkEntry x + uptoBulkEntries r
def uptoBulkEntry {H : Type} : Lit × DataW H → Nat
  | (.string bytes, d) => bytes.length + uptoBulk d + 1
  | (_, d) => uptoBulk d + 1
 end
def uptoSmall : (H : Type) → List (DataW H) → Bool := fun _ ds => decide (uptoBulkAll ds ≤ 1048576)
def OpenSpec.upto (s : _root_.Go.ChangeSpec) : _root_.Go.OpenSpec := { _root_.Go.OpenSpec.ofChange s with cond := some uptoSmall }

/-- 'rotuluslaw1.UtfAll', WHERE WHAT IT READS IS OF BULK AT MOST 1048576: true; the input reads as it did. -/
def utfAllUptoRow : OpenClaim := { program := "ytbhfhkmcnomggaadoor", sum := "4cba6a642fd126d49ceb476cfc4f3baff1e179684e6f4626ba8c399e8d7e1fd4", func := "rotulus/rotuluslaw1.UtfAll", spec := "utfAll", inPlace := ["internal/abi.NoEscape"], named := ["rotulus/width.spans"], apart := false, laid := [("rotulus/width.spans", laid_rotulus_width_spans)], narrowed := true }
def UtfAllUptoSaid : Prop := utfAllUptoRow.holds Tryd.pinned (OpenSpec.upto utfAllSpec)

/-- 'rotuluslaw1.UtfWrite', WHERE WHAT IT READS IS OF BULK AT MOST 1048576: true; the input reads as it did. -/
def utfWriteUptoRow : OpenClaim := { program := "ytbhfhkmcnomggaadoor", sum := "4cba6a642fd126d49ceb476cfc4f3baff1e179684e6f4626ba8c399e8d7e1fd4", func := "rotulus/rotuluslaw1.UtfWrite", spec := "utfWrite", inPlace := ["internal/abi.NoEscape"], recurses := true, named := ["rotulus/width.spans"], apart := false, laid := [("rotulus/width.spans", laid_rotulus_width_spans)], narrowed := true }
def UtfWriteUptoSaid : Prop := utfWriteUptoRow.holds Tryd.pinned (OpenSpec.upto utfWriteSpec)

/-- 'rotuluslaw1.UtfParts', WHERE WHAT IT READS IS OF BULK AT MOST 1048576: true; the input reads as it did. -/
def utfPartsUptoRow : OpenClaim := { program := "ytbhfhkmcnomggaadoor", sum := "4cba6a642fd126d49ceb476cfc4f3baff1e179684e6f4626ba8c399e8d7e1fd4", func := "rotulus/rotuluslaw1.UtfParts", spec := "utfParts", inPlace := ["internal/abi.NoEscape"], named := ["rotulus/width.spans"], apart := false, laid := [("rotulus/width.spans", laid_rotulus_width_spans)], narrowed := true }
def UtfPartsUptoSaid : Prop := utfPartsUptoRow.holds Tryd.pinned (OpenSpec.upto utfPartsSpec)

/-- 'rotuluslaw1.UtfOne', WHERE WHAT IT READS IS OF BULK AT MOST 1048576: true; the input reads as it did. -/
def utfOneUptoRow : OpenClaim := { program := "ytbhfhkmcnomggaadoor", sum := "4cba6a642fd126d49ceb476cfc4f3baff1e179684e6f4626ba8c399e8d7e1fd4", func := "rotulus/rotuluslaw1.UtfOne", spec := "utfOne", inPlace := ["internal/abi.NoEscape"], recurses := true, named := ["rotulus/width.spans"], apart := false, laid := [("rotulus/width.spans", laid_rotulus_width_spans)], narrowed := true }
def UtfOneUptoSaid : Prop := utfOneUptoRow.holds Tryd.pinned (OpenSpec.upto utfOneSpec)

/-- 'rotuluslaw1.WidthAll', WHERE WHAT IT READS IS OF BULK AT MOST 1048576: true; the input reads as it did. -/
def widthAllUptoRow : OpenClaim := { program := "ytbhfhkmcnomggaadoor", sum := "4cba6a642fd126d49ceb476cfc4f3baff1e179684e6f4626ba8c399e8d7e1fd4", func := "rotulus/rotuluslaw1.WidthAll", spec := "widthAll", inPlace := ["internal/abi.NoEscape"], named := ["rotulus/width.spans"], apart := false, laid := [("rotulus/width.spans", laid_rotulus_width_spans)], narrowed := true }
def WidthAllUptoSaid : Prop := widthAllUptoRow.holds Tryd.pinned (OpenSpec.upto widthAllSpec)

/-- 'rotuluslaw1.WidthEdges', WHERE WHAT IT READS IS OF BULK AT MOST 1048576: true; the input reads as it did. -/
def widthEdgesUptoRow : OpenClaim := { program := "ytbhfhkmcnomggaadoor", sum := "4cba6a642fd126d49ceb476cfc4f3baff1e179684e6f4626ba8c399e8d7e1fd4", func := "rotulus/rotuluslaw1.WidthEdges", spec := "widthEdges", inPlace := ["internal/abi.NoEscape"], named := ["rotulus/width.spans"], apart := false, laid := [("rotulus/width.spans", laid_rotulus_width_spans)], narrowed := true }
def WidthEdgesUptoSaid : Prop := widthEdgesUptoRow.holds Tryd.pinned (OpenSpec.upto widthEdgesSpec)

/-- 'rotuluslaw1.CellOwn', WHERE WHAT IT READS IS OF BULK AT MOST 1048576: true; the input reads as it did. -/
def cellOwnUptoRow : OpenClaim := { program := "ytbhfhkmcnomggaadoor", sum := "4cba6a642fd126d49ceb476cfc4f3baff1e179684e6f4626ba8c399e8d7e1fd4", func := "rotulus/rotuluslaw1.CellOwn", spec := "cellOwn", inPlace := ["internal/abi.NoEscape"], named := ["rotulus/width.spans"], apart := false, laid := [("rotulus/width.spans", laid_rotulus_width_spans)], narrowed := true }
def CellOwnUptoSaid : Prop := cellOwnUptoRow.holds Tryd.pinned (OpenSpec.upto cellOwnSpec)

/-- 'rotuluslaw1.CellText', WHERE WHAT IT READS IS OF BULK AT MOST 1048576: true; the input reads as it did. -/
def cellTextUptoRow : OpenClaim := { program := "ytbhfhkmcnomggaadoor", sum := "4cba6a642fd126d49ceb476cfc4f3baff1e179684e6f4626ba8c399e8d7e1fd4", func := "rotulus/rotuluslaw1.CellText", spec := "cellText", inPlace := ["internal/abi.NoEscape"], recurses := true, named := ["rotulus/width.spans"], apart := false, laid := [("rotulus/width.spans", laid_rotulus_width_spans)], narrowed := true }
def CellTextUptoSaid : Prop := cellTextUptoRow.holds Tryd.pinned (OpenSpec.upto cellTextSpec)

/-- 'rotuluslaw1.UtfNone', WHERE WHAT IT READS IS OF BULK AT MOST 1048576: true; the input reads as it did. -/
def utfNoneUptoRow : OpenClaim := { program := "ytbhfhkmcnomggaadoor", sum := "4cba6a642fd126d49ceb476cfc4f3baff1e179684e6f4626ba8c399e8d7e1fd4", func := "rotulus/rotuluslaw1.UtfNone", spec := "utfNone", inPlace := ["internal/abi.NoEscape"], named := ["rotulus/width.spans"], apart := false, laid := [("rotulus/width.spans", laid_rotulus_width_spans)], narrowed := true }
def UtfNoneUptoSaid : Prop := utfNoneUptoRow.holds Tryd.pinned (OpenSpec.upto utfNoneSpec)

/-- 'rotuluslaw1.UtfRaw', WHERE WHAT IT READS IS OF BULK AT MOST 1048576: true; the input reads as it did. -/
def utfRawUptoRow : OpenClaim := { program := "ytbhfhkmcnomggaadoor", sum := "4cba6a642fd126d49ceb476cfc4f3baff1e179684e6f4626ba8c399e8d7e1fd4", func := "rotulus/rotuluslaw1.UtfRaw", spec := "utfRaw", inPlace := ["internal/abi.NoEscape"], named := ["rotulus/width.spans"], apart := false, laid := [("rotulus/width.spans", laid_rotulus_width_spans)], narrowed := true }
def UtfRawUptoSaid : Prop := utfRawUptoRow.holds Tryd.pinned (OpenSpec.upto utfRawSpec)

/-- 'rotuluslaw1.UtfFour', WHERE WHAT IT READS IS OF BULK AT MOST 1048576: true; the input reads as it did. -/
def utfFourUptoRow : OpenClaim := { program := "ytbhfhkmcnomggaadoor", sum := "4cba6a642fd126d49ceb476cfc4f3baff1e179684e6f4626ba8c399e8d7e1fd4", func := "rotulus/rotuluslaw1.UtfFour", spec := "utfFour", inPlace := ["internal/abi.NoEscape"], recurses := true, named := ["rotulus/width.spans"], apart := false, laid := [("rotulus/width.spans", laid_rotulus_width_spans)], narrowed := true }
def UtfFourUptoSaid : Prop := utfFourUptoRow.holds Tryd.pinned (OpenSpec.upto utfFourSpec)

/-- 'rotuluslaw1.UtfSplit', WHERE WHAT IT READS IS OF BULK AT MOST 1048576: true; the input reads as it did. -/
def utfSplitUptoRow : OpenClaim := { program := "ytbhfhkmcnomggaadoor", sum := "4cba6a642fd126d49ceb476cfc4f3baff1e179684e6f4626ba8c399e8d7e1fd4", func := "rotulus/rotuluslaw1.UtfSplit", spec := "utfSplit", inPlace := ["internal/abi.NoEscape"], named := ["rotulus/width.spans"], apart := false, laid := [("rotulus/width.spans", laid_rotulus_width_spans)], narrowed := true }
def UtfSplitUptoSaid : Prop := utfSplitUptoRow.holds Tryd.pinned (OpenSpec.upto utfSplitSpec)

end Rows
end Go.Proofs.YtbhfhkmcnomggaaDoor
