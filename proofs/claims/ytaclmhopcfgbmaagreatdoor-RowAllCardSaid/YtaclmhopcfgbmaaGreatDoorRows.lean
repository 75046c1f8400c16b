/-
  NARROWER THAN 'FOR EVERY INPUT', by the rows' own cells (each row's printed sentence says how): EscOsc: laid · EscNumbers: laid · RowAll: laid · RowOwn: laid · RowSpan: laid · ScreenAll: laid · ScreenOf: laid · ScreenMay: laid · ScreenOwn: laid · ScreenHome: laid · ScreenMoves: laid · ScreenErase: laid.
  DERIVED. THE GIVEN ROWS OF THIS SEAT. 12 by the template 'for every input the law returns true; each argument reads behind the call as it read before'; 0 by the template 'total and deterministic' (their statements: YtaclmhopcfgbmaaGreatDoorTotals.lean).
  GIVEN WITH THE SEED: the statements are not yours to turn. If you find one false, say at which input.
  Laid BY PROGRAM, IN A SANDBOX (cutbox-rows.mjs): the forced cells as the released guide's own fill.sh prints them over the translation d5dabfb34abbb85c… (all of the seat's roots in one cut). By AI agents, Wed Nov 11 2026. No macro, syntax, notation, axiom, sorry.
-/
import Derived.Test.YtaclmhopcfgbmaaGreatDoorChecked
import GoSem.Claim
import GoSem.ClaimJoined
import GoSem.ClaimMapViews
import Derived.JoinedTies
import Derived.KernelRfl
namespace Go.Proofs.YtaclmhopcfgbmaaGreatDoor
/- THE CELL 'sum', in the pinned program and in every row, IS THE sha256 OF THE DUMP (.gsa) THAT YtaclmhopcfgbmaaGreatDoorProg.lean LOADS. Nothing in Lean hashes anything: it is a label: what it is worth is what the hold of that sum in a sandbox is worth. -/
noncomputable def Tryz.pinned : Pinned := { name := "ytaclmhopcfgbmaagreatdoor", sum := "d5dabfb34abbb85c6222781eefcde5b6918abec5a73720edaf5fc0cae9c0c943", checked := Tryz.checked }
namespace Rows
def none {H : Type} : Left H := { results := [], args := [] }

/- WHAT THE LISTED PACKAGE-LEVEL VARIABLES READ AS WHEN THE CALL BEGINS. Each datum BY PROGRAM (the guide's laid-datum.mjs) off the statement by which the dump's own 'gosem.cut.vars' lays the variable. In a bare row this is a premise. The card (YtaclmhopcfgbmaaGreatDoorCards.lean) ties it to the program's text. -/
def laid_rotulus_width_spans {H : Type} : DataW H := .agg [.agg [.lit (.int .i32 (-2147483648)), .lit (.int .i32 31), .lit (.int .i64 0)], .agg [.lit (.int .i32 127), .lit (.int .i32 159), .lit (.int .i64 0)], .agg [.lit (.int .i32 768), .lit (.int .i32 879), .lit (.int .i64 0)], .agg [.lit (.int .i32 4352), .lit (.int .i32 4447), .lit (.int .i64 2)], .agg [.lit (.int .i32 8203), .lit (.int .i32 8207), .lit (.int .i64 0)], .agg [.lit (.int .i32 11904), .lit (.int .i32 12350), .lit (.int .i64 2)], .agg [.lit (.int .i32 12353), .lit (.int .i32 13311), .lit (.int .i64 2)], .agg [.lit (.int .i32 13312), .lit (.int .i32 19903), .lit (.int .i64 2)], .agg [.lit (.int .i32 19968), .lit (.int .i32 40959), .lit (.int .i64 2)], .agg [.lit (.int .i32 40960), .lit (.int .i32 42191), .lit (.int .i64 2)], .agg [.lit (.int .i32 44032), .lit (.int .i32 55203), .lit (.int .i64 2)], .agg [.lit (.int .i32 55296), .lit (.int .i32 57343), .lit (.int .i64 0)], .agg [.lit (.int .i32 63744), .lit (.int .i32 64255), .lit (.int .i64 2)], .agg [.lit (.int .i32 65024), .lit (.int .i32 65039), .lit (.int .i64 0)], .agg [.lit (.int .i32 65072), .lit (.int .i32 65135), .lit (.int .i64 2)], .agg [.lit (.int .i32 65280), .lit (.int .i32 65376), .lit (.int .i64 2)], .agg [.lit (.int .i32 65504), .lit (.int .i32 65510), .lit (.int .i64 2)], .agg [.lit (.int .i32 127744), .lit (.int .i32 128591), .lit (.int .i64 2)], .agg [.lit (.int .i32 129280), .lit (.int .i32 129535), .lit (.int .i64 2)], .agg [.lit (.int .i32 131072), .lit (.int .i32 262141), .lit (.int .i64 2)], .agg [.lit (.int .i32 1114112), .lit (.int .i32 2147483647), .lit (.int .i64 0)]]

/-- 'rotuluslaw7.EscOsc': WHATEVER THE INPUT: true; the input reads as it did. -/
def escOscSpec : ChangeSpec := { name := "escOsc", fn := fun _ => fun
  | [d1, d2, d3] => { results := [.lit (.bool true)], args := [d1, d2, d3] }
  | _ => none }
def escOscRow : OpenClaim := { program := "ytaclmhopcfgbmaagreatdoor", sum := "d5dabfb34abbb85c6222781eefcde5b6918abec5a73720edaf5fc0cae9c0c943", func := "rotulus/rotuluslaw7.EscOsc", spec := "escOsc", inPlace := ["internal/bytealg.IndexByteString", "internal/bytealg.IndexString", "internal/abi.NoEscape"], unfollowed := true, recurses := true, named := ["rotulus/width.spans", "internal/bytealg.MaxLen"], apart := false, laid := [("rotulus/width.spans", laid_rotulus_width_spans)] }
def EscOscSaid : Prop := escOscRow.holds Tryz.pinned (OpenSpec.ofChange escOscSpec)

/-- ITS FALSE NEIGHBOUR: 'it returns false'. Refute it at one input. -/
def escOscWrong : ChangeSpec := { name := "escOsc", fn := fun _ => fun
  | [d1, d2, d3] => { results := [.lit (.bool false)], args := [d1, d2, d3] }
  | _ => none }
def EscOscWrongFalsely : Prop := escOscRow.holds Tryz.pinned (OpenSpec.ofChange escOscWrong)

/-- 'rotuluslaw7.EscNumbers': WHATEVER THE INPUT: true; the input reads as it did. -/
def escNumbersSpec : ChangeSpec := { name := "escNumbers", fn := fun _ => fun
  | [d1, d2] => { results := [.lit (.bool true)], args := [d1, d2] }
  | _ => none }
def escNumbersRow : OpenClaim := { program := "ytaclmhopcfgbmaagreatdoor", sum := "d5dabfb34abbb85c6222781eefcde5b6918abec5a73720edaf5fc0cae9c0c943", func := "rotulus/rotuluslaw7.EscNumbers", spec := "escNumbers", inPlace := ["internal/bytealg.IndexByteString", "internal/bytealg.IndexString", "internal/abi.NoEscape"], unfollowed := true, recurses := true, named := ["rotulus/width.spans", "internal/bytealg.MaxLen"], apart := false, laid := [("rotulus/width.spans", laid_rotulus_width_spans)] }
def EscNumbersSaid : Prop := escNumbersRow.holds Tryz.pinned (OpenSpec.ofChange escNumbersSpec)

/-- ITS FALSE NEIGHBOUR: 'it returns false'. Refute it at one input. -/
def escNumbersWrong : ChangeSpec := { name := "escNumbers", fn := fun _ => fun
  | [d1, d2] => { results := [.lit (.bool false)], args := [d1, d2] }
  | _ => none }
def EscNumbersWrongFalsely : Prop := escNumbersRow.holds Tryz.pinned (OpenSpec.ofChange escNumbersWrong)

/-- 'rotuluslaw7.RowAll': WHATEVER THE INPUT: true; the input reads as it did. -/
def rowAllSpec : ChangeSpec := { name := "rowAll", fn := fun _ => fun
  | [d1, d2, d3, d4, d5, d6] => { results := [.lit (.bool true)], args := [d1, d2, d3, d4, d5, d6] }
  | _ => none }
def rowAllRow : OpenClaim := { program := "ytaclmhopcfgbmaagreatdoor", sum := "d5dabfb34abbb85c6222781eefcde5b6918abec5a73720edaf5fc0cae9c0c943", func := "rotulus/rotuluslaw7.RowAll", spec := "rowAll", inPlace := ["internal/bytealg.IndexByteString", "internal/bytealg.IndexString", "internal/abi.NoEscape"], unfollowed := true, recurses := true, named := ["rotulus/width.spans", "internal/bytealg.MaxLen"], apart := false, laid := [("rotulus/width.spans", laid_rotulus_width_spans)] }
def RowAllSaid : Prop := rowAllRow.holds Tryz.pinned (OpenSpec.ofChange rowAllSpec)

/-- ITS FALSE NEIGHBOUR: 'it returns false'. Refute it at one input. -/
def rowAllWrong : ChangeSpec := { name := "rowAll", fn := fun _ => fun
  | [d1, d2, d3, d4, d5, d6] => { results := [.lit (.bool false)], args := [d1, d2, d3, d4, d5, d6] }
  | _ => none }
def RowAllWrongFalsely : Prop := rowAllRow.holds Tryz.pinned (OpenSpec.ofChange rowAllWrong)

/-- 'rotuluslaw7.RowOwn': WHATEVER THE INPUT: true; the input reads as it did. -/
def rowOwnSpec : ChangeSpec := { name := "rowOwn", fn := fun _ => fun
  | [d1, d2, d3] => { results := [.lit (.bool true)], args := [d1, d2, d3] }
  | _ => none }
def rowOwnRow : OpenClaim := { program := "ytaclmhopcfgbmaagreatdoor", sum := "d5dabfb34abbb85c6222781eefcde5b6918abec5a73720edaf5fc0cae9c0c943", func := "rotulus/rotuluslaw7.RowOwn", spec := "rowOwn", inPlace := ["internal/bytealg.IndexByteString", "internal/bytealg.IndexString", "internal/abi.NoEscape"], unfollowed := true, recurses := true, named := ["rotulus/width.spans", "internal/bytealg.MaxLen"], apart := false, laid := [("rotulus/width.spans", laid_rotulus_width_spans)] }
def RowOwnSaid : Prop := rowOwnRow.holds Tryz.pinned (OpenSpec.ofChange rowOwnSpec)

/-- ITS FALSE NEIGHBOUR: 'it returns false'. Refute it at one input. -/
def rowOwnWrong : ChangeSpec := { name := "rowOwn", fn := fun _ => fun
  | [d1, d2, d3] => { results := [.lit (.bool false)], args := [d1, d2, d3] }
  | _ => none }
def RowOwnWrongFalsely : Prop := rowOwnRow.holds Tryz.pinned (OpenSpec.ofChange rowOwnWrong)

/-- 'rotuluslaw7.RowSpan': WHATEVER THE INPUT: true; the input reads as it did. -/
def rowSpanSpec : ChangeSpec := { name := "rowSpan", fn := fun _ => fun
  | [d1, d2, d3] => { results := [.lit (.bool true)], args := [d1, d2, d3] }
  | _ => none }
def rowSpanRow : OpenClaim := { program := "ytaclmhopcfgbmaagreatdoor", sum := "d5dabfb34abbb85c6222781eefcde5b6918abec5a73720edaf5fc0cae9c0c943", func := "rotulus/rotuluslaw7.RowSpan", spec := "rowSpan", inPlace := ["internal/bytealg.IndexByteString", "internal/bytealg.IndexString", "internal/abi.NoEscape"], unfollowed := true, recurses := true, named := ["rotulus/width.spans", "internal/bytealg.MaxLen"], apart := false, laid := [("rotulus/width.spans", laid_rotulus_width_spans)] }
def RowSpanSaid : Prop := rowSpanRow.holds Tryz.pinned (OpenSpec.ofChange rowSpanSpec)

/-- ITS FALSE NEIGHBOUR: 'it returns false'. Refute it at one input. -/
def rowSpanWrong : ChangeSpec := { name := "rowSpan", fn := fun _ => fun
  | [d1, d2, d3] => { results := [.lit (.bool false)], args := [d1, d2, d3] }
  | _ => none }
def RowSpanWrongFalsely : Prop := rowSpanRow.holds Tryz.pinned (OpenSpec.ofChange rowSpanWrong)

/-- 'rotuluslaw7.ScreenAll': WHATEVER THE INPUT: true; the input reads as it did. -/
def screenAllSpec : ChangeSpec := { name := "screenAll", fn := fun _ => fun
  | [d1, d2, d3] => { results := [.lit (.bool true)], args := [d1, d2, d3] }
  | _ => none }
def screenAllRow : OpenClaim := { program := "ytaclmhopcfgbmaagreatdoor", sum := "d5dabfb34abbb85c6222781eefcde5b6918abec5a73720edaf5fc0cae9c0c943", func := "rotulus/rotuluslaw7.ScreenAll", spec := "screenAll", inPlace := ["internal/bytealg.IndexByteString", "internal/bytealg.IndexString", "internal/abi.NoEscape"], unfollowed := true, recurses := true, named := ["rotulus/width.spans", "internal/bytealg.MaxLen"], apart := false, laid := [("rotulus/width.spans", laid_rotulus_width_spans)] }
def ScreenAllSaid : Prop := screenAllRow.holds Tryz.pinned (OpenSpec.ofChange screenAllSpec)

/-- ITS FALSE NEIGHBOUR: 'it returns false'. Refute it at one input. -/
def screenAllWrong : ChangeSpec := { name := "screenAll", fn := fun _ => fun
  | [d1, d2, d3] => { results := [.lit (.bool false)], args := [d1, d2, d3] }
  | _ => none }
def ScreenAllWrongFalsely : Prop := screenAllRow.holds Tryz.pinned (OpenSpec.ofChange screenAllWrong)

/-- 'rotuluslaw7.ScreenOf': WHATEVER THE INPUT: true; the input reads as it did. -/
def screenOfSpec : ChangeSpec := { name := "screenOf", fn := fun _ => fun
  | [d1, d2, d3, d4, d5, d6] => { results := [.lit (.bool true)], args := [d1, d2, d3, d4, d5, d6] }
  | _ => none }
def screenOfRow : OpenClaim := { program := "ytaclmhopcfgbmaagreatdoor", sum := "d5dabfb34abbb85c6222781eefcde5b6918abec5a73720edaf5fc0cae9c0c943", func := "rotulus/rotuluslaw7.ScreenOf", spec := "screenOf", inPlace := ["internal/bytealg.IndexByteString", "internal/bytealg.IndexString", "internal/abi.NoEscape"], unfollowed := true, recurses := true, named := ["rotulus/width.spans", "internal/bytealg.MaxLen"], apart := false, laid := [("rotulus/width.spans", laid_rotulus_width_spans)] }
def ScreenOfSaid : Prop := screenOfRow.holds Tryz.pinned (OpenSpec.ofChange screenOfSpec)

/-- ITS FALSE NEIGHBOUR: 'it returns false'. Refute it at one input. -/
def screenOfWrong : ChangeSpec := { name := "screenOf", fn := fun _ => fun
  | [d1, d2, d3, d4, d5, d6] => { results := [.lit (.bool false)], args := [d1, d2, d3, d4, d5, d6] }
  | _ => none }
def ScreenOfWrongFalsely : Prop := screenOfRow.holds Tryz.pinned (OpenSpec.ofChange screenOfWrong)

/-- 'rotuluslaw7.ScreenMay': WHATEVER THE INPUT: true; the input reads as it did. -/
def screenMaySpec : ChangeSpec := { name := "screenMay", fn := fun _ => fun
  | [d1, d2, d3] => { results := [.lit (.bool true)], args := [d1, d2, d3] }
  | _ => none }
def screenMayRow : OpenClaim := { program := "ytaclmhopcfgbmaagreatdoor", sum := "d5dabfb34abbb85c6222781eefcde5b6918abec5a73720edaf5fc0cae9c0c943", func := "rotulus/rotuluslaw7.ScreenMay", spec := "screenMay", inPlace := ["internal/bytealg.IndexByteString", "internal/bytealg.IndexString", "internal/abi.NoEscape"], unfollowed := true, recurses := true, named := ["rotulus/width.spans", "internal/bytealg.MaxLen"], apart := false, laid := [("rotulus/width.spans", laid_rotulus_width_spans)] }
def ScreenMaySaid : Prop := screenMayRow.holds Tryz.pinned (OpenSpec.ofChange screenMaySpec)

/-- ITS FALSE NEIGHBOUR: 'it returns false'. Refute it at one input. -/
def screenMayWrong : ChangeSpec := { name := "screenMay", fn := fun _ => fun
  | [d1, d2, d3] => { results := [.lit (.bool false)], args := [d1, d2, d3] }
  | _ => none }
def ScreenMayWrongFalsely : Prop := screenMayRow.holds Tryz.pinned (OpenSpec.ofChange screenMayWrong)

/-- 'rotuluslaw7.ScreenOwn': WHATEVER THE INPUT: true; the input reads as it did. -/
def screenOwnSpec : ChangeSpec := { name := "screenOwn", fn := fun _ => fun
  | [d] => { results := [.lit (.bool true)], args := [d] }
  | _ => none }
def screenOwnRow : OpenClaim := { program := "ytaclmhopcfgbmaagreatdoor", sum := "d5dabfb34abbb85c6222781eefcde5b6918abec5a73720edaf5fc0cae9c0c943", func := "rotulus/rotuluslaw7.ScreenOwn", spec := "screenOwn", inPlace := ["internal/bytealg.IndexByteString", "internal/bytealg.IndexString", "internal/abi.NoEscape"], unfollowed := true, recurses := true, named := ["rotulus/width.spans", "internal/bytealg.MaxLen"], apart := false, laid := [("rotulus/width.spans", laid_rotulus_width_spans)] }
def ScreenOwnSaid : Prop := screenOwnRow.holds Tryz.pinned (OpenSpec.ofChange screenOwnSpec)

/-- ITS FALSE NEIGHBOUR: 'it returns false'. Refute it at one input. -/
def screenOwnWrong : ChangeSpec := { name := "screenOwn", fn := fun _ => fun
  | [d] => { results := [.lit (.bool false)], args := [d] }
  | _ => none }
def ScreenOwnWrongFalsely : Prop := screenOwnRow.holds Tryz.pinned (OpenSpec.ofChange screenOwnWrong)

/-- 'rotuluslaw7.ScreenHome': WHATEVER THE INPUT: true; the input reads as it did. -/
def screenHomeSpec : ChangeSpec := { name := "screenHome", fn := fun _ => fun
  | [d] => { results := [.lit (.bool true)], args := [d] }
  | _ => none }
def screenHomeRow : OpenClaim := { program := "ytaclmhopcfgbmaagreatdoor", sum := "d5dabfb34abbb85c6222781eefcde5b6918abec5a73720edaf5fc0cae9c0c943", func := "rotulus/rotuluslaw7.ScreenHome", spec := "screenHome", inPlace := ["internal/bytealg.IndexByteString", "internal/bytealg.IndexString", "internal/abi.NoEscape"], unfollowed := true, recurses := true, named := ["rotulus/width.spans", "internal/bytealg.MaxLen"], apart := false, laid := [("rotulus/width.spans", laid_rotulus_width_spans)] }
def ScreenHomeSaid : Prop := screenHomeRow.holds Tryz.pinned (OpenSpec.ofChange screenHomeSpec)

/-- ITS FALSE NEIGHBOUR: 'it returns false'. Refute it at one input. -/
def screenHomeWrong : ChangeSpec := { name := "screenHome", fn := fun _ => fun
  | [d] => { results := [.lit (.bool false)], args := [d] }
  | _ => none }
def ScreenHomeWrongFalsely : Prop := screenHomeRow.holds Tryz.pinned (OpenSpec.ofChange screenHomeWrong)

/-- 'rotuluslaw7.ScreenMoves': WHATEVER THE INPUT: true; the input reads as it did. -/
def screenMovesSpec : ChangeSpec := { name := "screenMoves", fn := fun _ => fun
  | [d1, d2] => { results := [.lit (.bool true)], args := [d1, d2] }
  | _ => none }
def screenMovesRow : OpenClaim := { program := "ytaclmhopcfgbmaagreatdoor", sum := "d5dabfb34abbb85c6222781eefcde5b6918abec5a73720edaf5fc0cae9c0c943", func := "rotulus/rotuluslaw7.ScreenMoves", spec := "screenMoves", inPlace := ["internal/bytealg.IndexByteString", "internal/bytealg.IndexString", "internal/abi.NoEscape"], unfollowed := true, recurses := true, named := ["rotulus/width.spans", "internal/bytealg.MaxLen"], apart := false, laid := [("rotulus/width.spans", laid_rotulus_width_spans)] }
def ScreenMovesSaid : Prop := screenMovesRow.holds Tryz.pinned (OpenSpec.ofChange screenMovesSpec)

/-- ITS FALSE NEIGHBOUR: 'it returns false'. Refute it at one input. -/
def screenMovesWrong : ChangeSpec := { name := "screenMoves", fn := fun _ => fun
  | [d1, d2] => { results := [.lit (.bool false)], args := [d1, d2] }
  | _ => none }
def ScreenMovesWrongFalsely : Prop := screenMovesRow.holds Tryz.pinned (OpenSpec.ofChange screenMovesWrong)

/-- 'rotuluslaw7.ScreenErase': WHATEVER THE INPUT: true; the input reads as it did. -/
def screenEraseSpec : ChangeSpec := { name := "screenErase", fn := fun _ => fun
  | [d1, d2] => { results := [.lit (.bool true)], args := [d1, d2] }
  | _ => none }
def screenEraseRow : OpenClaim := { program := "ytaclmhopcfgbmaagreatdoor", sum := "d5dabfb34abbb85c6222781eefcde5b6918abec5a73720edaf5fc0cae9c0c943", func := "rotulus/rotuluslaw7.ScreenErase", spec := "screenErase", inPlace := ["internal/bytealg.IndexByteString", "internal/bytealg.IndexString", "internal/abi.NoEscape"], unfollowed := true, recurses := true, named := ["rotulus/width.spans", "internal/bytealg.MaxLen"], apart := false, laid := [("rotulus/width.spans", laid_rotulus_width_spans)] }
def ScreenEraseSaid : Prop := screenEraseRow.holds Tryz.pinned (OpenSpec.ofChange screenEraseSpec)

/-- ITS FALSE NEIGHBOUR: 'it returns false'. Refute it at one input. -/
def screenEraseWrong : ChangeSpec := { name := "screenErase", fn := fun _ => fun
  | [d1, d2] => { results := [.lit (.bool false)], args := [d1, d2] }
  | _ => none }
def ScreenEraseWrongFalsely : Prop := screenEraseRow.holds Tryz.pinned (OpenSpec.ofChange screenEraseWrong)

/- THE SECOND FORM. 'bulk': how many values and letters a reading holds, each counted each time it is reached (what is shared counts as often as it is met; a slice's spare places count too). A statement '..UptoSaid' is the law's where the arguments, and the package variables that the reading takes, are together of bulk at most 1048576: NARROWER than '..Said'. Prove '..Said' where nothing that the law and all that it calls make is longer than what came in: it says more and counts as full. Else prove '..UptoSaid'. A law counts once. -/
mutual
def uptoBulk {H : Type} : DataW H → Nat
  | .lit (.string bytes) => bytes.length + 1
  | .lit _ => 1
  | .nil => 1
  | .ptr d => uptoBulk d + 1
  | .slice elems spare => uptoBulkAll elems + uptoBulkAll spare + 1
  | .agg parts => uptoBulkAll parts + 1
  | .iface _ d => uptoBulk d + 1
  | .map entries => uptoBulkEntries entries + 1
  | .held _ => 1
def uptoBulkAll {H : Type} : List (DataW H) → Nat
  | [] => 0
  | d :: r => uptoBulk d + uptoBulkAll r
def uptoBulkEntries {H : Type} : List (Lit × DataW H) → Nat
  | [] => 0
  | x :: r => uptoBulkEntry x + uptoBulkEntries r
def uptoBulkEntry {H : Type} : Lit × DataW H → Nat
  | (.string bytes, d) => bytes.length + uptoBulk d + 1
  | (_, d) => uptoBulk d + 1
 end
def uptoSmall : (H : Type) → List (DataW H) → Bool := fun _ ds => decide (uptoBulkAll ds ≤ 1048576)
def OpenSpec.upto (s : _root_.Go.ChangeSpec) : _root_.Go.OpenSpec := { _root_.Go.OpenSpec.ofChange s with cond := some uptoSmall }

/-- 'rotuluslaw7.EscOsc', WHERE WHAT IT READS IS OF BULK AT MOST 1048576: true; the input reads as it did. -/
def escOscUptoRow : OpenClaim := { program := "ytaclmhopcfgbmaagreatdoor", sum := "d5dabfb34abbb85c6222781eefcde5b6918abec5a73720edaf5fc0cae9c0c943", func := "rotulus/rotuluslaw7.EscOsc", spec := "escOsc", inPlace := ["internal/bytealg.IndexByteString", "internal/bytealg.IndexString", "internal/abi.NoEscape"], unfollowed := true, recurses := true, named := ["rotulus/width.spans", "internal/bytealg.MaxLen"], apart := false, laid := [("rotulus/width.spans", laid_rotulus_width_spans)], narrowed := true }
def EscOscUptoSaid : Prop := escOscUptoRow.holds Tryz.pinned (OpenSpec.upto escOscSpec)

/-- 'rotuluslaw7.EscNumbers', WHERE WHAT IT READS IS OF BULK AT MOST 1048576: true; the input reads as it did. -/
def escNumbersUptoRow : OpenClaim := { program := "ytaclmhopcfgbmaagreatdoor", sum := "d5dabfb34abbb85c6222781eefcde5b6918abec5a73720edaf5fc0cae9c0c943", func := "rotulus/rotuluslaw7.EscNumbers", spec := "escNumbers", inPlace := ["internal/bytealg.IndexByteString", "internal/bytealg.IndexString", "internal/abi.NoEscape"], unfollowed := true, recurses := true, named := ["rotulus/width.spans", "internal/bytealg.MaxLen"], apart := false, laid := [("rotulus/width.spans", laid_rotulus_width_spans)], narrowed := true }
def EscNumbersUptoSaid : Prop := escNumbersUptoRow.holds Tryz.pinned (OpenSpec.upto escNumbersSpec)

/-- 'rotuluslaw7.RowAll', WHERE WHAT IT READS IS OF BULK AT MOST 1048576: true; the input reads as it did. -/
def rowAllUptoRow : OpenClaim := { program := "ytaclmhopcfgbmaagreatdoor", sum := "d5dabfb34abbb85c6222781eefcde5b6918abec5a73720edaf5fc0cae9c0c943", func := "rotulus/rotuluslaw7.RowAll", spec := "rowAll", inPlace := ["internal/bytealg.IndexByteString", "internal/bytealg.IndexString", "internal/abi.NoEscape"], unfollowed := true, recurses := true, named := ["rotulus/width.spans", "internal/bytealg.MaxLen"], apart := false, laid := [("rotulus/width.spans", laid_rotulus_width_spans)], narrowed := true }
def RowAllUptoSaid : Prop := rowAllUptoRow.holds Tryz.pinned (OpenSpec.upto rowAllSpec)

/-- 'rotuluslaw7.RowOwn', WHERE WHAT IT READS IS OF BULK AT MOST 1048576: true; the input reads as it did. -/
def rowOwnUptoRow : OpenClaim := { program := "ytaclmhopcfgbmaagreatdoor", sum := "d5dabfb34abbb85c6222781eefcde5b6918abec5a73720edaf5fc0cae9c0c943", func := "rotulus/rotuluslaw7.RowOwn", spec := "rowOwn", inPlace := ["internal/bytealg.IndexByteString", "internal/bytealg.IndexString", "internal/abi.NoEscape"], unfollowed := true, recurses := true, named := ["rotulus/width.spans", "internal/bytealg.MaxLen"], apart := false, laid := [("rotulus/width.spans", laid_rotulus_width_spans)], narrowed := true }
def RowOwnUptoSaid : Prop := rowOwnUptoRow.holds Tryz.pinned (OpenSpec.upto rowOwnSpec)

/-- 'rotuluslaw7.RowSpan', WHERE WHAT IT READS IS OF BULK AT MOST 1048576: true; the input reads as it did. -/
def rowSpanUptoRow : OpenClaim := { program := "ytaclmhopcfgbmaagreatdoor", sum := "d5dabfb34abbb85c6222781eefcde5b6918abec5a73720edaf5fc0cae9c0c943", func := "rotulus/rotuluslaw7.RowSpan", spec := "rowSpan", inPlace := ["internal/bytealg.IndexByteString", "internal/bytealg.IndexString", "internal/abi.NoEscape"], unfollowed := true, recurses := true, named := ["rotulus/width.spans", "internal/bytealg.MaxLen"], apart := false, laid := [("rotulus/width.spans", laid_rotulus_width_spans)], narrowed := true }
def RowSpanUptoSaid : Prop := rowSpanUptoRow.holds Tryz.pinned (OpenSpec.upto rowSpanSpec)

/-- 'rotuluslaw7.ScreenAll', WHERE WHAT IT READS IS OF BULK AT MOST 1048576: true; the input reads as it did. -/
def screenAllUptoRow : OpenClaim := { program := "ytaclmhopcfgbmaagreatdoor", sum := "d5dabfb34abbb85c6222781eefcde5b6918abec5a73720edaf5fc0cae9c0c943", func := "rotulus/rotuluslaw7.ScreenAll", spec := "screenAll", inPlace := ["internal/bytealg.IndexByteString", "internal/bytealg.IndexString", "internal/abi.NoEscape"], unfollowed := true, recurses := true, named := ["rotulus/width.spans", "internal/bytealg.MaxLen"], apart := false, laid := [("rotulus/width.spans", laid_rotulus_width_spans)], narrowed := true }
def ScreenAllUptoSaid : Prop := screenAllUptoRow.holds Tryz.pinned (OpenSpec.upto screenAllSpec)

/-- 'rotuluslaw7.ScreenOf', WHERE WHAT IT READS IS OF BULK AT MOST 1048576: true; the input reads as it did. -/
def screenOfUptoRow : OpenClaim := { program := "ytaclmhopcfgbmaagreatdoor", sum := "d5dabfb34abbb85c6222781eefcde5b6918abec5a73720edaf5fc0cae9c0c943", func := "rotulus/rotuluslaw7.ScreenOf", spec := "screenOf", inPlace := ["internal/bytealg.IndexByteString", "internal/bytealg.IndexString", "internal/abi.NoEscape"], unfollowed := true, recurses := true, named := ["rotulus/width.spans", "internal/bytealg.MaxLen"], apart := false, laid := [("rotulus/width.spans", laid_rotulus_width_spans)], narrowed := true }
def ScreenOfUptoSaid : Prop := screenOfUptoRow.holds Tryz.pinned (OpenSpec.upto screenOfSpec)

/-- 'rotuluslaw7.ScreenMay', WHERE WHAT IT READS IS OF BULK AT MOST 1048576: true; the input reads as it did. -/
def screenMayUptoRow : OpenClaim := { program := "ytaclmhopcfgbmaagreatdoor", sum := "d5dabfb34abbb85c6222781eefcde5b6918abec5a73720edaf5fc0cae9c0c943", func := "rotulus/rotuluslaw7.ScreenMay", spec := "screenMay", inPlace := ["internal/bytealg.IndexByteString", "internal/bytealg.IndexString", "internal/abi.NoEscape"], unfollowed := true, recurses := true, named := ["rotulus/width.spans", "internal/bytealg.MaxLen"], apart := false, laid := [("rotulus/width.spans", laid_rotulus_width_spans)], narrowed := true }
def ScreenMayUptoSaid : Prop := screenMayUptoRow.holds Tryz.pinned (OpenSpec.upto screenMaySpec)

/-- 'rotuluslaw7.ScreenOwn', WHERE WHAT IT READS IS OF BULK AT MOST 1048576: true; the input reads as it did. -/
def screenOwnUptoRow : OpenClaim := { program := "ytaclmhopcfgbmaagreatdoor", sum := "d5dabfb34abbb85c6222781eefcde5b6918abec5a73720edaf5fc0cae9c0c943", func := "rotulus/rotuluslaw7.ScreenOwn", spec := "screenOwn", inPlace := ["internal/bytealg.IndexByteString", "internal/bytealg.IndexString", "internal/abi.NoEscape"], unfollowed := true, recurses := true, named := ["rotulus/width.spans", "internal/bytealg.MaxLen"], apart := false, laid := [("rotulus/width.spans", laid_rotulus_width_spans)], narrowed := true }
def ScreenOwnUptoSaid : Prop := screenOwnUptoRow.holds Tryz.pinned (OpenSpec.upto screenOwnSpec)

/-- 'rotuluslaw7.ScreenHome', WHERE WHAT IT READS IS OF BULK AT MOST 1048576: true; the input reads as it did. -/
def screenHomeUptoRow : OpenClaim := { program := "ytaclmhopcfgbmaagreatdoor", sum := "d5dabfb34abbb85c6222781eefcde5b6918abec5a73720edaf5fc0cae9c0c943", func := "rotulus/rotuluslaw7.ScreenHome", spec := "screenHome", inPlace := ["internal/bytealg.IndexByteString", "internal/bytealg.IndexString", "internal/abi.NoEscape"], unfollowed := true, recurses := true, named := ["rotulus/width.spans", "internal/bytealg.MaxLen"], apart := false, laid := [("rotulus/width.spans", laid_rotulus_width_spans)], narrowed := true }
def ScreenHomeUptoSaid : Prop := screenHomeUptoRow.holds Tryz.pinned (OpenSpec.upto screenHomeSpec)

/-- 'rotuluslaw7.ScreenMoves', WHERE WHAT IT READS IS OF BULK AT MOST 1048576: true; the input reads as it did. -/
def screenMovesUptoRow : OpenClaim := { program := "ytaclmhopcfgbmaagreatdoor", sum := "d5dabfb34abbb85c6222781eefcde5b6918abec5a73720edaf5fc0cae9c0c943", func := "rotulus/rotuluslaw7.ScreenMoves", spec := "screenMoves", inPlace := ["internal/bytealg.IndexByteString", "internal/bytealg.IndexString", "internal/abi.NoEscape"], unfollowed := true, recurses := true, named := ["rotulus/width.spans", "internal/bytealg.MaxLen"], apart := false, laid := [("rotulus/width.spans", laid_rotulus_width_spans)], narrowed := true }
def ScreenMovesUptoSaid : Prop := screenMovesUptoRow.holds Tryz.pinned (OpenSpec.upto screenMovesSpec)

/-- 'rotuluslaw7.ScreenErase', WHERE WHAT IT READS IS OF BULK AT MOST 1048576: true; the input reads as it did. -/
def screenEraseUptoRow : OpenClaim := { program := "ytaclmhopcfgbmaagreatdoor", sum := "d5dabfb34abbb85c6222781eefcde5b6918abec5a73720edaf5fc0cae9c0c943", func := "rotulus/rotuluslaw7.ScreenErase", spec := "screenErase", inPlace := ["internal/bytealg.IndexByteString", "internal/bytealg.IndexString", "internal/abi.NoEscape"], unfollowed := true, recurses := true, named := ["rotulus/width.spans", "internal/bytealg.MaxLen"], apart := false, laid := [("rotulus/width.spans", laid_rotulus_width_spans)], narrowed := true }
def ScreenEraseUptoSaid : Prop := screenEraseUptoRow.holds Tryz.pinned (OpenSpec.upto screenEraseSpec)

end Rows
end Go.Proofs.YtaclmhopcfgbmaaGreatDoor
