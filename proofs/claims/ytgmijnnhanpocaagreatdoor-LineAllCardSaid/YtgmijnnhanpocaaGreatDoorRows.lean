/-
  NARROWER THAN 'FOR EVERY INPUT', by the rows' own cells (each row's printed sentence says how): LineAll: laid · ReflowAll: laid · ReflowBack: laid · ReflowMarks: laid · ReflowOne: laid.
  DERIVED. THE GIVEN ROWS OF THIS SEAT. 5 by the template 'for every input the law returns true; each argument reads behind the call as it read before'; 0 by the template 'total and deterministic' (their statements: YtgmijnnhanpocaaGreatDoorTotals.lean).
  GIVEN WITH THE SEED: the statements are not yours to turn. If you find one false, say at which input.
  Laid BY PROGRAM, IN A SANDBOX (cutbox-rows.mjs): the forced cells as the released guide's own fill.sh prints them over the translation 338e9b7fbc09e504… (all of the seat's roots in one cut). By AI agents, Wed Nov 11 2026. No macro, syntax, notation, axiom, sorry.
-/
import Derived.Test.YtgmijnnhanpocaaGreatDoorChecked
import GoSem.Claim
import GoSem.ClaimJoined
import GoSem.ClaimMapViews
import Derived.JoinedTies
import Derived.KernelRfl
namespace Go.Proofs.YtgmijnnhanpocaaGreatDoor
/- THE CELL 'sum', in the pinned program and in every row, IS THE sha256 OF THE DUMP (.gsa) THAT YtgmijnnhanpocaaGreatDoorProg.lean LOADS. Nothing in Lean hashes anything: it is a label: what it is worth is what the hold of that sum in a sandbox is worth. -/
noncomputable def Tryz.pinned : Pinned := { name := "ytgmijnnhanpocaagreatdoor", sum := "338e9b7fbc09e504049753643c6e435b0d809f93b33fb73d5129bae026347c66", checked := Tryz.checked }
namespace Rows
def none {H : Type} : Left H := { results := [], args := [] }

/- WHAT THE LISTED PACKAGE-LEVEL VARIABLES READ AS WHEN THE CALL BEGINS. Each datum BY PROGRAM (the guide's laid-datum.mjs) off the statement by which the dump's own 'gosem.cut.vars' lays the variable. In a bare row this is a premise. The card (YtgmijnnhanpocaaGreatDoorCards.lean) ties it to the program's text. -/
def laid_rotulus_width_spans {H : Type} : DataW H := .agg [.agg [.lit (.int .i32 (-2147483648)), .lit (.int .i32 31), .lit (.int .i64 0)], .agg [.lit (.int .i32 127), .lit (.int .i32 159), .lit (.int .i64 0)], .agg [.lit (.int .i32 768), .lit (.int .i32 879), .lit (.int .i64 0)], .agg [.lit (.int .i32 4352), .lit (.int .i32 4447), .lit (.int .i64 2)], .agg [.lit (.int .i32 8203), .lit (.int .i32 8207), .lit (.int .i64 0)], .agg [.lit (.int .i32 11904), .lit (.int .i32 12350), .lit (.int .i64 2)], .agg [.lit (.int .i32 12353), .lit (.int .i32 13311), .lit (.int .i64 2)], .agg [.lit (.int .i32 13312), .lit (.int .i32 19903), .lit (.int .i64 2)], .agg [.lit (.int .i32 19968), .lit (.int .i32 40959), .lit (.int .i64 2)], .agg [.lit (.int .i32 40960), .lit (.int .i32 42191), .lit (.int .i64 2)], .agg [.lit (.int .i32 44032), .lit (.int .i32 55203), .lit (.int .i64 2)], .agg [.lit (.int .i32 55296), .lit (.int .i32 57343), .lit (.int .i64 0)], .agg [.lit (.int .i32 63744), .lit (.int .i32 64255), .lit (.int .i64 2)], .agg [.lit (.int .i32 65024), .lit (.int .i32 65039), .lit (.int .i64 0)], .agg [.lit (.int .i32 65072), .lit (.int .i32 65135), .lit (.int .i64 2)], .agg [.lit (.int .i32 65280), .lit (.int .i32 65376), .lit (.int .i64 2)], .agg [.lit (.int .i32 65504), .lit (.int .i32 65510), .lit (.int .i64 2)], .agg [.lit (.int .i32 127744), .lit (.int .i32 128591), .lit (.int .i64 2)], .agg [.lit (.int .i32 129280), .lit (.int .i32 129535), .lit (.int .i64 2)], .agg [.lit (.int .i32 131072), .lit (.int .i32 262141), .lit (.int .i64 2)], .agg [.lit (.int .i32 1114112), .lit (.int .i32 2147483647), .lit (.int .i64 0)]]

/-- 'rotuluslaw10.LineAll': WHATEVER THE INPUT: true; the input reads as it did. -/
def lineAllSpec : ChangeSpec := { name := "lineAll", fn := fun _ => fun
  | [d1, d2, d3, d4, d5] => { results := [.lit (.bool true)], args := [d1, d2, d3, d4, d5] }
  | _ => none }
def lineAllRow : OpenClaim := { program := "ytgmijnnhanpocaagreatdoor", sum := "338e9b7fbc09e504049753643c6e435b0d809f93b33fb73d5129bae026347c66", func := "rotulus/rotuluslaw10.LineAll", spec := "lineAll", inPlace := ["internal/bytealg.IndexByteString", "internal/bytealg.IndexString", "internal/abi.NoEscape"], unfollowed := true, recurses := true, named := ["rotulus/width.spans", "internal/bytealg.MaxLen"], apart := false, laid := [("rotulus/width.spans", laid_rotulus_width_spans)] }
def LineAllSaid : Prop := lineAllRow.holds Tryz.pinned (OpenSpec.ofChange lineAllSpec)

/-- ITS FALSE NEIGHBOUR: 'it returns false'. Refute it at one input. -/
def lineAllWrong : ChangeSpec := { name := "lineAll", fn := fun _ => fun
  | [d1, d2, d3, d4, d5] => { results := [.lit (.bool false)], args := [d1, d2, d3, d4, d5] }
  | _ => none }
def LineAllWrongFalsely : Prop := lineAllRow.holds Tryz.pinned (OpenSpec.ofChange lineAllWrong)

/-- 'rotuluslaw10.ReflowAll': WHATEVER THE INPUT: true; the input reads as it did. -/
def reflowAllSpec : ChangeSpec := { name := "reflowAll", fn := fun _ => fun
  | [d1, d2, d3] => { results := [.lit (.bool true)], args := [d1, d2, d3] }
  | _ => none }
def reflowAllRow : OpenClaim := { program := "ytgmijnnhanpocaagreatdoor", sum := "338e9b7fbc09e504049753643c6e435b0d809f93b33fb73d5129bae026347c66", func := "rotulus/rotuluslaw10.ReflowAll", spec := "reflowAll", inPlace := ["internal/bytealg.IndexByteString", "internal/bytealg.IndexString", "internal/abi.NoEscape"], unfollowed := true, recurses := true, named := ["rotulus/width.spans", "internal/bytealg.MaxLen"], apart := false, laid := [("rotulus/width.spans", laid_rotulus_width_spans)] }
def ReflowAllSaid : Prop := reflowAllRow.holds Tryz.pinned (OpenSpec.ofChange reflowAllSpec)

/-- ITS FALSE NEIGHBOUR: 'it returns false'. Refute it at one input. -/
def reflowAllWrong : ChangeSpec := { name := "reflowAll", fn := fun _ => fun
  | [d1, d2, d3] => { results := [.lit (.bool false)], args := [d1, d2, d3] }
  | _ => none }
def ReflowAllWrongFalsely : Prop := reflowAllRow.holds Tryz.pinned (OpenSpec.ofChange reflowAllWrong)

/-- 'rotuluslaw10.ReflowBack': WHATEVER THE INPUT: true; the input reads as it did. -/
def reflowBackSpec : ChangeSpec := { name := "reflowBack", fn := fun _ => fun
  | [d1, d2] => { results := [.lit (.bool true)], args := [d1, d2] }
  | _ => none }
def reflowBackRow : OpenClaim := { program := "ytgmijnnhanpocaagreatdoor", sum := "338e9b7fbc09e504049753643c6e435b0d809f93b33fb73d5129bae026347c66", func := "rotulus/rotuluslaw10.ReflowBack", spec := "reflowBack", inPlace := ["internal/bytealg.IndexByteString", "internal/bytealg.IndexString", "internal/abi.NoEscape"], unfollowed := true, recurses := true, named := ["rotulus/width.spans", "internal/bytealg.MaxLen"], apart := false, laid := [("rotulus/width.spans", laid_rotulus_width_spans)] }
def ReflowBackSaid : Prop := reflowBackRow.holds Tryz.pinned (OpenSpec.ofChange reflowBackSpec)

/-- ITS FALSE NEIGHBOUR: 'it returns false'. Refute it at one input. -/
def reflowBackWrong : ChangeSpec := { name := "reflowBack", fn := fun _ => fun
  | [d1, d2] => { results := [.lit (.bool false)], args := [d1, d2] }
  | _ => none }
def ReflowBackWrongFalsely : Prop := reflowBackRow.holds Tryz.pinned (OpenSpec.ofChange reflowBackWrong)

/-- 'rotuluslaw10.ReflowMarks': WHATEVER THE INPUT: true; the input reads as it did. -/
def reflowMarksSpec : ChangeSpec := { name := "reflowMarks", fn := fun _ => fun
  | [d1, d2, d3] => { results := [.lit (.bool true)], args := [d1, d2, d3] }
  | _ => none }
def reflowMarksRow : OpenClaim := { program := "ytgmijnnhanpocaagreatdoor", sum := "338e9b7fbc09e504049753643c6e435b0d809f93b33fb73d5129bae026347c66", func := "rotulus/rotuluslaw10.ReflowMarks", spec := "reflowMarks", inPlace := ["internal/bytealg.IndexByteString", "internal/bytealg.IndexString", "internal/abi.NoEscape"], unfollowed := true, recurses := true, named := ["rotulus/width.spans", "internal/bytealg.MaxLen"], apart := false, laid := [("rotulus/width.spans", laid_rotulus_width_spans)] }
def ReflowMarksSaid : Prop := reflowMarksRow.holds Tryz.pinned (OpenSpec.ofChange reflowMarksSpec)

/-- ITS FALSE NEIGHBOUR: 'it returns false'. Refute it at one input. -/
def reflowMarksWrong : ChangeSpec := { name := "reflowMarks", fn := fun _ => fun
  | [d1, d2, d3] => { results := [.lit (.bool false)], args := [d1, d2, d3] }
  | _ => none }
def ReflowMarksWrongFalsely : Prop := reflowMarksRow.holds Tryz.pinned (OpenSpec.ofChange reflowMarksWrong)

/-- 'rotuluslaw10.ReflowOne': WHATEVER THE INPUT: true; the input reads as it did. -/
def reflowOneSpec : ChangeSpec := { name := "reflowOne", fn := fun _ => fun
  | [d1, d2, d3] => { results := [.lit (.bool true)], args := [d1, d2, d3] }
  | _ => none }
def reflowOneRow : OpenClaim := { program := "ytgmijnnhanpocaagreatdoor", sum := "338e9b7fbc09e504049753643c6e435b0d809f93b33fb73d5129bae026347c66", func := "rotulus/rotuluslaw10.ReflowOne", spec := "reflowOne", inPlace := ["internal/bytealg.IndexByteString", "internal/bytealg.IndexString", "internal/abi.NoEscape"], unfollowed := true, recurses := true, named := ["rotulus/width.spans", "internal/bytealg.MaxLen"], apart := false, laid := [("rotulus/width.spans", laid_rotulus_width_spans)] }
def ReflowOneSaid : Prop := reflowOneRow.holds Tryz.pinned (OpenSpec.ofChange reflowOneSpec)

/-- ITS FALSE NEIGHBOUR: 'it returns false'. Refute it at one input. -/
def reflowOneWrong : ChangeSpec := { name := "reflowOne", fn := fun _ => fun
  | [d1, d2, d3] => { results := [.lit (.bool false)], args := [d1, d2, d3] }
  | _ => none }
def ReflowOneWrongFalsely : Prop := reflowOneRow.holds Tryz.pinned (OpenSpec.ofChange reflowOneWrong)

/- THE SECOND FORM. 'bulk': how many values and letters a reading holds, each counted each time it is reached (what is shared counts as often as it is met; a slice's spare places count too). A statement '..UptoSaid' is the law's where the arguments, and the package variables that the reading takes, are together of bulk at most 1048576: NARROWER than '..Said'. Prove '..Said' where nothing that the law and all that it calls make is longer than what came in: it says more and counts as full. Else prove '..UptoSaid'. A law counts once. -/
mutual
def uptoBulk {H : Type} : DataW H → Nat
  | .lit (.string bytes) => bytes.length + 1
  | .lit _ => 1
  | .nil => 1
  | .ptr d => uptoBulk d + 1
  | .slice elems spare => uptoBulkAll elems + uptoBulkAll spare + 1
  | .agg parts => uptoBulkAll parts + 1
  | .iface _ d => uptoBulk d + 1
  | .map entries => uptoBulkEntries entries + 1
  | .held _ => 1
def uptoBulkAll {H : Type} : List (DataW H) → Nat
  | [] => 0
  | d :: r => uptoBulk d + uptoBulkAll r
def uptoBulkEntries {H : Type} : List (Lit × DataW H) → Nat
  | [] => 0
  | x :: r => uptoBulkEntry x + uptoBulkEntries r
def uptoBulkEntry {H : Type} : Lit × DataW H → Nat
  | (.string bytes, d) => bytes.length + uptoBulk d + 1
  | (_, d) => uptoBulk d + 1
 end
def uptoSmall : (H : Type) → List (DataW H) → Bool := fun _ ds => decide (uptoBulkAll ds ≤ 1048576)
def OpenSpec.upto (s : _root_.Go.ChangeSpec) : _root_.Go.OpenSpec := { _root_.Go.OpenSpec.ofChange s with cond := some uptoSmall }

/-- 'rotuluslaw10.LineAll', WHERE WHAT IT READS IS OF BULK AT MOST 1048576: true; the input reads as it did. -/
def lineAllUptoRow : OpenClaim := { program := "ytgmijnnhanpocaagreatdoor", sum := "338e9b7fbc09e504049753643c6e435b0d809f93b33fb73d5129bae026347c66", func := "rotulus/rotuluslaw10.LineAll", spec := "lineAll", inPlace := ["internal/bytealg.IndexByteString", "internal/bytealg.IndexString", "internal/abi.NoEscape"], unfollowed := true, recurses := true, named := ["rotulus/width.spans", "internal/bytealg.MaxLen"], apart := false, laid := [("rotulus/width.spans", laid_rotulus_width_spans)], narrowed := true }
def LineAllUptoSaid : Prop := lineAllUptoRow.holds Tryz.pinned (OpenSpec.upto lineAllSpec)

/-- 'rotuluslaw10.ReflowAll', WHERE WHAT IT READS IS OF BULK AT MOST 1048576: true; the input reads as it did. -/
def reflowAllUptoRow : OpenClaim := { program := "ytgmijnnhanpocaagreatdoor", sum := "338e9b7fbc09e504049753643c6e435b0d809f93b33fb73d5129bae026347c66", func := "rotulus/rotuluslaw10.ReflowAll", spec := "reflowAll", inPlace := ["internal/bytealg.IndexByteString", "internal/bytealg.IndexString", "internal/abi.NoEscape"], unfollowed := true, recurses := true, named := ["rotulus/width.spans", "internal/bytealg.MaxLen"], apart := false, laid := [("rotulus/width.spans", laid_rotulus_width_spans)], narrowed := true }
def ReflowAllUptoSaid : Prop := reflowAllUptoRow.holds Tryz.pinned (OpenSpec.upto reflowAllSpec)

/-- 'rotuluslaw10.ReflowBack', WHERE WHAT IT READS IS OF BULK AT MOST 1048576: true; the input reads as it did. -/
def reflowBackUptoRow : OpenClaim := { program := "ytgmijnnhanpocaagreatdoor", sum := "338e9b7fbc09e504049753643c6e435b0d809f93b33fb73d5129bae026347c66", func := "rotulus/rotuluslaw10.ReflowBack", spec := "reflowBack", inPlace := ["internal/bytealg.IndexByteString", "internal/bytealg.IndexString", "internal/abi.NoEscape"], unfollowed := true, recurses := true, named := ["rotulus/width.spans", "internal/bytealg.MaxLen"], apart := false, laid := [("rotulus/width.spans", laid_rotulus_width_spans)], narrowed := true }
def ReflowBackUptoSaid : Prop := reflowBackUptoRow.holds Tryz.pinned (OpenSpec.upto reflowBackSpec)

/-- 'rotuluslaw10.ReflowMarks', WHERE WHAT IT READS IS OF BULK AT MOST 1048576: true; the input reads as it did. -/
def reflowMarksUptoRow : OpenClaim := { program := "ytgmijnnhanpocaagreatdoor", sum := "338e9b7fbc09e504049753643c6e435b0d809f93b33fb73d5129bae026347c66", func := "rotulus/rotuluslaw10.ReflowMarks", spec := "reflowMarks", inPlace := ["internal/bytealg.IndexByteString", "internal/bytealg.IndexString", "internal/abi.NoEscape"], unfollowed := true, recurses := true, named := ["rotulus/width.spans", "internal/bytealg.MaxLen"], apart := false, laid := [("rotulus/width.spans", laid_rotulus_width_spans)], narrowed := true }
def ReflowMarksUptoSaid : Prop := reflowMarksUptoRow.holds Tryz.pinned (OpenSpec.upto reflowMarksSpec)

/-- 'rotuluslaw10.ReflowOne', WHERE WHAT IT READS IS OF BULK AT MOST 1048576: true; the input reads as it did. -/
def reflowOneUptoRow : OpenClaim := { program := "ytgmijnnhanpocaagreatdoor", sum := "338e9b7fbc09e504049753643c6e435b0d809f93b33fb73d5129bae026347c66", func := "rotulus/rotuluslaw10.ReflowOne", spec := "reflowOne", inPlace := ["internal/bytealg.IndexByteString", "internal/bytealg.IndexString", "internal/abi.NoEscape"], unfollowed := true, recurses := true, named := ["rotulus/width.spans", "internal/bytealg.MaxLen"], apart := false, laid := [("rotulus/width.spans", laid_rotulus_width_spans)], narrowed := true }
def ReflowOneUptoSaid : Prop := reflowOneUptoRow.holds Tryz.pinned (OpenSpec.upto reflowOneSpec)

end Rows
end Go.Proofs.YtgmijnnhanpocaaGreatDoor
