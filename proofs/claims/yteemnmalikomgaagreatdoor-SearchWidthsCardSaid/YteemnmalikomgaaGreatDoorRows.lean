/-
  NARROWER THAN 'FOR EVERY INPUT', by the rows' own cells (each row's printed sentence says how): NfaPlain: laid · NfaAlt: laid · FindAll: laid · FindCount: laid · FindAnchors: laid · SearchAll: laid · SearchRound: laid · SearchWidths: laid.
  DERIVED. THE GIVEN ROWS OF THIS SEAT. 8 by the template 'for every input the law returns true; each argument reads behind the call as it read before'; 0 by the template 'total and deterministic' (their statements: YteemnmalikomgaaGreatDoorTotals.lean).
  GIVEN WITH THE SEED: the statements are not yours to turn. If you find one false, say at which input.
  Laid BY PROGRAM, IN A SANDBOX (cutbox-rows.mjs): the forced cells as the released guide's own fill.sh prints them over the translation f579e38f87915f4d… (all of the seat's roots in one cut). By AI agents, Wed Nov 11 2026. No macro, syntax, notation, axiom, sorry.
-/
import Derived.Test.YteemnmalikomgaaGreatDoorChecked
import GoSem.Claim
import GoSem.ClaimJoined
import GoSem.ClaimMapViews
import Derived.JoinedTies
import Derived.KernelRfl
namespace Go.Proofs.YteemnmalikomgaaGreatDoor
/- THE CELL 'sum', in the pinned program and in every row, IS THE sha256 OF THE DUMP (.gsa) THAT YteemnmalikomgaaGreatDoorProg.lean LOADS. Nothing in Lean hashes anything: it is a label: what it is worth is what the hold of that sum in a sandbox is worth. -/
noncomputable def Tryz.pinned : Pinned := { name := "yteemnmalikomgaagreatdoor", sum := "f579e38f87915f4d11ec0772e40102dae8815a690584af61d33ddb94ea298044", checked := Tryz.checked }
namespace Rows
def none {H : Type} : Left H := { results := [], args := [] }

/- WHAT THE LISTED PACKAGE-LEVEL VARIABLES READ AS WHEN THE CALL BEGINS. Each datum BY PROGRAM (the guide's laid-datum.mjs) off the statement by which the dump's own 'gosem.cut.vars' lays the variable. In a bare row this is a premise. The card (YteemnmalikomgaaGreatDoorCards.lean) ties it to the program's text. -/
def laid_rotulus_width_spans {H : Type} : DataW H := .agg [.agg [.lit (.int .i32 (-2147483648)), .lit (.int .i32 31), .lit (.int .i64 0)], .agg [.lit (.int .i32 127), .lit (.int .i32 159), .lit (.int .i64 0)], .agg [.lit (.int .i32 768), .lit (.int .i32 879), .lit (.int .i64 0)], .agg [.lit (.int .i32 4352), .lit (.int .i32 4447), .lit (.int .i64 2)], .agg [.lit (.int .i32 8203), .lit (.int .i32 8207), .lit (.int .i64 0)], .agg [.lit (.int .i32 11904), .lit (.int .i32 12350), .lit (.int .i64 2)], .agg [.lit (.int .i32 12353), .lit (.int .i32 13311), .lit (.int .i64 2)], .agg [.lit (.int .i32 13312), .lit (.int .i32 19903), .lit (.int .i64 2)], .agg [.lit (.int .i32 19968), .lit (.int .i32 40959), .lit (.int .i64 2)], .agg [.lit (.int .i32 40960), .lit (.int .i32 42191), .lit (.int .i64 2)], .agg [.lit (.int .i32 44032), .lit (.int .i32 55203), .lit (.int .i64 2)], .agg [.lit (.int .i32 55296), .lit (.int .i32 57343), .lit (.int .i64 0)], .agg [.lit (.int .i32 63744), .lit (.int .i32 64255), .lit (.int .i64 2)], .agg [.lit (.int .i32 65024), .lit (.int .i32 65039), .lit (.int .i64 0)], .agg [.lit (.int .i32 65072), .lit (.int .i32 65135), .lit (.int .i64 2)], .agg [.lit (.int .i32 65280), .lit (.int .i32 65376), .lit (.int .i64 2)], .agg [.lit (.int .i32 65504), .lit (.int .i32 65510), .lit (.int .i64 2)], .agg [.lit (.int .i32 127744), .lit (.int .i32 128591), .lit (.int .i64 2)], .agg [.lit (.int .i32 129280), .lit (.int .i32 129535), .lit (.int .i64 2)], .agg [.lit (.int .i32 131072), .lit (.int .i32 262141), .lit (.int .i64 2)], .agg [.lit (.int .i32 1114112), .lit (.int .i32 2147483647), .lit (.int .i64 0)]]

/-- 'rotuluslaw14.NfaPlain': WHATEVER THE INPUT: true; the input reads as it did. -/
def nfaPlainSpec : ChangeSpec := { name := "nfaPlain", fn := fun _ => fun
  | [d1, d2] => { results := [.lit (.bool true)], args := [d1, d2] }
  | _ => none }
def nfaPlainRow : OpenClaim := { program := "yteemnmalikomgaagreatdoor", sum := "f579e38f87915f4d11ec0772e40102dae8815a690584af61d33ddb94ea298044", func := "rotulus/rotuluslaw14.NfaPlain", spec := "nfaPlain", inPlace := ["internal/bytealg.IndexByteString", "internal/bytealg.IndexString", "internal/abi.NoEscape"], unfollowed := true, recurses := true, named := ["rotulus/width.spans", "internal/bytealg.MaxLen"], apart := false, laid := [("rotulus/width.spans", laid_rotulus_width_spans)] }
def NfaPlainSaid : Prop := nfaPlainRow.holds Tryz.pinned (OpenSpec.ofChange nfaPlainSpec)

/-- ITS FALSE NEIGHBOUR: 'it returns false'. Refute it at one input. -/
def nfaPlainWrong : ChangeSpec := { name := "nfaPlain", fn := fun _ => fun
  | [d1, d2] => { results := [.lit (.bool false)], args := [d1, d2] }
  | _ => none }
def NfaPlainWrongFalsely : Prop := nfaPlainRow.holds Tryz.pinned (OpenSpec.ofChange nfaPlainWrong)

/-- 'rotuluslaw14.NfaAlt': WHATEVER THE INPUT: true; the input reads as it did. -/
def nfaAltSpec : ChangeSpec := { name := "nfaAlt", fn := fun _ => fun
  | [d1, d2, d3, d4] => { results := [.lit (.bool true)], args := [d1, d2, d3, d4] }
  | _ => none }
def nfaAltRow : OpenClaim := { program := "yteemnmalikomgaagreatdoor", sum := "f579e38f87915f4d11ec0772e40102dae8815a690584af61d33ddb94ea298044", func := "rotulus/rotuluslaw14.NfaAlt", spec := "nfaAlt", inPlace := ["internal/bytealg.IndexByteString", "internal/bytealg.IndexString", "internal/abi.NoEscape"], unfollowed := true, recurses := true, named := ["rotulus/width.spans", "internal/bytealg.MaxLen"], apart := false, laid := [("rotulus/width.spans", laid_rotulus_width_spans)] }
def NfaAltSaid : Prop := nfaAltRow.holds Tryz.pinned (OpenSpec.ofChange nfaAltSpec)

/-- ITS FALSE NEIGHBOUR: 'it returns false'. Refute it at one input. -/
def nfaAltWrong : ChangeSpec := { name := "nfaAlt", fn := fun _ => fun
  | [d1, d2, d3, d4] => { results := [.lit (.bool false)], args := [d1, d2, d3, d4] }
  | _ => none }
def NfaAltWrongFalsely : Prop := nfaAltRow.holds Tryz.pinned (OpenSpec.ofChange nfaAltWrong)

/-- 'rotuluslaw16.FindAll': WHATEVER THE INPUT: true; the input reads as it did. -/
def findAllSpec : ChangeSpec := { name := "findAll", fn := fun _ => fun
  | [d1, d2, d3] => { results := [.lit (.bool true)], args := [d1, d2, d3] }
  | _ => none }
def findAllRow : OpenClaim := { program := "yteemnmalikomgaagreatdoor", sum := "f579e38f87915f4d11ec0772e40102dae8815a690584af61d33ddb94ea298044", func := "rotulus/rotuluslaw16.FindAll", spec := "findAll", inPlace := ["internal/bytealg.IndexByteString", "internal/bytealg.IndexString", "internal/abi.NoEscape"], unfollowed := true, recurses := true, named := ["rotulus/width.spans", "internal/bytealg.MaxLen"], apart := false, laid := [("rotulus/width.spans", laid_rotulus_width_spans)] }
def FindAllSaid : Prop := findAllRow.holds Tryz.pinned (OpenSpec.ofChange findAllSpec)

/-- ITS FALSE NEIGHBOUR: 'it returns false'. Refute it at one input. -/
def findAllWrong : ChangeSpec := { name := "findAll", fn := fun _ => fun
  | [d1, d2, d3] => { results := [.lit (.bool false)], args := [d1, d2, d3] }
  | _ => none }
def FindAllWrongFalsely : Prop := findAllRow.holds Tryz.pinned (OpenSpec.ofChange findAllWrong)

/-- 'rotuluslaw16.FindCount': WHATEVER THE INPUT: true; the input reads as it did. -/
def findCountSpec : ChangeSpec := { name := "findCount", fn := fun _ => fun
  | [d1, d2] => { results := [.lit (.bool true)], args := [d1, d2] }
  | _ => none }
def findCountRow : OpenClaim := { program := "yteemnmalikomgaagreatdoor", sum := "f579e38f87915f4d11ec0772e40102dae8815a690584af61d33ddb94ea298044", func := "rotulus/rotuluslaw16.FindCount", spec := "findCount", inPlace := ["internal/bytealg.IndexByteString", "internal/bytealg.IndexString", "internal/abi.NoEscape"], unfollowed := true, recurses := true, named := ["rotulus/width.spans", "internal/bytealg.MaxLen"], apart := false, laid := [("rotulus/width.spans", laid_rotulus_width_spans)] }
def FindCountSaid : Prop := findCountRow.holds Tryz.pinned (OpenSpec.ofChange findCountSpec)

/-- ITS FALSE NEIGHBOUR: 'it returns false'. Refute it at one input. -/
def findCountWrong : ChangeSpec := { name := "findCount", fn := fun _ => fun
  | [d1, d2] => { results := [.lit (.bool false)], args := [d1, d2] }
  | _ => none }
def FindCountWrongFalsely : Prop := findCountRow.holds Tryz.pinned (OpenSpec.ofChange findCountWrong)

/-- 'rotuluslaw16.FindAnchors': WHATEVER THE INPUT: true; the input reads as it did. -/
def findAnchorsSpec : ChangeSpec := { name := "findAnchors", fn := fun _ => fun
  | [d] => { results := [.lit (.bool true)], args := [d] }
  | _ => none }
def findAnchorsRow : OpenClaim := { program := "yteemnmalikomgaagreatdoor", sum := "f579e38f87915f4d11ec0772e40102dae8815a690584af61d33ddb94ea298044", func := "rotulus/rotuluslaw16.FindAnchors", spec := "findAnchors", inPlace := ["internal/bytealg.IndexByteString", "internal/bytealg.IndexString", "internal/abi.NoEscape"], unfollowed := true, recurses := true, named := ["rotulus/width.spans", "internal/bytealg.MaxLen"], apart := false, laid := [("rotulus/width.spans", laid_rotulus_width_spans)] }
def FindAnchorsSaid : Prop := findAnchorsRow.holds Tryz.pinned (OpenSpec.ofChange findAnchorsSpec)

/-- ITS FALSE NEIGHBOUR: 'it returns false'. Refute it at one input. -/
def findAnchorsWrong : ChangeSpec := { name := "findAnchors", fn := fun _ => fun
  | [d] => { results := [.lit (.bool false)], args := [d] }
  | _ => none }
def FindAnchorsWrongFalsely : Prop := findAnchorsRow.holds Tryz.pinned (OpenSpec.ofChange findAnchorsWrong)

/-- 'rotuluslaw16.SearchAll': WHATEVER THE INPUT: true; the input reads as it did. -/
def searchAllSpec : ChangeSpec := { name := "searchAll", fn := fun _ => fun
  | [d1, d2, d3] => { results := [.lit (.bool true)], args := [d1, d2, d3] }
  | _ => none }
def searchAllRow : OpenClaim := { program := "yteemnmalikomgaagreatdoor", sum := "f579e38f87915f4d11ec0772e40102dae8815a690584af61d33ddb94ea298044", func := "rotulus/rotuluslaw16.SearchAll", spec := "searchAll", inPlace := ["internal/bytealg.IndexByteString", "internal/bytealg.IndexString", "internal/abi.NoEscape"], unfollowed := true, recurses := true, named := ["rotulus/width.spans", "internal/bytealg.MaxLen"], apart := false, laid := [("rotulus/width.spans", laid_rotulus_width_spans)] }
def SearchAllSaid : Prop := searchAllRow.holds Tryz.pinned (OpenSpec.ofChange searchAllSpec)

/-- ITS FALSE NEIGHBOUR: 'it returns false'. Refute it at one input. -/
def searchAllWrong : ChangeSpec := { name := "searchAll", fn := fun _ => fun
  | [d1, d2, d3] => { results := [.lit (.bool false)], args := [d1, d2, d3] }
  | _ => none }
def SearchAllWrongFalsely : Prop := searchAllRow.holds Tryz.pinned (OpenSpec.ofChange searchAllWrong)

/-- 'rotuluslaw16.SearchRound': WHATEVER THE INPUT: true; the input reads as it did. -/
def searchRoundSpec : ChangeSpec := { name := "searchRound", fn := fun _ => fun
  | [d1, d2] => { results := [.lit (.bool true)], args := [d1, d2] }
  | _ => none }
def searchRoundRow : OpenClaim := { program := "yteemnmalikomgaagreatdoor", sum := "f579e38f87915f4d11ec0772e40102dae8815a690584af61d33ddb94ea298044", func := "rotulus/rotuluslaw16.SearchRound", spec := "searchRound", inPlace := ["internal/bytealg.IndexByteString", "internal/bytealg.IndexString", "internal/abi.NoEscape"], unfollowed := true, recurses := true, named := ["rotulus/width.spans", "internal/bytealg.MaxLen"], apart := false, laid := [("rotulus/width.spans", laid_rotulus_width_spans)] }
def SearchRoundSaid : Prop := searchRoundRow.holds Tryz.pinned (OpenSpec.ofChange searchRoundSpec)

/-- ITS FALSE NEIGHBOUR: 'it returns false'. Refute it at one input. -/
def searchRoundWrong : ChangeSpec := { name := "searchRound", fn := fun _ => fun
  | [d1, d2] => { results := [.lit (.bool false)], args := [d1, d2] }
  | _ => none }
def SearchRoundWrongFalsely : Prop := searchRoundRow.holds Tryz.pinned (OpenSpec.ofChange searchRoundWrong)

/-- 'rotuluslaw16.SearchWidths': WHATEVER THE INPUT: true; the input reads as it did. -/
def searchWidthsSpec : ChangeSpec := { name := "searchWidths", fn := fun _ => fun
  | [d1, d2, d3, d4] => { results := [.lit (.bool true)], args := [d1, d2, d3, d4] }
  | _ => none }
def searchWidthsRow : OpenClaim := { program := "yteemnmalikomgaagreatdoor", sum := "f579e38f87915f4d11ec0772e40102dae8815a690584af61d33ddb94ea298044", func := "rotulus/rotuluslaw16.SearchWidths", spec := "searchWidths", inPlace := ["internal/bytealg.IndexByteString", "internal/bytealg.IndexString", "internal/abi.NoEscape"], unfollowed := true, recurses := true, named := ["rotulus/width.spans", "internal/bytealg.MaxLen"], apart := false, laid := [("rotulus/width.spans", laid_rotulus_width_spans)] }
def SearchWidthsSaid : Prop := searchWidthsRow.holds Tryz.pinned (OpenSpec.ofChange searchWidthsSpec)

/-- ITS FALSE NEIGHBOUR: 'it returns false'. Refute it at one input. -/
def searchWidthsWrong : ChangeSpec := { name := "searchWidths", fn := fun _ => fun
  | [d1, d2, d3, d4] => { results := [.lit (.bool false)], args := [d1, d2, d3, d4] }
  | _ => none }
def SearchWidthsWrongFalsely : Prop := searchWidthsRow.holds Tryz.pinned (OpenSpec.ofChange searchWidthsWrong)

/- THE SECOND FORM. 'bulk': how many values and letters a reading holds, each counted each time it is reached (what is shared counts as often as it is met; a slice's spare places count too). A statement '..UptoSaid' is the law's where the arguments, and the package variables that the reading takes, are together of bulk at most 1048576: NARROWER than '..Said'. Prove '..Said' where nothing that the law and all that it calls make is longer than what came in: it says more and counts as full. Else prove '..UptoSaid'. A law counts once. -/
mutual
def uptoBulk {H : Type} : DataW H → Nat
  | .lit (.string bytes) => bytes.length + 1
  | .lit _ => 1
  | .nil => 1
  | .ptr d => uptoBulk d + 1
  | .slice elems spare => uptoBulkAll elems + uptoBulkAll spare + 1
  | .agg parts => uptoBulkAll parts + 1
  | .iface _ d => uptoBulk d + 1
  | .map entries => uptoBulkEntries entries + 1
  | .held _ => 1
def uptoBulkAll {H : Type} : List (DataW H) → Nat
  | [] => 0
  | d :: r => uptoBulk d + uptoBulkAll r
def uptoBulkEntries {H : Type} : List (Lit × DataW H) → Nat
  | [] => 0
  | x :: r => uptoBulkEntry x + uptoBulkEntries r
def uptoBulkEntry {H : Type} : Lit × DataW H → Nat
  | (.string bytes, d) => bytes.length + uptoBulk d + 1
  | (_, d) => uptoBulk d + 1
 end
def uptoSmall : (H : Type) → List (DataW H) → Bool := fun _ ds => decide (uptoBulkAll ds ≤ 1048576)
def OpenSpec.upto (s : _root_.Go.ChangeSpec) : _root_.Go.OpenSpec := { _root_.Go.OpenSpec.ofChange s with cond := some uptoSmall }

/-- 'rotuluslaw14.NfaPlain', WHERE WHAT IT READS IS OF BULK AT MOST 1048576: true; the input reads as it did. -/
def nfaPlainUptoRow : OpenClaim := { program := "yteemnmalikomgaagreatdoor", sum := "f579e38f87915f4d11ec0772e40102dae8815a690584af61d33ddb94ea298044", func := "rotulus/rotuluslaw14.NfaPlain", spec := "nfaPlain", inPlace := ["internal/bytealg.IndexByteString", "internal/bytealg.IndexString", "internal/abi.NoEscape"], unfollowed := true, recurses := true, named := ["rotulus/width.spans", "internal/bytealg.MaxLen"], apart := false, laid := [("rotulus/width.spans", laid_rotulus_width_spans)], narrowed := true }
def NfaPlainUptoSaid : Prop := nfaPlainUptoRow.holds Tryz.pinned (OpenSpec.upto nfaPlainSpec)

/-- 'rotuluslaw14.NfaAlt', WHERE WHAT IT READS IS OF BULK AT MOST 1048576: true; the input reads as it did. -/
def nfaAltUptoRow : OpenClaim := { program := "yteemnmalikomgaagreatdoor", sum := "f579e38f87915f4d11ec0772e40102dae8815a690584af61d33ddb94ea298044", func := "rotulus/rotuluslaw14.NfaAlt", spec := "nfaAlt", inPlace := ["internal/bytealg.IndexByteString", "internal/bytealg.IndexString", "internal/abi.NoEscape"], unfollowed := true, recurses := true, named := ["rotulus/width.spans", "internal/bytealg.MaxLen"], apart := false, laid := [("rotulus/width.spans", laid_rotulus_width_spans)], narrowed := true }
def NfaAltUptoSaid : Prop := nfaAltUptoRow.holds Tryz.pinned (OpenSpec.upto nfaAltSpec)

/-- 'rotuluslaw16.FindAll', WHERE WHAT IT READS IS OF BULK AT MOST 1048576: true; the input reads as it did. -/
def findAllUptoRow : OpenClaim := { program := "yteemnmalikomgaagreatdoor", sum := "f579e38f87915f4d11ec0772e40102dae8815a690584af61d33ddb94ea298044", func := "rotulus/rotuluslaw16.FindAll", spec := "findAll", inPlace := ["internal/bytealg.IndexByteString", "internal/bytealg.IndexString", "internal/abi.NoEscape"], unfollowed := true, recurses := true, named := ["rotulus/width.spans", "internal/bytealg.MaxLen"], apart := false, laid := [("rotulus/width.spans", laid_rotulus_width_spans)], narrowed := true }
def FindAllUptoSaid : Prop := findAllUptoRow.holds Tryz.pinned (OpenSpec.upto findAllSpec)

/-- 'rotuluslaw16.FindCount', WHERE WHAT IT READS IS OF BULK AT MOST 1048576: true; the input reads as it did. -/
def findCountUptoRow : OpenClaim := { program := "yteemnmalikomgaagreatdoor", sum := "f579e38f87915f4d11ec0772e40102dae8815a690584af61d33ddb94ea298044", func := "rotulus/rotuluslaw16.FindCount", spec := "findCount", inPlace := ["internal/bytealg.IndexByteString", "internal/bytealg.IndexString", "internal/abi.NoEscape"], unfollowed := true, recurses := true, named := ["rotulus/width.spans", "internal/bytealg.MaxLen"], apart := false, laid := [("rotulus/width.spans", laid_rotulus_width_spans)], narrowed := true }
def FindCountUptoSaid : Prop := findCountUptoRow.holds Tryz.pinned (OpenSpec.upto findCountSpec)

/-- 'rotuluslaw16.FindAnchors', WHERE WHAT IT READS IS OF BULK AT MOST 1048576: true; the input reads as it did. -/
def findAnchorsUptoRow : OpenClaim := { program := "yteemnmalikomgaagreatdoor", sum := "f579e38f87915f4d11ec0772e40102dae8815a690584af61d33ddb94ea298044", func := "rotulus/rotuluslaw16.FindAnchors", spec := "findAnchors", inPlace := ["internal/bytealg.IndexByteString", "internal/bytealg.IndexString", "internal/abi.NoEscape"], unfollowed := true, recurses := true, named := ["rotulus/width.spans", "internal/bytealg.MaxLen"], apart := false, laid := [("rotulus/width.spans", laid_rotulus_width_spans)], narrowed := true }
def FindAnchorsUptoSaid : Prop := findAnchorsUptoRow.holds Tryz.pinned (OpenSpec.upto findAnchorsSpec)

/-- 'rotuluslaw16.SearchAll', WHERE WHAT IT READS IS OF BULK AT MOST 1048576: true; the input reads as it did. -/
def searchAllUptoRow : OpenClaim := { program := "yteemnmalikomgaagreatdoor", sum := "f579e38f87915f4d11ec0772e40102dae8815a690584af61d33ddb94ea298044", func := "rotulus/rotuluslaw16.SearchAll", spec := "searchAll", inPlace := ["internal/bytealg.IndexByteString", "internal/bytealg.IndexString", "internal/abi.NoEscape"], unfollowed := true, recurses := true, named := ["rotulus/width.spans", "internal/bytealg.MaxLen"], apart := false, laid := [("rotulus/width.spans", laid_rotulus_width_spans)], narrowed := true }
def SearchAllUptoSaid : Prop := searchAllUptoRow.holds Tryz.pinned (OpenSpec.upto searchAllSpec)

/-- 'rotuluslaw16.SearchRound', WHERE WHAT IT READS IS OF BULK AT MOST 1048576: true; the input reads as it did. -/
def searchRoundUptoRow : OpenClaim := { program := "yteemnmalikomgaagreatdoor", sum := "f579e38f87915f4d11ec0772e40102dae8815a690584af61d33ddb94ea298044", func := "rotulus/rotuluslaw16.SearchRound", spec := "searchRound", inPlace := ["internal/bytealg.IndexByteString", "internal/bytealg.IndexString", "internal/abi.NoEscape"], unfollowed := true, recurses := true, named := ["rotulus/width.spans", "internal/bytealg.MaxLen"], apart := false, laid := [("rotulus/width.spans", laid_rotulus_width_spans)], narrowed := true }
def SearchRoundUptoSaid : Prop := searchRoundUptoRow.holds Tryz.pinned (OpenSpec.upto searchRoundSpec)

/-- 'rotuluslaw16.SearchWidths', WHERE WHAT IT READS IS OF BULK AT MOST 1048576: true; the input reads as it did. -/
def searchWidthsUptoRow : OpenClaim := { program := "yteemnmalikomgaagreatdoor", sum := "f579e38f87915f4d11ec0772e40102dae8815a690584af61d33ddb94ea298044", func := "rotulus/rotuluslaw16.SearchWidths", spec := "searchWidths", inPlace := ["internal/bytealg.IndexByteString", "internal/bytealg.IndexString", "internal/abi.NoEscape"], unfollowed := true, recurses := true, named := ["rotulus/width.spans", "internal/bytealg.MaxLen"], apart := false, laid := [("rotulus/width.spans", laid_rotulus_width_spans)], narrowed := true }
def SearchWidthsUptoSaid : Prop := searchWidthsUptoRow.holds Tryz.pinned (OpenSpec.upto searchWidthsSpec)

end Rows
end Go.Proofs.YteemnmalikomgaaGreatDoor
