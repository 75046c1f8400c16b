/-
  NARROWER THAN 'FOR EVERY INPUT', by the rows' own cells (each row's printed sentence says how): NfaAll: loops, laid · NfaText: laid · NfaPlain: laid · NfaTimes: laid · NfaEmpty: laid · RegexDeep: laid · NfaAlt: laid · NfaWeight: laid.
  DERIVED. THE GIVEN ROWS OF THIS SEAT. 8 by the template 'for every input the law returns true; each argument reads behind the call as it read before'; 0 by the template 'total and deterministic' (their statements: YtbmldpodcipncaaGreatDoorTotals.lean).
  GIVEN WITH THE SEED: the statements are not yours to turn. If you find one false, say at which input.
  Laid BY PROGRAM, IN A SANDBOX (cutbox-rows.mjs): the forced cells as the released guide's own fill.sh prints them over the translation 054373836a921f9f… (all of the seat's roots in one cut). By AI agents, Wed Nov 11 2026. No macro, syntax, notation, axiom, sorry.
-/
import Derived.Test.YtbmldpodcipncaaGreatDoorChecked
import GoSem.Claim
import GoSem.ClaimJoined
import GoSem.ClaimMapViews
import Derived.JoinedTies
import Derived.KernelRfl
namespace Go.Proofs.YtbmldpodcipncaaGreatDoor
/- THE CELL 'sum', in the pinned program and in every row, IS THE sha256 OF THE DUMP (.gsa) THAT YtbmldpodcipncaaGreatDoorProg.lean LOADS. Nothing in Lean hashes anything: it is a label: what it is worth is what the hold of that sum in a sandbox is worth. -/
noncomputable def Tryz.pinned : Pinned := { name := "ytbmldpodcipncaagreatdoor", sum := "054373836a921f9fdf233a483e7fb0bfac001a0c9b33b9f1ba7cc476fabdfc50", checked := Tryz.checked }
namespace Rows
def none {H : Type} : Left H := { results := [], args := [] }

/- WHAT THE LISTED PACKAGE-LEVEL VARIABLES READ AS WHEN THE CALL BEGINS. Each datum BY PROGRAM (the guide's laid-datum.mjs) off the statement by which the dump's own 'gosem.cut.vars' lays the variable. In a bare row this is a premise. The card (YtbmldpodcipncaaGreatDoorCards.lean) ties it to the program's text. -/
def laid_rotulus_width_spans {H : Type} : DataW H := .agg [.agg [.lit (.int .i32 (-2147483648)), .lit (.int .i32 31), .lit (.int .i64 0)], .agg [.lit (.int .i32 127), .lit (.int .i32 159), .lit (.int .i64 0)], .agg [.lit (.int .i32 768), .lit (.int .i32 879), .lit (.int .i64 0)], .agg [.lit (.int .i32 4352), .lit (.int .i32 4447), .lit (.int .i64 2)], .agg [.lit (.int .i32 8203), .lit (.int .i32 8207), .lit (.int .i64 0)], .agg [.lit (.int .i32 11904), .lit (.int .i32 12350), .lit (.int .i64 2)], .agg [.lit (.int .i32 12353), .lit (.int .i32 13311), .lit (.int .i64 2)], .agg [.lit (.int .i32 13312), .lit (.int .i32 19903), .lit (.int .i64 2)], .agg [.lit (.int .i32 19968), .lit (.int .i32 40959), .lit (.int .i64 2)], .agg [.lit (.int .i32 40960), .lit (.int .i32 42191), .lit (.int .i64 2)], .agg [.lit (.int .i32 44032), .lit (.int .i32 55203), .lit (.int .i64 2)], .agg [.lit (.int .i32 55296), .lit (.int .i32 57343), .lit (.int .i64 0)], .agg [.lit (.int .i32 63744), .lit (.int .i32 64255), .lit (.int .i64 2)], .agg [.lit (.int .i32 65024), .lit (.int .i32 65039), .lit (.int .i64 0)], .agg [.lit (.int .i32 65072), .lit (.int .i32 65135), .lit (.int .i64 2)], .agg [.lit (.int .i32 65280), .lit (.int .i32 65376), .lit (.int .i64 2)], .agg [.lit (.int .i32 65504), .lit (.int .i32 65510), .lit (.int .i64 2)], .agg [.lit (.int .i32 127744), .lit (.int .i32 128591), .lit (.int .i64 2)], .agg [.lit (.int .i32 129280), .lit (.int .i32 129535), .lit (.int .i64 2)], .agg [.lit (.int .i32 131072), .lit (.int .i32 262141), .lit (.int .i64 2)], .agg [.lit (.int .i32 1114112), .lit (.int .i32 2147483647), .lit (.int .i64 0)]]

/-- 'rotuluslaw14.NfaAll': WHATEVER THE INPUT: true; the input reads as it did. -/
def nfaAllSpec : ChangeSpec := { name := "nfaAll", fn := fun _ => fun
  | [d1, d2, d3] => { results := [.lit (.bool true)], args := [d1, d2, d3] }
  | _ => none }
def nfaAllRow : OpenClaim := { program := "ytbmldpodcipncaagreatdoor", sum := "054373836a921f9fdf233a483e7fb0bfac001a0c9b33b9f1ba7cc476fabdfc50", func := "rotulus/rotuluslaw14.NfaAll", spec := "nfaAll", inPlace := ["internal/bytealg.IndexByteString", "internal/bytealg.IndexString", "internal/abi.NoEscape"], unfollowed := true, recurses := true, named := ["rotulus/width.spans", "internal/bytealg.MaxLen"], loops := true, apart := false, laid := [("rotulus/width.spans", laid_rotulus_width_spans)] }
def NfaAllSaid : Prop := nfaAllRow.holds Tryz.pinned (OpenSpec.ofChange nfaAllSpec)

/-- ITS FALSE NEIGHBOUR: 'it returns false'. Refute it at one input. -/
def nfaAllWrong : ChangeSpec := { name := "nfaAll", fn := fun _ => fun
  | [d1, d2, d3] => { results := [.lit (.bool false)], args := [d1, d2, d3] }
  | _ => none }
def NfaAllWrongFalsely : Prop := nfaAllRow.holds Tryz.pinned (OpenSpec.ofChange nfaAllWrong)

/-- 'rotuluslaw14.NfaText': WHATEVER THE INPUT: true; the input reads as it did. -/
def nfaTextSpec : ChangeSpec := { name := "nfaText", fn := fun _ => fun
  | [d1, d2, d3] => { results := [.lit (.bool true)], args := [d1, d2, d3] }
  | _ => none }
def nfaTextRow : OpenClaim := { program := "ytbmldpodcipncaagreatdoor", sum := "054373836a921f9fdf233a483e7fb0bfac001a0c9b33b9f1ba7cc476fabdfc50", func := "rotulus/rotuluslaw14.NfaText", spec := "nfaText", inPlace := ["internal/bytealg.IndexByteString", "internal/bytealg.IndexString", "internal/abi.NoEscape"], unfollowed := true, recurses := true, named := ["rotulus/width.spans", "internal/bytealg.MaxLen"], apart := false, laid := [("rotulus/width.spans", laid_rotulus_width_spans)] }
def NfaTextSaid : Prop := nfaTextRow.holds Tryz.pinned (OpenSpec.ofChange nfaTextSpec)

/-- ITS FALSE NEIGHBOUR: 'it returns false'. Refute it at one input. -/
def nfaTextWrong : ChangeSpec := { name := "nfaText", fn := fun _ => fun
  | [d1, d2, d3] => { results := [.lit (.bool false)], args := [d1, d2, d3] }
  | _ => none }
def NfaTextWrongFalsely : Prop := nfaTextRow.holds Tryz.pinned (OpenSpec.ofChange nfaTextWrong)

/-- 'rotuluslaw14.NfaPlain': WHATEVER THE INPUT: true; the input reads as it did. -/
def nfaPlainSpec : ChangeSpec := { name := "nfaPlain", fn := fun _ => fun
  | [d1, d2] => { results := [.lit (.bool true)], args := [d1, d2] }
  | _ => none }
def nfaPlainRow : OpenClaim := { program := "ytbmldpodcipncaagreatdoor", sum := "054373836a921f9fdf233a483e7fb0bfac001a0c9b33b9f1ba7cc476fabdfc50", func := "rotulus/rotuluslaw14.NfaPlain", spec := "nfaPlain", inPlace := ["internal/bytealg.IndexByteString", "internal/bytealg.IndexString", "internal/abi.NoEscape"], unfollowed := true, recurses := true, named := ["rotulus/width.spans", "internal/bytealg.MaxLen"], apart := false, laid := [("rotulus/width.spans", laid_rotulus_width_spans)] }
def NfaPlainSaid : Prop := nfaPlainRow.holds Tryz.pinned (OpenSpec.ofChange nfaPlainSpec)

/-- ITS FALSE NEIGHBOUR: 'it returns false'. Refute it at one input. -/
def nfaPlainWrong : ChangeSpec := { name := "nfaPlain", fn := fun _ => fun
  | [d1, d2] => { results := [.lit (.bool false)], args := [d1, d2] }
  | _ => none }
def NfaPlainWrongFalsely : Prop := nfaPlainRow.holds Tryz.pinned (OpenSpec.ofChange nfaPlainWrong)

/-- 'rotuluslaw14.NfaTimes': WHATEVER THE INPUT: true; the input reads as it did. -/
def nfaTimesSpec : ChangeSpec := { name := "nfaTimes", fn := fun _ => fun
  | [d1, d2, d3] => { results := [.lit (.bool true)], args := [d1, d2, d3] }
  | _ => none }
def nfaTimesRow : OpenClaim := { program := "ytbmldpodcipncaagreatdoor", sum := "054373836a921f9fdf233a483e7fb0bfac001a0c9b33b9f1ba7cc476fabdfc50", func := "rotulus/rotuluslaw14.NfaTimes", spec := "nfaTimes", inPlace := ["internal/bytealg.IndexByteString", "internal/bytealg.IndexString", "internal/abi.NoEscape"], unfollowed := true, recurses := true, named := ["rotulus/width.spans", "internal/bytealg.MaxLen"], apart := false, laid := [("rotulus/width.spans", laid_rotulus_width_spans)] }
def NfaTimesSaid : Prop := nfaTimesRow.holds Tryz.pinned (OpenSpec.ofChange nfaTimesSpec)

/-- ITS FALSE NEIGHBOUR: 'it returns false'. Refute it at one input. -/
def nfaTimesWrong : ChangeSpec := { name := "nfaTimes", fn := fun _ => fun
  | [d1, d2, d3] => { results := [.lit (.bool false)], args := [d1, d2, d3] }
  | _ => none }
def NfaTimesWrongFalsely : Prop := nfaTimesRow.holds Tryz.pinned (OpenSpec.ofChange nfaTimesWrong)

/-- 'rotuluslaw14.NfaEmpty': WHATEVER THE INPUT: true; the input reads as it did. -/
def nfaEmptySpec : ChangeSpec := { name := "nfaEmpty", fn := fun _ => fun
  | [d1, d2] => { results := [.lit (.bool true)], args := [d1, d2] }
  | _ => none }
def nfaEmptyRow : OpenClaim := { program := "ytbmldpodcipncaagreatdoor", sum := "054373836a921f9fdf233a483e7fb0bfac001a0c9b33b9f1ba7cc476fabdfc50", func := "rotulus/rotuluslaw14.NfaEmpty", spec := "nfaEmpty", inPlace := ["internal/bytealg.IndexByteString", "internal/bytealg.IndexString", "internal/abi.NoEscape"], unfollowed := true, recurses := true, named := ["rotulus/width.spans", "internal/bytealg.MaxLen"], apart := false, laid := [("rotulus/width.spans", laid_rotulus_width_spans)] }
def NfaEmptySaid : Prop := nfaEmptyRow.holds Tryz.pinned (OpenSpec.ofChange nfaEmptySpec)

/-- ITS FALSE NEIGHBOUR: 'it returns false'. Refute it at one input. -/
def nfaEmptyWrong : ChangeSpec := { name := "nfaEmpty", fn := fun _ => fun
  | [d1, d2] => { results := [.lit (.bool false)], args := [d1, d2] }
  | _ => none }
def NfaEmptyWrongFalsely : Prop := nfaEmptyRow.holds Tryz.pinned (OpenSpec.ofChange nfaEmptyWrong)

/-- 'rotuluslaw14.RegexDeep': WHATEVER THE INPUT: true; the input reads as it did. -/
def regexDeepSpec : ChangeSpec := { name := "regexDeep", fn := fun _ => fun
  | [d1, d2] => { results := [.lit (.bool true)], args := [d1, d2] }
  | _ => none }
def regexDeepRow : OpenClaim := { program := "ytbmldpodcipncaagreatdoor", sum := "054373836a921f9fdf233a483e7fb0bfac001a0c9b33b9f1ba7cc476fabdfc50", func := "rotulus/rotuluslaw14.RegexDeep", spec := "regexDeep", inPlace := ["internal/bytealg.IndexByteString", "internal/bytealg.IndexString", "internal/abi.NoEscape"], unfollowed := true, recurses := true, named := ["rotulus/width.spans", "internal/bytealg.MaxLen"], apart := false, laid := [("rotulus/width.spans", laid_rotulus_width_spans)] }
def RegexDeepSaid : Prop := regexDeepRow.holds Tryz.pinned (OpenSpec.ofChange regexDeepSpec)

/-- ITS FALSE NEIGHBOUR: 'it returns false'. Refute it at one input. -/
def regexDeepWrong : ChangeSpec := { name := "regexDeep", fn := fun _ => fun
  | [d1, d2] => { results := [.lit (.bool false)], args := [d1, d2] }
  | _ => none }
def RegexDeepWrongFalsely : Prop := regexDeepRow.holds Tryz.pinned (OpenSpec.ofChange regexDeepWrong)

/-- 'rotuluslaw14.NfaAlt': WHATEVER THE INPUT: true; the input reads as it did. -/
def nfaAltSpec : ChangeSpec := { name := "nfaAlt", fn := fun _ => fun
  | [d1, d2, d3, d4] => { results := [.lit (.bool true)], args := [d1, d2, d3, d4] }
  | _ => none }
def nfaAltRow : OpenClaim := { program := "ytbmldpodcipncaagreatdoor", sum := "054373836a921f9fdf233a483e7fb0bfac001a0c9b33b9f1ba7cc476fabdfc50", func := "rotulus/rotuluslaw14.NfaAlt", spec := "nfaAlt", inPlace := ["internal/bytealg.IndexByteString", "internal/bytealg.IndexString", "internal/abi.NoEscape"], unfollowed := true, recurses := true, named := ["rotulus/width.spans", "internal/bytealg.MaxLen"], apart := false, laid := [("rotulus/width.spans", laid_rotulus_width_spans)] }
def NfaAltSaid : Prop := nfaAltRow.holds Tryz.pinned (OpenSpec.ofChange nfaAltSpec)

/-- ITS FALSE NEIGHBOUR: 'it returns false'. Refute it at one input. -/
def nfaAltWrong : ChangeSpec := { name := "nfaAlt", fn := fun _ => fun
  | [d1, d2, d3, d4] => { results := [.lit (.bool false)], args := [d1, d2, d3, d4] }
  | _ => none }
def NfaAltWrongFalsely : Prop := nfaAltRow.holds Tryz.pinned (OpenSpec.ofChange nfaAltWrong)

/-- 'rotuluslaw14.NfaWeight': WHATEVER THE INPUT: true; the input reads as it did. -/
def nfaWeightSpec : ChangeSpec := { name := "nfaWeight", fn := fun _ => fun
  | [d1, d2, d3, d4] => { results := [.lit (.bool true)], args := [d1, d2, d3, d4] }
  | _ => none }
def nfaWeightRow : OpenClaim := { program := "ytbmldpodcipncaagreatdoor", sum := "054373836a921f9fdf233a483e7fb0bfac001a0c9b33b9f1ba7cc476fabdfc50", func := "rotulus/rotuluslaw14.NfaWeight", spec := "nfaWeight", inPlace := ["internal/bytealg.IndexByteString", "internal/bytealg.IndexString", "internal/abi.NoEscape"], unfollowed := true, recurses := true, named := ["rotulus/width.spans", "internal/bytealg.MaxLen"], apart := false, laid := [("rotulus/width.spans", laid_rotulus_width_spans)] }
def NfaWeightSaid : Prop := nfaWeightRow.holds Tryz.pinned (OpenSpec.ofChange nfaWeightSpec)

/-- ITS FALSE NEIGHBOUR: 'it returns false'. Refute it at one input. -/
def nfaWeightWrong : ChangeSpec := { name := "nfaWeight", fn := fun _ => fun
  | [d1, d2, d3, d4] => { results := [.lit (.bool false)], args := [d1, d2, d3, d4] }
  | _ => none }
def NfaWeightWrongFalsely : Prop := nfaWeightRow.holds Tryz.pinned (OpenSpec.ofChange nfaWeightWrong)

/- THE SECOND FORM. 'bulk': how many values and letters a reading holds, each counted each time it is reached (what is shared counts as often as it is met; a slice's spare places count too). A statement '..UptoSaid' is the law's where the arguments, and the package variables that the reading takes, are together of bulk at most 1048576: NARROWER than '..Said'. Prove '..Said' where nothing that the law and all that it calls make is longer than what came in: it says more and counts as full. Else prove '..UptoSaid'. A law counts once. -/
mutual
def uptoBulk {H : Type} : DataW H → Nat
  | .lit (.string bytes) => bytes.length + 1
  | .lit _ => 1
  | .nil => 1
  | .ptr d => uptoBulk d + 1
  | .slice elems spare => uptoBulkAll elems + uptoBulkAll spare + 1
  | .agg parts => uptoBulkAll parts + 1
  | .iface _ d => uptoBulk d + 1
  | .map entries => uptoBulkEntries entries + 1
  | .held _ => 1
def uptoBulkAll {H : Type} : List (DataW H) → Nat
  | [] => 0
  | d :: r => uptoBulk d + uptoBulkAll r
def uptoBulkEntries {H : Type} : List (Lit × DataW H) → Nat
  | [] => 0
  | x :: r => uptoBulkEntry x + uptoBulkEntries r
def uptoBulkEntry {H : Type} : Lit × DataW H → Nat
  | (.string bytes, d) => bytes.length + uptoBulk d + 1
  | (_, d) => uptoBulk d + 1
 end
def uptoSmall : (H : Type) → List (DataW H) → Bool := fun _ ds => decide (uptoBulkAll ds ≤ 1048576)
def OpenSpec.upto (s : _root_.Go.ChangeSpec) : _root_.Go.OpenSpec := { _root_.Go.OpenSpec.ofChange s with cond := some uptoSmall }

/-- 'rotuluslaw14.NfaAll', WHERE WHAT IT READS IS OF BULK AT MOST 1048576: true; the input reads as it did. -/
def nfaAllUptoRow : OpenClaim := { program := "ytbmldpodcipncaagreatdoor", sum := "054373836a921f9fdf233a483e7fb0bfac001a0c9b33b9f1ba7cc476fabdfc50", func := "rotulus/rotuluslaw14.NfaAll", spec := "nfaAll", inPlace := ["internal/bytealg.IndexByteString", "internal/bytealg.IndexString", "internal/abi.NoEscape"], unfollowed := true, recurses := true, named := ["rotulus/width.spans", "internal/bytealg.MaxLen"], loops := true, apart := false, laid := [("rotulus/width.spans", laid_rotulus_width_spans)], narrowed := true }
def NfaAllUptoSaid : Prop := nfaAllUptoRow.holds Tryz.pinned (OpenSpec.upto nfaAllSpec)

/-- 'rotuluslaw14.NfaText', WHERE WHAT IT READS IS OF BULK AT MOST 1048576: true; the input reads as it did. -/
def nfaTextUptoRow : OpenClaim := { program := "ytbmldpodcipncaagreatdoor", sum := "054373836a921f9fdf233a483e7fb0bfac001a0c9b33b9f1ba7cc476fabdfc50", func := "rotulus/rotuluslaw14.NfaText", spec := "nfaText", inPlace := ["internal/bytealg.IndexByteString", "internal/bytealg.IndexString", "internal/abi.NoEscape"], unfollowed := true, recurses := true, named := ["rotulus/width.spans", "internal/bytealg.MaxLen"], apart := false, laid := [("rotulus/width.spans", laid_rotulus_width_spans)], narrowed := true }
def NfaTextUptoSaid : Prop := nfaTextUptoRow.holds Tryz.pinned (OpenSpec.upto nfaTextSpec)

/-- 'rotuluslaw14.NfaPlain', WHERE WHAT IT READS IS OF BULK AT MOST 1048576: true; the input reads as it did. -/
def nfaPlainUptoRow : OpenClaim := { program := "ytbmldpodcipncaagreatdoor", sum := "054373836a921f9fdf233a483e7fb0bfac001a0c9b33b9f1ba7cc476fabdfc50", func := "rotulus/rotuluslaw14.NfaPlain", spec := "nfaPlain", inPlace := ["internal/bytealg.IndexByteString", "internal/bytealg.IndexString", "internal/abi.NoEscape"], unfollowed := true, recurses := true, named := ["rotulus/width.spans", "internal/bytealg.MaxLen"], apart := false, laid := [("rotulus/width.spans", laid_rotulus_width_spans)], narrowed := true }
def NfaPlainUptoSaid : Prop := nfaPlainUptoRow.holds Tryz.pinned (OpenSpec.upto nfaPlainSpec)

/-- 'rotuluslaw14.NfaTimes', WHERE WHAT IT READS IS OF BULK AT MOST 1048576: true; the input reads as it did. -/
def nfaTimesUptoRow : OpenClaim := { program := "ytbmldpodcipncaagreatdoor", sum := "054373836a921f9fdf233a483e7fb0bfac001a0c9b33b9f1ba7cc476fabdfc50", func := "rotulus/rotuluslaw14.NfaTimes", spec := "nfaTimes", inPlace := ["internal/bytealg.IndexByteString", "internal/bytealg.IndexString", "internal/abi.NoEscape"], unfollowed := true, recurses := true, named := ["rotulus/width.spans", "internal/bytealg.MaxLen"], apart := false, laid := [("rotulus/width.spans", laid_rotulus_width_spans)], narrowed := true }
def NfaTimesUptoSaid : Prop := nfaTimesUptoRow.holds Tryz.pinned (OpenSpec.upto nfaTimesSpec)

/-- 'rotuluslaw14.NfaEmpty', WHERE WHAT IT READS IS OF BULK AT MOST 1048576: true; the input reads as it did. -/
def nfaEmptyUptoRow : OpenClaim := { program := "ytbmldpodcipncaagreatdoor", sum := "054373836a921f9fdf233a483e7fb0bfac001a0c9b33b9f1ba7cc476fabdfc50", func := "rotulus/rotuluslaw14.NfaEmpty", spec := "nfaEmpty", inPlace := ["internal/bytealg.IndexByteString", "internal/bytealg.IndexString", "internal/abi.NoEscape"], unfollowed := true, recurses := true, named := ["rotulus/width.spans", "internal/bytealg.MaxLen"], apart := false, laid := [("rotulus/width.spans", laid_rotulus_width_spans)], narrowed := true }
def NfaEmptyUptoSaid : Prop := nfaEmptyUptoRow.holds Tryz.pinned (OpenSpec.upto nfaEmptySpec)

/-- 'rotuluslaw14.RegexDeep', WHERE WHAT IT READS IS OF BULK AT MOST 1048576: true; the input reads as it did. -/
def regexDeepUptoRow : OpenClaim := { program := "ytbmldpodcipncaagreatdoor", sum := "054373836a921f9fdf233a483e7fb0bfac001a0c9b33b9f1ba7cc476fabdfc50", func := "rotulus/rotuluslaw14.RegexDeep", spec := "regexDeep", inPlace := ["internal/bytealg.IndexByteString", "internal/bytealg.IndexString", "internal/abi.NoEscape"], unfollowed := true, recurses := true, named := ["rotulus/width.spans", "internal/bytealg.MaxLen"], apart := false, laid := [("rotulus/width.spans", laid_rotulus_width_spans)], narrowed := true }
def RegexDeepUptoSaid : Prop := regexDeepUptoRow.holds Tryz.pinned (OpenSpec.upto regexDeepSpec)

/-- 'rotuluslaw14.NfaAlt', WHERE WHAT IT READS IS OF BULK AT MOST 1048576: true; the input reads as it did. -/
def nfaAltUptoRow : OpenClaim := { program := "ytbmldpodcipncaagreatdoor", sum := "054373836a921f9fdf233a483e7fb0bfac001a0c9b33b9f1ba7cc476fabdfc50", func := "rotulus/rotuluslaw14.NfaAlt", spec := "nfaAlt", inPlace := ["internal/bytealg.IndexByteString", "internal/bytealg.IndexString", "internal/abi.NoEscape"], unfollowed := true, recurses := true, named := ["rotulus/width.spans", "internal/bytealg.MaxLen"], apart := false, laid := [("rotulus/width.spans", laid_rotulus_width_spans)], narrowed := true }
def NfaAltUptoSaid : Prop := nfaAltUptoRow.holds Tryz.pinned (OpenSpec.upto nfaAltSpec)

/-- 'rotuluslaw14.NfaWeight', WHERE WHAT IT READS IS OF BULK AT MOST 1048576: true; the input reads as it did. -/
def nfaWeightUptoRow : OpenClaim := { program := "ytbmldpodcipncaagreatdoor", sum := "054373836a921f9fdf233a483e7fb0bfac001a0c9b33b9f1ba7cc476fabdfc50", func := "rotulus/rotuluslaw14.NfaWeight", spec := "nfaWeight", inPlace := ["internal/bytealg.IndexByteString", "internal/bytealg.IndexString", "internal/abi.NoEscape"], unfollowed := true, recurses := true, named := ["rotulus/width.spans", "internal/bytealg.MaxLen"], apart := false, laid := [("rotulus/width.spans", laid_rotulus_width_spans)], narrowed := true }
def NfaWeightUptoSaid : Prop := nfaWeightUptoRow.holds Tryz.pinned (OpenSpec.upto nfaWeightSpec)

end Rows
end Go.Proofs.YtbmldpodcipncaaGreatDoor
