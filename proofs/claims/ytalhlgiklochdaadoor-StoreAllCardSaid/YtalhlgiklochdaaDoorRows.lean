/-
  NARROWER THAN 'FOR EVERY INPUT', by the rows' own cells (each row's printed sentence says how): PackUint: laid · PackAll: laid · PackAny: laid · PackShort: laid · PageAll: laid · StoreAll: laid · StoreEnds: laid · StoreOwn: laid · StoreNone: laid · PackOrder: laid · PackHalves: laid · PackMany: laid · PageFull: laid · StoreTurn: laid · StoreLimits: laid.
  DERIVED. THE GIVEN ROWS OF THIS SEAT. 15 by the template 'for every input the law returns true; each argument reads behind the call as it read before'; 0 by the template 'total and deterministic' (their statements: YtalhlgiklochdaaDoorTotals.lean).
  GIVEN WITH THE SEED: the statements are not yours to turn. If you find one false, say at which input.
  Laid BY PROGRAM, IN A SANDBOX (cutbox-rows.mjs): the forced cells as the released guide's own fill.sh prints them over the translation 2345da8812a0d4cd… (all of the seat's roots in one cut). By AI agents, Wed Nov 11 2026. No macro, syntax, notation, axiom, sorry.
-/
import Derived.Test.YtalhlgiklochdaaDoorChecked
import GoSem.Claim
import GoSem.ClaimJoined
import GoSem.ClaimMapViews
import Derived.JoinedTies
import Derived.KernelRfl
namespace Go.Proofs.YtalhlgiklochdaaDoor
/- THE CELL 'sum', in the pinned program and in every row, IS THE sha256 OF THE DUMP (.gsa) THAT YtalhlgiklochdaaDoorProg.lean LOADS. Nothing in Lean hashes anything: it is a label: what it is worth is what the hold of that sum in a sandbox is worth. -/
noncomputable def Tryd.pinned : Pinned := { name := "ytalhlgiklochdaadoor", sum := "2345da8812a0d4cdfe95221b0c784c6958652a5a0995d22bda5b0863c28bc6d1", checked := Tryd.checked }
namespace Rows
def none {H : Type} : Left H := { results := [], args := [] }

/- WHAT THE LISTED PACKAGE-LEVEL VARIABLES READ AS WHEN THE CALL BEGINS. Each datum BY PROGRAM (the guide's laid-datum.mjs) off the statement by which the dump's own 'gosem.cut.vars' lays the variable. In a bare row this is a premise. The card (YtalhlgiklochdaaDoorCards.lean) ties it to the program's text. -/
def laid_rotulus_width_spans {H : Type} : DataW H := .agg [.agg [.lit (.int .i32 (-2147483648)), .lit (.int .i32 31), .lit (.int .i64 0)], .agg [.lit (.int .i32 127), .lit (.int .i32 159), .lit (.int .i64 0)], .agg [.lit (.int .i32 768), .lit (.int .i32 879), .lit (.int .i64 0)], .agg [.lit (.int .i32 4352), .lit (.int .i32 4447), .lit (.int .i64 2)], .agg [.lit (.int .i32 8203), .lit (.int .i32 8207), .lit (.int .i64 0)], .agg [.lit (.int .i32 11904), .lit (.int .i32 12350), .lit (.int .i64 2)], .agg [.lit (.int .i32 12353), .lit (.int .i32 13311), .lit (.int .i64 2)], .agg [.lit (.int .i32 13312), .lit (.int .i32 19903), .lit (.int .i64 2)], .agg [.lit (.int .i32 19968), .lit (.int .i32 40959), .lit (.int .i64 2)], .agg [.lit (.int .i32 40960), .lit (.int .i32 42191), .lit (.int .i64 2)], .agg [.lit (.int .i32 44032), .lit (.int .i32 55203), .lit (.int .i64 2)], .agg [.lit (.int .i32 55296), .lit (.int .i32 57343), .lit (.int .i64 0)], .agg [.lit (.int .i32 63744), .lit (.int .i32 64255), .lit (.int .i64 2)], .agg [.lit (.int .i32 65024), .lit (.int .i32 65039), .lit (.int .i64 0)], .agg [.lit (.int .i32 65072), .lit (.int .i32 65135), .lit (.int .i64 2)], .agg [.lit (.int .i32 65280), .lit (.int .i32 65376), .lit (.int .i64 2)], .agg [.lit (.int .i32 65504), .lit (.int .i32 65510), .lit (.int .i64 2)], .agg [.lit (.int .i32 127744), .lit (.int .i32 128591), .lit (.int .i64 2)], .agg [.lit (.int .i32 129280), .lit (.int .i32 129535), .lit (.int .i64 2)], .agg [.lit (.int .i32 131072), .lit (.int .i32 262141), .lit (.int .i64 2)], .agg [.lit (.int .i32 1114112), .lit (.int .i32 2147483647), .lit (.int .i64 0)]]

/-- 'rotuluslaw4.PackUint': WHATEVER THE INPUT: true; the input reads as it did. -/
def packUintSpec : ChangeSpec := { name := "packUint", fn := fun _ => fun
  | [d1, d2] => { results := [.lit (.bool true)], args := [d1, d2] }
  | _ => none }
def packUintRow : OpenClaim := { program := "ytalhlgiklochdaadoor", sum := "2345da8812a0d4cdfe95221b0c784c6958652a5a0995d22bda5b0863c28bc6d1", func := "rotulus/rotuluslaw4.PackUint", spec := "packUint", inPlace := ["internal/abi.NoEscape"], unfollowed := true, recurses := true, named := ["rotulus/width.spans"], apart := false, laid := [("rotulus/width.spans", laid_rotulus_width_spans)] }
def PackUintSaid : Prop := packUintRow.holds Tryd.pinned (OpenSpec.ofChange packUintSpec)

/-- ITS FALSE NEIGHBOUR: 'it returns false'. Refute it at one input. -/
def packUintWrong : ChangeSpec := { name := "packUint", fn := fun _ => fun
  | [d1, d2] => { results := [.lit (.bool false)], args := [d1, d2] }
  | _ => none }
def PackUintWrongFalsely : Prop := packUintRow.holds Tryd.pinned (OpenSpec.ofChange packUintWrong)

/-- 'rotuluslaw4.PackAll': WHATEVER THE INPUT: true; the input reads as it did. -/
def packAllSpec : ChangeSpec := { name := "packAll", fn := fun _ => fun
  | [d1, d2, d3] => { results := [.lit (.bool true)], args := [d1, d2, d3] }
  | _ => none }
def packAllRow : OpenClaim := { program := "ytalhlgiklochdaadoor", sum := "2345da8812a0d4cdfe95221b0c784c6958652a5a0995d22bda5b0863c28bc6d1", func := "rotulus/rotuluslaw4.PackAll", spec := "packAll", inPlace := ["internal/abi.NoEscape"], unfollowed := true, recurses := true, named := ["rotulus/width.spans"], apart := false, laid := [("rotulus/width.spans", laid_rotulus_width_spans)] }
def PackAllSaid : Prop := packAllRow.holds Tryd.pinned (OpenSpec.ofChange packAllSpec)

/-- ITS FALSE NEIGHBOUR: 'it returns false'. Refute it at one input. -/
def packAllWrong : ChangeSpec := { name := "packAll", fn := fun _ => fun
  | [d1, d2, d3] => { results := [.lit (.bool false)], args := [d1, d2, d3] }
  | _ => none }
def PackAllWrongFalsely : Prop := packAllRow.holds Tryd.pinned (OpenSpec.ofChange packAllWrong)

/-- 'rotuluslaw4.PackAny': WHATEVER THE INPUT: true; the input reads as it did. -/
def packAnySpec : ChangeSpec := { name := "packAny", fn := fun _ => fun
  | [d1, d2, d3, d4] => { results := [.lit (.bool true)], args := [d1, d2, d3, d4] }
  | _ => none }
def packAnyRow : OpenClaim := { program := "ytalhlgiklochdaadoor", sum := "2345da8812a0d4cdfe95221b0c784c6958652a5a0995d22bda5b0863c28bc6d1", func := "rotulus/rotuluslaw4.PackAny", spec := "packAny", inPlace := ["internal/abi.NoEscape"], unfollowed := true, recurses := true, named := ["rotulus/width.spans"], apart := false, laid := [("rotulus/width.spans", laid_rotulus_width_spans)] }
def PackAnySaid : Prop := packAnyRow.holds Tryd.pinned (OpenSpec.ofChange packAnySpec)

/-- ITS FALSE NEIGHBOUR: 'it returns false'. Refute it at one input. -/
def packAnyWrong : ChangeSpec := { name := "packAny", fn := fun _ => fun
  | [d1, d2, d3, d4] => { results := [.lit (.bool false)], args := [d1, d2, d3, d4] }
  | _ => none }
def PackAnyWrongFalsely : Prop := packAnyRow.holds Tryd.pinned (OpenSpec.ofChange packAnyWrong)

/-- 'rotuluslaw4.PackShort': WHATEVER THE INPUT: true; the input reads as it did. -/
def packShortSpec : ChangeSpec := { name := "packShort", fn := fun _ => fun
  | [d1, d2, d3] => { results := [.lit (.bool true)], args := [d1, d2, d3] }
  | _ => none }
def packShortRow : OpenClaim := { program := "ytalhlgiklochdaadoor", sum := "2345da8812a0d4cdfe95221b0c784c6958652a5a0995d22bda5b0863c28bc6d1", func := "rotulus/rotuluslaw4.PackShort", spec := "packShort", inPlace := ["internal/abi.NoEscape"], unfollowed := true, recurses := true, named := ["rotulus/width.spans"], apart := false, laid := [("rotulus/width.spans", laid_rotulus_width_spans)] }
def PackShortSaid : Prop := packShortRow.holds Tryd.pinned (OpenSpec.ofChange packShortSpec)

/-- ITS FALSE NEIGHBOUR: 'it returns false'. Refute it at one input. -/
def packShortWrong : ChangeSpec := { name := "packShort", fn := fun _ => fun
  | [d1, d2, d3] => { results := [.lit (.bool false)], args := [d1, d2, d3] }
  | _ => none }
def PackShortWrongFalsely : Prop := packShortRow.holds Tryd.pinned (OpenSpec.ofChange packShortWrong)

/-- 'rotuluslaw4.PageAll': WHATEVER THE INPUT: true; the input reads as it did. -/
def pageAllSpec : ChangeSpec := { name := "pageAll", fn := fun _ => fun
  | [d1, d2] => { results := [.lit (.bool true)], args := [d1, d2] }
  | _ => none }
def pageAllRow : OpenClaim := { program := "ytalhlgiklochdaadoor", sum := "2345da8812a0d4cdfe95221b0c784c6958652a5a0995d22bda5b0863c28bc6d1", func := "rotulus/rotuluslaw4.PageAll", spec := "pageAll", inPlace := ["internal/abi.NoEscape"], unfollowed := true, recurses := true, named := ["rotulus/width.spans"], apart := false, laid := [("rotulus/width.spans", laid_rotulus_width_spans)] }
def PageAllSaid : Prop := pageAllRow.holds Tryd.pinned (OpenSpec.ofChange pageAllSpec)

/-- ITS FALSE NEIGHBOUR: 'it returns false'. Refute it at one input. -/
def pageAllWrong : ChangeSpec := { name := "pageAll", fn := fun _ => fun
  | [d1, d2] => { results := [.lit (.bool false)], args := [d1, d2] }
  | _ => none }
def PageAllWrongFalsely : Prop := pageAllRow.holds Tryd.pinned (OpenSpec.ofChange pageAllWrong)

/-- 'rotuluslaw4.StoreAll': WHATEVER THE INPUT: true; the input reads as it did. -/
def storeAllSpec : ChangeSpec := { name := "storeAll", fn := fun _ => fun
  | [d1, d2] => { results := [.lit (.bool true)], args := [d1, d2] }
  | _ => none }
def storeAllRow : OpenClaim := { program := "ytalhlgiklochdaadoor", sum := "2345da8812a0d4cdfe95221b0c784c6958652a5a0995d22bda5b0863c28bc6d1", func := "rotulus/rotuluslaw4.StoreAll", spec := "storeAll", inPlace := ["internal/abi.NoEscape"], unfollowed := true, recurses := true, named := ["rotulus/width.spans"], apart := false, laid := [("rotulus/width.spans", laid_rotulus_width_spans)] }
def StoreAllSaid : Prop := storeAllRow.holds Tryd.pinned (OpenSpec.ofChange storeAllSpec)

/-- ITS FALSE NEIGHBOUR: 'it returns false'. Refute it at one input. -/
def storeAllWrong : ChangeSpec := { name := "storeAll", fn := fun _ => fun
  | [d1, d2] => { results := [.lit (.bool false)], args := [d1, d2] }
  | _ => none }
def StoreAllWrongFalsely : Prop := storeAllRow.holds Tryd.pinned (OpenSpec.ofChange storeAllWrong)

/-- 'rotuluslaw4.StoreEnds': WHATEVER THE INPUT: true; the input reads as it did. -/
def storeEndsSpec : ChangeSpec := { name := "storeEnds", fn := fun _ => fun
  | [d1, d2] => { results := [.lit (.bool true)], args := [d1, d2] }
  | _ => none }
def storeEndsRow : OpenClaim := { program := "ytalhlgiklochdaadoor", sum := "2345da8812a0d4cdfe95221b0c784c6958652a5a0995d22bda5b0863c28bc6d1", func := "rotulus/rotuluslaw4.StoreEnds", spec := "storeEnds", inPlace := ["internal/abi.NoEscape"], unfollowed := true, recurses := true, named := ["rotulus/width.spans"], apart := false, laid := [("rotulus/width.spans", laid_rotulus_width_spans)] }
def StoreEndsSaid : Prop := storeEndsRow.holds Tryd.pinned (OpenSpec.ofChange storeEndsSpec)

/-- ITS FALSE NEIGHBOUR: 'it returns false'. Refute it at one input. -/
def storeEndsWrong : ChangeSpec := { name := "storeEnds", fn := fun _ => fun
  | [d1, d2] => { results := [.lit (.bool false)], args := [d1, d2] }
  | _ => none }
def StoreEndsWrongFalsely : Prop := storeEndsRow.holds Tryd.pinned (OpenSpec.ofChange storeEndsWrong)

/-- 'rotuluslaw4.StoreOwn': WHATEVER THE INPUT: true; the input reads as it did. -/
def storeOwnSpec : ChangeSpec := { name := "storeOwn", fn := fun _ => fun
  | [d] => { results := [.lit (.bool true)], args := [d] }
  | _ => none }
def storeOwnRow : OpenClaim := { program := "ytalhlgiklochdaadoor", sum := "2345da8812a0d4cdfe95221b0c784c6958652a5a0995d22bda5b0863c28bc6d1", func := "rotulus/rotuluslaw4.StoreOwn", spec := "storeOwn", inPlace := ["internal/abi.NoEscape"], unfollowed := true, recurses := true, named := ["rotulus/width.spans"], apart := false, laid := [("rotulus/width.spans", laid_rotulus_width_spans)] }
def StoreOwnSaid : Prop := storeOwnRow.holds Tryd.pinned (OpenSpec.ofChange storeOwnSpec)

/-- ITS FALSE NEIGHBOUR: 'it returns false'. Refute it at one input. -/
def storeOwnWrong : ChangeSpec := { name := "storeOwn", fn := fun _ => fun
  | [d] => { results := [.lit (.bool false)], args := [d] }
  | _ => none }
def StoreOwnWrongFalsely : Prop := storeOwnRow.holds Tryd.pinned (OpenSpec.ofChange storeOwnWrong)

/-- 'rotuluslaw4.StoreNone': WHATEVER THE INPUT: true; the input reads as it did. -/
def storeNoneSpec : ChangeSpec := { name := "storeNone", fn := fun _ => fun
  | [] => { results := [.lit (.bool true)], args := [] }
  | _ => none }
def storeNoneRow : OpenClaim := { program := "ytalhlgiklochdaadoor", sum := "2345da8812a0d4cdfe95221b0c784c6958652a5a0995d22bda5b0863c28bc6d1", func := "rotulus/rotuluslaw4.StoreNone", spec := "storeNone", inPlace := ["internal/abi.NoEscape"], unfollowed := true, recurses := true, named := ["rotulus/width.spans"], apart := false, laid := [("rotulus/width.spans", laid_rotulus_width_spans)] }
def StoreNoneSaid : Prop := storeNoneRow.holds Tryd.pinned (OpenSpec.ofChange storeNoneSpec)

/-- ITS FALSE NEIGHBOUR: 'it returns false'. Refute it at one input. -/
def storeNoneWrong : ChangeSpec := { name := "storeNone", fn := fun _ => fun
  | [] => { results := [.lit (.bool false)], args := [] }
  | _ => none }
def StoreNoneWrongFalsely : Prop := storeNoneRow.holds Tryd.pinned (OpenSpec.ofChange storeNoneWrong)

/-- 'rotuluslaw4.PackOrder': WHATEVER THE INPUT: true; the input reads as it did. -/
def packOrderSpec : ChangeSpec := { name := "packOrder", fn := fun _ => fun
  | [d1, d2] => { results := [.lit (.bool true)], args := [d1, d2] }
  | _ => none }
def packOrderRow : OpenClaim := { program := "ytalhlgiklochdaadoor", sum := "2345da8812a0d4cdfe95221b0c784c6958652a5a0995d22bda5b0863c28bc6d1", func := "rotulus/rotuluslaw4.PackOrder", spec := "packOrder", inPlace := ["internal/abi.NoEscape"], unfollowed := true, recurses := true, named := ["rotulus/width.spans"], apart := false, laid := [("rotulus/width.spans", laid_rotulus_width_spans)] }
def PackOrderSaid : Prop := packOrderRow.holds Tryd.pinned (OpenSpec.ofChange packOrderSpec)

/-- ITS FALSE NEIGHBOUR: 'it returns false'. Refute it at one input. -/
def packOrderWrong : ChangeSpec := { name := "packOrder", fn := fun _ => fun
  | [d1, d2] => { results := [.lit (.bool false)], args := [d1, d2] }
  | _ => none }
def PackOrderWrongFalsely : Prop := packOrderRow.holds Tryd.pinned (OpenSpec.ofChange packOrderWrong)

/-- 'rotuluslaw4.PackHalves': WHATEVER THE INPUT: true; the input reads as it did. -/
def packHalvesSpec : ChangeSpec := { name := "packHalves", fn := fun _ => fun
  | [d1, d2, d3] => { results := [.lit (.bool true)], args := [d1, d2, d3] }
  | _ => none }
def packHalvesRow : OpenClaim := { program := "ytalhlgiklochdaadoor", sum := "2345da8812a0d4cdfe95221b0c784c6958652a5a0995d22bda5b0863c28bc6d1", func := "rotulus/rotuluslaw4.PackHalves", spec := "packHalves", inPlace := ["internal/abi.NoEscape"], unfollowed := true, recurses := true, named := ["rotulus/width.spans"], apart := false, laid := [("rotulus/width.spans", laid_rotulus_width_spans)] }
def PackHalvesSaid : Prop := packHalvesRow.holds Tryd.pinned (OpenSpec.ofChange packHalvesSpec)

/-- ITS FALSE NEIGHBOUR: 'it returns false'. Refute it at one input. -/
def packHalvesWrong : ChangeSpec := { name := "packHalves", fn := fun _ => fun
  | [d1, d2, d3] => { results := [.lit (.bool false)], args := [d1, d2, d3] }
  | _ => none }
def PackHalvesWrongFalsely : Prop := packHalvesRow.holds Tryd.pinned (OpenSpec.ofChange packHalvesWrong)

/-- 'rotuluslaw4.PackMany': WHATEVER THE INPUT: true; the input reads as it did. -/
def packManySpec : ChangeSpec := { name := "packMany", fn := fun _ => fun
  | [d] => { results := [.lit (.bool true)], args := [d] }
  | _ => none }
def packManyRow : OpenClaim := { program := "ytalhlgiklochdaadoor", sum := "2345da8812a0d4cdfe95221b0c784c6958652a5a0995d22bda5b0863c28bc6d1", func := "rotulus/rotuluslaw4.PackMany", spec := "packMany", inPlace := ["internal/abi.NoEscape"], unfollowed := true, recurses := true, named := ["rotulus/width.spans"], apart := false, laid := [("rotulus/width.spans", laid_rotulus_width_spans)] }
def PackManySaid : Prop := packManyRow.holds Tryd.pinned (OpenSpec.ofChange packManySpec)

/-- ITS FALSE NEIGHBOUR: 'it returns false'. Refute it at one input. -/
def packManyWrong : ChangeSpec := { name := "packMany", fn := fun _ => fun
  | [d] => { results := [.lit (.bool false)], args := [d] }
  | _ => none }
def PackManyWrongFalsely : Prop := packManyRow.holds Tryd.pinned (OpenSpec.ofChange packManyWrong)

/-- 'rotuluslaw4.PageFull': WHATEVER THE INPUT: true; the input reads as it did. -/
def pageFullSpec : ChangeSpec := { name := "pageFull", fn := fun _ => fun
  | [d1, d2] => { results := [.lit (.bool true)], args := [d1, d2] }
  | _ => none }
def pageFullRow : OpenClaim := { program := "ytalhlgiklochdaadoor", sum := "2345da8812a0d4cdfe95221b0c784c6958652a5a0995d22bda5b0863c28bc6d1", func := "rotulus/rotuluslaw4.PageFull", spec := "pageFull", inPlace := ["internal/abi.NoEscape"], unfollowed := true, recurses := true, named := ["rotulus/width.spans"], apart := false, laid := [("rotulus/width.spans", laid_rotulus_width_spans)] }
def PageFullSaid : Prop := pageFullRow.holds Tryd.pinned (OpenSpec.ofChange pageFullSpec)

/-- ITS FALSE NEIGHBOUR: 'it returns false'. Refute it at one input. -/
def pageFullWrong : ChangeSpec := { name := "pageFull", fn := fun _ => fun
  | [d1, d2] => { results := [.lit (.bool false)], args := [d1, d2] }
  | _ => none }
def PageFullWrongFalsely : Prop := pageFullRow.holds Tryd.pinned (OpenSpec.ofChange pageFullWrong)

/-- 'rotuluslaw4.StoreTurn': WHATEVER THE INPUT: true; the input reads as it did. -/
def storeTurnSpec : ChangeSpec := { name := "storeTurn", fn := fun _ => fun
  | [d1, d2] => { results := [.lit (.bool true)], args := [d1, d2] }
  | _ => none }
def storeTurnRow : OpenClaim := { program := "ytalhlgiklochdaadoor", sum := "2345da8812a0d4cdfe95221b0c784c6958652a5a0995d22bda5b0863c28bc6d1", func := "rotulus/rotuluslaw4.StoreTurn", spec := "storeTurn", inPlace := ["internal/abi.NoEscape"], unfollowed := true, recurses := true, named := ["rotulus/width.spans"], apart := false, laid := [("rotulus/width.spans", laid_rotulus_width_spans)] }
def StoreTurnSaid : Prop := storeTurnRow.holds Tryd.pinned (OpenSpec.ofChange storeTurnSpec)

/-- ITS FALSE NEIGHBOUR: 'it returns false'. Refute it at one input. -/
def storeTurnWrong : ChangeSpec := { name := "storeTurn", fn := fun _ => fun
  | [d1, d2] => { results := [.lit (.bool false)], args := [d1, d2] }
  | _ => none }
def StoreTurnWrongFalsely : Prop := storeTurnRow.holds Tryd.pinned (OpenSpec.ofChange storeTurnWrong)

/-- 'rotuluslaw4.StoreLimits': WHATEVER THE INPUT: true; the input reads as it did. -/
def storeLimitsSpec : ChangeSpec := { name := "storeLimits", fn := fun _ => fun
  | [d] => { results := [.lit (.bool true)], args := [d] }
  | _ => none }
def storeLimitsRow : OpenClaim := { program := "ytalhlgiklochdaadoor", sum := "2345da8812a0d4cdfe95221b0c784c6958652a5a0995d22bda5b0863c28bc6d1", func := "rotulus/rotuluslaw4.StoreLimits", spec := "storeLimits", inPlace := ["internal/abi.NoEscape"], unfollowed := true, recurses := true, named := ["rotulus/width.spans"], apart := false, laid := [("rotulus/width.spans", laid_rotulus_width_spans)] }
def StoreLimitsSaid : Prop := storeLimitsRow.holds Tryd.pinned (OpenSpec.ofChange storeLimitsSpec)

/-- ITS FALSE NEIGHBOUR: 'it returns false'. Refute it at one input. -/
def storeLimitsWrong : ChangeSpec := { name := "storeLimits", fn := fun _ => fun
  | [d] => { results := [.lit (.bool false)], args := [d] }
  | _ => none }
def StoreLimitsWrongFalsely : Prop := storeLimitsRow.holds Tryd.pinned (OpenSpec.ofChange storeLimitsWrong)

/- THE SECOND FORM. 'bulk': how many values and letters a reading holds, each counted each time it is reached (what is shared counts as often as it is met; a slice's spare places count too). A statement '..UptoSaid' is the law's where the arguments, and the package variables that the reading takes, are together of bulk at most 1048576: NARROWER than '..Said'. Prove '..Said' where nothing that the law and all that it calls make is longer than what came in: it says more and counts as full. Else prove '..UptoSaid'. A law counts once. -/
mutual
def uptoBulk {H : Type} : DataW H → Nat
  | .lit (.string bytes) => bytes.length + 1
  | .lit _ => 1
  | .nil => 1
  | .ptr d => uptoBulk d + 1
  | .slice elems spare => uptoBulkAll elems + uptoBulkAll spare + 1
  | .agg parts => uptoBulkAll parts + 1
  | .iface _ d => uptoBulk d + 1
  | .map entries => uptoBulkEntries entries + 1
  | .held _ => 1
def uptoBulkAll {H : Type} : List (DataW H) → Nat
  | [] => 0
  | d :: r => uptoBulk d + uptoBulkAll r
def uptoBulkEntries {H : Type} : List (Lit × DataW H) → Nat
  | [] => 0
  | x :: r => uptoBulkEntry x + uptoBulkEntries r
def uptoBulkEntry {H : Type} : Lit × DataW H → Nat
  | (.string bytes, d) => bytes.length + uptoBulk d + 1
  | (_, d) => uptoBulk d + 1
 end
def uptoSmall : (H : Type) → List (DataW H) → Bool := fun _ ds => decide (uptoBulkAll ds ≤ 1048576)
def OpenSpec.upto (s : _root_.Go.ChangeSpec) : _root_.Go.OpenSpec := { _root_.Go.OpenSpec.ofChange s with cond := some uptoSmall }

/-- 'rotuluslaw4.PackUint', WHERE WHAT IT READS IS OF BULK AT MOST 1048576: true; the input reads as it did. -/
def packUintUptoRow : OpenClaim := { program := "ytalhlgiklochdaadoor", sum := "2345da8812a0d4cdfe95221b0c784c6958652a5a0995d22bda5b0863c28bc6d1", func := "rotulus/rotuluslaw4.PackUint", spec := "packUint", inPlace := ["internal/abi.NoEscape"], unfollowed := true, recurses := true, named := ["rotulus/width.spans"], apart := false, laid := [("rotulus/width.spans", laid_rotulus_width_spans)], narrowed := true }
def PackUintUptoSaid : Prop := packUintUptoRow.holds Tryd.pinned (OpenSpec.upto packUintSpec)

/-- 'rotuluslaw4.PackAll', WHERE WHAT IT READS IS OF BULK AT MOST 1048576: true; the input reads as it did. -/
def packAllUptoRow : OpenClaim := { program := "ytalhlgiklochdaadoor", sum := "2345da8812a0d4cdfe95221b0c784c6958652a5a0995d22bda5b0863c28bc6d1", func := "rotulus/rotuluslaw4.PackAll", spec := "packAll", inPlace := ["internal/abi.NoEscape"], unfollowed := true, recurses := true, named := ["rotulus/width.spans"], apart := false, laid := [("rotulus/width.spans", laid_rotulus_width_spans)], narrowed := true }
def PackAllUptoSaid : Prop := packAllUptoRow.holds Tryd.pinned (OpenSpec.upto packAllSpec)

/-- 'rotuluslaw4.PackAny', WHERE WHAT IT READS IS OF BULK AT MOST 1048576: true; the input reads as it did. -/
def packAnyUptoRow : OpenClaim := { program := "ytalhlgiklochdaadoor", sum := "2345da8812a0d4cdfe95221b0c784c6958652a5a0995d22bda5b0863c28bc6d1", func := "rotulus/rotuluslaw4.PackAny", spec := "packAny", inPlace := ["internal/abi.NoEscape"], unfollowed := true, recurses := true, named := ["rotulus/width.spans"], apart := false, laid := [("rotulus/width.spans", laid_rotulus_width_spans)], narrowed := true }
def PackAnyUptoSaid : Prop := packAnyUptoRow.holds Tryd.pinned (OpenSpec.upto packAnySpec)

/-- 'rotuluslaw4.PackShort', WHERE WHAT IT READS IS OF BULK AT MOST 1048576: true; the input reads as it did. -/
def packShortUptoRow : OpenClaim := { program := "ytalhlgiklochdaadoor", sum := "2345da8812a0d4cdfe95221b0c784c6958652a5a0995d22bda5b0863c28bc6d1", func := "rotulus/rotuluslaw4.PackShort", spec := "packShort", inPlace := ["internal/abi.NoEscape"], unfollowed := true, recurses := true, named := ["rotulus/width.spans"], apart := false, laid := [("rotulus/width.spans", laid_rotulus_width_spans)], narrowed := true }
def PackShortUptoSaid : Prop := packShortUptoRow.holds Tryd.pinned (OpenSpec.upto packShortSpec)

/-- 'rotuluslaw4.PageAll', WHERE WHAT IT READS IS OF BULK AT MOST 1048576: true; the input reads as it did. -/
def pageAllUptoRow : OpenClaim := { program := "ytalhlgiklochdaadoor", sum := "2345da8812a0d4cdfe95221b0c784c6958652a5a0995d22bda5b0863c28bc6d1", func := "rotulus/rotuluslaw4.PageAll", spec := "pageAll", inPlace := ["internal/abi.NoEscape"], unfollowed := true, recurses := true, named := ["rotulus/width.spans"], apart := false, laid := [("rotulus/width.spans", laid_rotulus_width_spans)], narrowed := true }
def PageAllUptoSaid : Prop := pageAllUptoRow.holds Tryd.pinned (OpenSpec.upto pageAllSpec)

/-- 'rotuluslaw4.StoreAll', WHERE WHAT IT READS IS OF BULK AT MOST 1048576: true; the input reads as it did. -/
def storeAllUptoRow : OpenClaim := { program := "ytalhlgiklochdaadoor", sum := "2345da8812a0d4cdfe95221b0c784c6958652a5a0995d22bda5b0863c28bc6d1", func := "rotulus/rotuluslaw4.StoreAll", spec := "storeAll", inPlace := ["internal/abi.NoEscape"], unfollowed := true, recurses := true, named := ["rotulus/width.spans"], apart := false, laid := [("rotulus/width.spans", laid_rotulus_width_spans)], narrowed := true }
def StoreAllUptoSaid : Prop := storeAllUptoRow.holds Tryd.pinned (OpenSpec.upto storeAllSpec)

/-- 'rotuluslaw4.StoreEnds', WHERE WHAT IT READS IS OF BULK AT MOST 1048576: true; the input reads as it did. -/
def storeEndsUptoRow : OpenClaim := { program := "ytalhlgiklochdaadoor", sum := "2345da8812a0d4cdfe95221b0c784c6958652a5a0995d22bda5b0863c28bc6d1", func := "rotulus/rotuluslaw4.StoreEnds", spec := "storeEnds", inPlace := ["internal/abi.NoEscape"], unfollowed := true, recurses := true, named := ["rotulus/width.spans"], apart := false, laid := [("rotulus/width.spans", laid_rotulus_width_spans)], narrowed := true }
def StoreEndsUptoSaid : Prop := storeEndsUptoRow.holds Tryd.pinned (OpenSpec.upto storeEndsSpec)

/-- 'rotuluslaw4.StoreOwn', WHERE WHAT IT READS IS OF BULK AT MOST 1048576: true; the input reads as it did. -/
def storeOwnUptoRow : OpenClaim := { program := "ytalhlgiklochdaadoor", sum := "2345da8812a0d4cdfe95221b0c784c6958652a5a0995d22bda5b0863c28bc6d1", func := "rotulus/rotuluslaw4.StoreOwn", spec := "storeOwn", inPlace := ["internal/abi.NoEscape"], unfollowed := true, recurses := true, named := ["rotulus/width.spans"], apart := false, laid := [("rotulus/width.spans", laid_rotulus_width_spans)], narrowed := true }
def StoreOwnUptoSaid : Prop := storeOwnUptoRow.holds Tryd.pinned (OpenSpec.upto storeOwnSpec)

/-- 'rotuluslaw4.StoreNone', WHERE WHAT IT READS IS OF BULK AT MOST 1048576: true; the input reads as it did. -/
def storeNoneUptoRow : OpenClaim := { program := "ytalhlgiklochdaadoor", sum := "2345da8812a0d4cdfe95221b0c784c6958652a5a0995d22bda5b0863c28bc6d1", func := "rotulus/rotuluslaw4.StoreNone", spec := "storeNone", inPlace := ["internal/abi.NoEscape"], unfollowed := true, recurses := true, named := ["rotulus/width.spans"], apart := false, laid := [("rotulus/width.spans", laid_rotulus_width_spans)], narrowed := true }
def StoreNoneUptoSaid : Prop := storeNoneUptoRow.holds Tryd.pinned (OpenSpec.upto storeNoneSpec)

/-- 'rotuluslaw4.PackOrder', WHERE WHAT IT READS IS OF BULK AT MOST 1048576: true; the input reads as it did. -/
def packOrderUptoRow : OpenClaim := { program := "ytalhlgiklochdaadoor", sum := "2345da8812a0d4cdfe95221b0c784c6958652a5a0995d22bda5b0863c28bc6d1", func := "rotulus/rotuluslaw4.PackOrder", spec := "packOrder", inPlace := ["internal/abi.NoEscape"], unfollowed := true, recurses := true, named := ["rotulus/width.spans"], apart := false, laid := [("rotulus/width.spans", laid_rotulus_width_spans)], narrowed := true }
def PackOrderUptoSaid : Prop := packOrderUptoRow.holds Tryd.pinned (OpenSpec.upto packOrderSpec)

/-- 'rotuluslaw4.PackHalves', WHERE WHAT IT READS IS OF BULK AT MOST 1048576: true; the input reads as it did. -/
def packHalvesUptoRow : OpenClaim := { program := "ytalhlgiklochdaadoor", sum := "2345da8812a0d4cdfe95221b0c784c6958652a5a0995d22bda5b0863c28bc6d1", func := "rotulus/rotuluslaw4.PackHalves", spec := "packHalves", inPlace := ["internal/abi.NoEscape"], unfollowed := true, recurses := true, named := ["rotulus/width.spans"], apart := false, laid := [("rotulus/width.spans", laid_rotulus_width_spans)], narrowed := true }
def PackHalvesUptoSaid : Prop := packHalvesUptoRow.holds Tryd.pinned (OpenSpec.upto packHalvesSpec)

/-- 'rotuluslaw4.PackMany', WHERE WHAT IT READS IS OF BULK AT MOST 1048576: true; the input reads as it did. -/
def packManyUptoRow : OpenClaim := { program := "ytalhlgiklochdaadoor", sum := "2345da8812a0d4cdfe95221b0c784c6958652a5a0995d22bda5b0863c28bc6d1", func := "rotulus/rotuluslaw4.PackMany", spec := "packMany", inPlace := ["internal/abi.NoEscape"], unfollowed := true, recurses := true, named := ["rotulus/width.spans"], apart := false, laid := [("rotulus/width.spans", laid_rotulus_width_spans)], narrowed := true }
def PackManyUptoSaid : Prop := packManyUptoRow.holds Tryd.pinned (OpenSpec.upto packManySpec)

/-- 'rotuluslaw4.PageFull', WHERE WHAT IT READS IS OF BULK AT MOST 1048576: true; the input reads as it did. -/
def pageFullUptoRow : OpenClaim := { program := "ytalhlgiklochdaadoor", sum := "2345da8812a0d4cdfe95221b0c784c6958652a5a0995d22bda5b0863c28bc6d1", func := "rotulus/rotuluslaw4.PageFull", spec := "pageFull", inPlace := ["internal/abi.NoEscape"], unfollowed := true, recurses := true, named := ["rotulus/width.spans"], apart := false, laid := [("rotulus/width.spans", laid_rotulus_width_spans)], narrowed := true }
def PageFullUptoSaid : Prop := pageFullUptoRow.holds Tryd.pinned (OpenSpec.upto pageFullSpec)

/-- 'rotuluslaw4.StoreTurn', WHERE WHAT IT READS IS OF BULK AT MOST 1048576: true; the input reads as it did. -/
def storeTurnUptoRow : OpenClaim := { program := "ytalhlgiklochdaadoor", sum := "2345da8812a0d4cdfe95221b0c784c6958652a5a0995d22bda5b0863c28bc6d1", func := "rotulus/rotuluslaw4.StoreTurn", spec := "storeTurn", inPlace := ["internal/abi.NoEscape"], unfollowed := true, recurses := true, named := ["rotulus/width.spans"], apart := false, laid := [("rotulus/width.spans", laid_rotulus_width_spans)], narrowed := true }
def StoreTurnUptoSaid : Prop := storeTurnUptoRow.holds Tryd.pinned (OpenSpec.upto storeTurnSpec)

/-- 'rotuluslaw4.StoreLimits', WHERE WHAT IT READS IS OF BULK AT MOST 1048576: true; the input reads as it did. -/
def storeLimitsUptoRow : OpenClaim := { program := "ytalhlgiklochdaadoor", sum := "2345da8812a0d4cdfe95221b0c784c6958652a5a0995d22bda5b0863c28bc6d1", func := "rotulus/rotuluslaw4.StoreLimits", spec := "storeLimits", inPlace := ["internal/abi.NoEscape"], unfollowed := true, recurses := true, named := ["rotulus/width.spans"], apart := false, laid := [("rotulus/width.spans", laid_rotulus_width_spans)], narrowed := true }
def StoreLimitsUptoSaid : Prop := storeLimitsUptoRow.holds Tryd.pinned (OpenSpec.upto storeLimitsSpec)

end Rows
end Go.Proofs.YtalhlgiklochdaaDoor
