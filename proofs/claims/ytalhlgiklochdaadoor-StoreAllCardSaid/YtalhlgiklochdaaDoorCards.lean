/-
  DERIVED. GIVEN WITH THE SEED: THE CARDS: each row of YtalhlgiklochdaaDoorRows.lean that lists a variable, with what it lists TIED to the program's text (the seventh form; the later family's looks); each row that meets fmt, with fmt's text TOLD by the authors' own Lean function (tested against real Go, not proved from fmt's source: count such statements apart). THE CARD IS WHAT COUNTS. Prove the row's statement (the work); the ties are given (YtalhlgiklochdaaDoorTie.lean); close each card by the builder's one call (the guide's Derived/Test/ToyasCard.lean, 'card_holds'). Laid BY PROGRAM, IN A SANDBOX (cutbox-door.mjs). By AI agents, Wed Nov 11 2026. No macro, syntax, notation, axiom, sorry.
-/
import Derived.Test.YtalhlgiklochdaaDoorRows
import GoSem.ClaimSeven
namespace Go.Proofs.YtalhlgiklochdaaDoor
namespace Rows

/-- THE TIED CARD OF 'rotuluslaw4.PackUint'. -/
def packUintCard : Claim7 := { stood := { row := packUintRow, standIns := [], harness := (true, "bccee9e96b19af781c8a1eed030a9565be2cf5e6063db3dc01cdf12cfe41ec4d"), looks := false }, kinds := [], alts := [], laidByText := true, laidKinds := [.data], laidTests := true, laidLooks := .later }
def PackUintCardSaid : Prop := Claim7.holds Tryd.pinned (.plain (OpenSpec.ofChange packUintSpec)) packUintCard

/-- THE TIED CARD OF 'rotuluslaw4.PackAll'. -/
def packAllCard : Claim7 := { stood := { row := packAllRow, standIns := [], harness := (true, "bccee9e96b19af781c8a1eed030a9565be2cf5e6063db3dc01cdf12cfe41ec4d"), looks := false }, kinds := [], alts := [], laidByText := true, laidKinds := [.data], laidTests := true, laidLooks := .later }
def PackAllCardSaid : Prop := Claim7.holds Tryd.pinned (.plain (OpenSpec.ofChange packAllSpec)) packAllCard

/-- THE TIED CARD OF 'rotuluslaw4.PackAny'. -/
def packAnyCard : Claim7 := { stood := { row := packAnyRow, standIns := [], harness := (true, "bccee9e96b19af781c8a1eed030a9565be2cf5e6063db3dc01cdf12cfe41ec4d"), looks := false }, kinds := [], alts := [], laidByText := true, laidKinds := [.data], laidTests := true, laidLooks := .later }
def PackAnyCardSaid : Prop := Claim7.holds Tryd.pinned (.plain (OpenSpec.ofChange packAnySpec)) packAnyCard

/-- THE TIED CARD OF 'rotuluslaw4.PackShort'. -/
def packShortCard : Claim7 := { stood := { row := packShortRow, standIns := [], harness := (true, "bccee9e96b19af781c8a1eed030a9565be2cf5e6063db3dc01cdf12cfe41ec4d"), looks := false }, kinds := [], alts := [], laidByText := true, laidKinds := [.data], laidTests := true, laidLooks := .later }
def PackShortCardSaid : Prop := Claim7.holds Tryd.pinned (.plain (OpenSpec.ofChange packShortSpec)) packShortCard

/-- THE TIED CARD OF 'rotuluslaw4.PageAll'. -/
def pageAllCard : Claim7 := { stood := { row := pageAllRow, standIns := [], harness := (true, "bccee9e96b19af781c8a1eed030a9565be2cf5e6063db3dc01cdf12cfe41ec4d"), looks := false }, kinds := [], alts := [], laidByText := true, laidKinds := [.data], laidTests := true, laidLooks := .later }
def PageAllCardSaid : Prop := Claim7.holds Tryd.pinned (.plain (OpenSpec.ofChange pageAllSpec)) pageAllCard

/-- THE TIED CARD OF 'rotuluslaw4.StoreAll'. -/
def storeAllCard : Claim7 := { stood := { row := storeAllRow, standIns := [], harness := (true, "bccee9e96b19af781c8a1eed030a9565be2cf5e6063db3dc01cdf12cfe41ec4d"), looks := false }, kinds := [], alts := [], laidByText := true, laidKinds := [.data], laidTests := true, laidLooks := .later }
def StoreAllCardSaid : Prop := Claim7.holds Tryd.pinned (.plain (OpenSpec.ofChange storeAllSpec)) storeAllCard

/-- THE TIED CARD OF 'rotuluslaw4.StoreEnds'. -/
def storeEndsCard : Claim7 := { stood := { row := storeEndsRow, standIns := [], harness := (true, "bccee9e96b19af781c8a1eed030a9565be2cf5e6063db3dc01cdf12cfe41ec4d"), looks := false }, kinds := [], alts := [], laidByText := true, laidKinds := [.data], laidTests := true, laidLooks := .later }
def StoreEndsCardSaid : Prop := Claim7.holds Tryd.pinned (.plain (OpenSpec.ofChange storeEndsSpec)) storeEndsCard

/-- THE TIED CARD OF 'rotuluslaw4.StoreOwn'. -/
def storeOwnCard : Claim7 := { stood := { row := storeOwnRow, standIns := [], harness := (true, "bccee9e96b19af781c8a1eed030a9565be2cf5e6063db3dc01cdf12cfe41ec4d"), looks := false }, kinds := [], alts := [], laidByText := true, laidKinds := [.data], laidTests := true, laidLooks := .later }
def StoreOwnCardSaid : Prop := Claim7.holds Tryd.pinned (.plain (OpenSpec.ofChange storeOwnSpec)) storeOwnCard

/-- THE TIED CARD OF 'rotuluslaw4.StoreNone'. -/
def storeNoneCard : Claim7 := { stood := { row := storeNoneRow, standIns := [], harness := (true, "bccee9e96b19af781c8a1eed030a9565be2cf5e6063db3dc01cdf12cfe41ec4d"), looks := false }, kinds := [], alts := [], laidByText := true, laidKinds := [.data], laidTests := true, laidLooks := .later }
def StoreNoneCardSaid : Prop := Claim7.holds Tryd.pinned (.plain (OpenSpec.ofChange storeNoneSpec)) storeNoneCard

/-- THE TIED CARD OF 'rotuluslaw4.PackOrder'. -/
def packOrderCard : Claim7 := { stood := { row := packOrderRow, standIns := [], harness := (true, "bccee9e96b19af781c8a1eed030a9565be2cf5e6063db3dc01cdf12cfe41ec4d"), looks := false }, kinds := [], alts := [], laidByText := true, laidKinds := [.data], laidTests := true, laidLooks := .later }
def PackOrderCardSaid : Prop := Claim7.holds Tryd.pinned (.plain (OpenSpec.ofChange packOrderSpec)) packOrderCard

/-- THE TIED CARD OF 'rotuluslaw4.PackHalves'. -/
def packHalvesCard : Claim7 := { stood := { row := packHalvesRow, standIns := [], harness := (true, "bccee9e96b19af781c8a1eed030a9565be2cf5e6063db3dc01cdf12cfe41ec4d"), looks := false }, kinds := [], alts := [], laidByText := true, laidKinds := [.data], laidTests := true, laidLooks := .later }
def PackHalvesCardSaid : Prop := Claim7.holds Tryd.pinned (.plain (OpenSpec.ofChange packHalvesSpec)) packHalvesCard

/-- THE TIED CARD OF 'rotuluslaw4.PackMany'. -/
def packManyCard : Claim7 := { stood := { row := packManyRow, standIns := [], harness := (true, "bccee9e96b19af781c8a1eed030a9565be2cf5e6063db3dc01cdf12cfe41ec4d"), looks := false }, kinds := [], alts := [], laidByText := true, laidKinds := [.data], laidTests := true, laidLooks := .later }
def PackManyCardSaid : Prop := Claim7.holds Tryd.pinned (.plain (OpenSpec.ofChange packManySpec)) packManyCard

/-- THE TIED CARD OF 'rotuluslaw4.PageFull'. -/
def pageFullCard : Claim7 := { stood := { row := pageFullRow, standIns := [], harness := (true, "bccee9e96b19af781c8a1eed030a9565be2cf5e6063db3dc01cdf12cfe41ec4d"), looks := false }, kinds := [], alts := [], laidByText := true, laidKinds := [.data], laidTests := true, laidLooks := .later }
def PageFullCardSaid : Prop := Claim7.holds Tryd.pinned (.plain (OpenSpec.ofChange pageFullSpec)) pageFullCard

/-- THE TIED CARD OF 'rotuluslaw4.StoreTurn'. -/
def storeTurnCard : Claim7 := { stood := { row := storeTurnRow, standIns := [], harness := (true, "bccee9e96b19af781c8a1eed030a9565be2cf5e6063db3dc01cdf12cfe41ec4d"), looks := false }, kinds := [], alts := [], laidByText := true, laidKinds := [.data], laidTests := true, laidLooks := .later }
def StoreTurnCardSaid : Prop := Claim7.holds Tryd.pinned (.plain (OpenSpec.ofChange storeTurnSpec)) storeTurnCard

/-- THE TIED CARD OF 'rotuluslaw4.StoreLimits'. -/
def storeLimitsCard : Claim7 := { stood := { row := storeLimitsRow, standIns := [], harness := (true, "bccee9e96b19af781c8a1eed030a9565be2cf5e6063db3dc01cdf12cfe41ec4d"), looks := false }, kinds := [], alts := [], laidByText := true, laidKinds := [.data], laidTests := true, laidLooks := .later }
def StoreLimitsCardSaid : Prop := Claim7.holds Tryd.pinned (.plain (OpenSpec.ofChange storeLimitsSpec)) storeLimitsCard

/-- THE SECOND FORM's CARD OF 'rotuluslaw4.PackUint'. -/
def packUintUptoCard : Claim7 := { stood := { row := packUintUptoRow, standIns := [], harness := (true, "bccee9e96b19af781c8a1eed030a9565be2cf5e6063db3dc01cdf12cfe41ec4d"), looks := false }, kinds := [], alts := [], laidByText := true, laidKinds := [.data], laidTests := true, laidLooks := .later }
def PackUintUptoCardSaid : Prop := Claim7.holds Tryd.pinned (.plain (OpenSpec.upto packUintSpec)) packUintUptoCard

/-- THE SECOND FORM's CARD OF 'rotuluslaw4.PackAll'. -/
def packAllUptoCard : Claim7 := { stood := { row := packAllUptoRow, standIns := [], harness := (true, "bccee9e96b19af781c8a1eed030a9565be2cf5e6063db3dc01cdf12cfe41ec4d"), looks := false }, kinds := [], alts := [], laidByText := true, laidKinds := [.data], laidTests := true, laidLooks := .later }
def PackAllUptoCardSaid : Prop := Claim7.holds Tryd.pinned (.plain (OpenSpec.upto packAllSpec)) packAllUptoCard

/-- THE SECOND FORM's CARD OF 'rotuluslaw4.PackAny'. -/
def packAnyUptoCard : Claim7 := { stood := { row := packAnyUptoRow, standIns := [], harness := (true, "bccee9e96b19af781c8a1eed030a9565be2cf5e6063db3dc01cdf12cfe41ec4d"), looks := false }, kinds := [], alts := [], laidByText := true, laidKinds := [.data], laidTests := true, laidLooks := .later }
def PackAnyUptoCardSaid : Prop := Claim7.holds Tryd.pinned (.plain (OpenSpec.upto packAnySpec)) packAnyUptoCard

/-- THE SECOND FORM's CARD OF 'rotuluslaw4.PackShort'. -/
def packShortUptoCard : Claim7 := { stood := { row := packShortUptoRow, standIns := [], harness := (true, "bccee9e96b19af781c8a1eed030a9565be2cf5e6063db3dc01cdf12cfe41ec4d"), looks := false }, kinds := [], alts := [], laidByText := true, laidKinds := [.data], laidTests := true, laidLooks := .later }
def PackShortUptoCardSaid : Prop := Claim7.holds Tryd.pinned (.plain (OpenSpec.upto packShortSpec)) packShortUptoCard

/-- THE SECOND FORM's CARD OF 'rotuluslaw4.PageAll'. -/
def pageAllUptoCard : Claim7 := { stood := { row := pageAllUptoRow, standIns := [], harness := (true, "bccee9e96b19af781c8a1eed030a9565be2cf5e6063db3dc01cdf12cfe41ec4d"), looks := false }, kinds := [], alts := [], laidByText := true, laidKinds := [.data], laidTests := true, laidLooks := .later }
def PageAllUptoCardSaid : Prop := Claim7.holds Tryd.pinned (.plain (OpenSpec.upto pageAllSpec)) pageAllUptoCard

/-- THE SECOND FORM's CARD OF 'rotuluslaw4.StoreAll'. -/
def storeAllUptoCard : Claim7 := { stood := { row := storeAllUptoRow, standIns := [], harness := (true, "bccee9e96b19af781c8a1eed030a9565be2cf5e6063db3dc01cdf12cfe41ec4d"), looks := false }, kinds := [], alts := [], laidByText := true, laidKinds := [.data], laidTests := true, laidLooks := .later }
def StoreAllUptoCardSaid : Prop := Claim7.holds Tryd.pinned (.plain (OpenSpec.upto storeAllSpec)) storeAllUptoCard

/-- THE SECOND FORM's CARD OF 'rotuluslaw4.StoreEnds'. -/
def storeEndsUptoCard : Claim7 := { stood := { row := storeEndsUptoRow, standIns := [], harness := (true, "bccee9e96b19af781c8a1eed030a9565be2cf5e6063db3dc01cdf12cfe41ec4d"), looks := false }, kinds := [], alts := [], laidByText := true, laidKinds := [.data], laidTests := true, laidLooks := .later }
def StoreEndsUptoCardSaid : Prop := Claim7.holds Tryd.pinned (.plain (OpenSpec.upto storeEndsSpec)) storeEndsUptoCard

/-- THE SECOND FORM's CARD OF 'rotuluslaw4.StoreOwn'. -/
def storeOwnUptoCard : Claim7 := { stood := { row := storeOwnUptoRow, standIns := [], harness := (true, "bccee9e96b19af781c8a1eed030a9565be2cf5e6063db3dc01cdf12cfe41ec4d"), looks := false }, kinds := [], alts := [], laidByText := true, laidKinds := [.data], laidTests := true, laidLooks := .later }
def StoreOwnUptoCardSaid : Prop := Claim7.holds Tryd.pinned (.plain (OpenSpec.upto storeOwnSpec)) storeOwnUptoCard

/-- THE SECOND FORM's CARD OF 'rotuluslaw4.StoreNone'. -/
def storeNoneUptoCard : Claim7 := { stood := { row := storeNoneUptoRow, standIns := [], harness := (true, "bccee9e96b19af781c8a1eed030a9565be2cf5e6063db3dc01cdf12cfe41ec4d"), looks := false }, kinds := [], alts := [], laidByText := true, laidKinds := [.data], laidTests := true, laidLooks := .later }
def StoreNoneUptoCardSaid : Prop := Claim7.holds Tryd.pinned (.plain (OpenSpec.upto storeNoneSpec)) storeNoneUptoCard

/-- THE SECOND FORM's CARD OF 'rotuluslaw4.PackOrder'. -/
def packOrderUptoCard : Claim7 := { stood := { row := packOrderUptoRow, standIns := [], harness := (true, "bccee9e96b19af781c8a1eed030a9565be2cf5e6063db3dc01cdf12cfe41ec4d"), looks := false }, kinds := [], alts := [], laidByText := true, laidKinds := [.data], laidTests := true, laidLooks := .later }
def PackOrderUptoCardSaid : Prop := Claim7.holds Tryd.pinned (.plain (OpenSpec.upto packOrderSpec)) packOrderUptoCard

/-- THE SECOND FORM's CARD OF 'rotuluslaw4.PackHalves'. -/
def packHalvesUptoCard : Claim7 := { stood := { row := packHalvesUptoRow, standIns := [], harness := (true, "bccee9e96b19af781c8a1eed030a9565be2cf5e6063db3dc01cdf12cfe41ec4d"), looks := false }, kinds := [], alts := [], laidByText := true, laidKinds := [.data], laidTests := true, laidLooks := .later }
def PackHalvesUptoCardSaid : Prop := Claim7.holds Tryd.pinned (.plain (OpenSpec.upto packHalvesSpec)) packHalvesUptoCard

/-- THE SECOND FORM's CARD OF 'rotuluslaw4.PackMany'. -/
def packManyUptoCard : Claim7 := { stood := { row := packManyUptoRow, standIns := [], harness := (true, "bccee9e96b19af781c8a1eed030a9565be2cf5e6063db3dc01cdf12cfe41ec4d"), looks := false }, kinds := [], alts := [], laidByText := true, laidKinds := [.data], laidTests := true, laidLooks := .later }
def PackManyUptoCardSaid : Prop := Claim7.holds Tryd.pinned (.plain (OpenSpec.upto packManySpec)) packManyUptoCard

/-- THE SECOND FORM's CARD OF 'rotuluslaw4.PageFull'. -/
def pageFullUptoCard : Claim7 := { stood := { row := pageFullUptoRow, standIns := [], harness := (true, "bccee9e96b19af781c8a1eed030a9565be2cf5e6063db3dc01cdf12cfe41ec4d"), looks := false }, kinds := [], alts := [], laidByText := true, laidKinds := [.data], laidTests := true, laidLooks := .later }
def PageFullUptoCardSaid : Prop := Claim7.holds Tryd.pinned (.plain (OpenSpec.upto pageFullSpec)) pageFullUptoCard

/-- THE SECOND FORM's CARD OF 'rotuluslaw4.StoreTurn'. -/
def storeTurnUptoCard : Claim7 := { stood := { row := storeTurnUptoRow, standIns := [], harness := (true, "bccee9e96b19af781c8a1eed030a9565be2cf5e6063db3dc01cdf12cfe41ec4d"), looks := false }, kinds := [], alts := [], laidByText := true, laidKinds := [.data], laidTests := true, laidLooks := .later }
def StoreTurnUptoCardSaid : Prop := Claim7.holds Tryd.pinned (.plain (OpenSpec.upto storeTurnSpec)) storeTurnUptoCard

/-- THE SECOND FORM's CARD OF 'rotuluslaw4.StoreLimits'. -/
def storeLimitsUptoCard : Claim7 := { stood := { row := storeLimitsUptoRow, standIns := [], harness := (true, "bccee9e96b19af781c8a1eed030a9565be2cf5e6063db3dc01cdf12cfe41ec4d"), looks := false }, kinds := [], alts := [], laidByText := true, laidKinds := [.data], laidTests := true, laidLooks := .later }
def StoreLimitsUptoCardSaid : Prop := Claim7.holds Tryd.pinned (.plain (OpenSpec.upto storeLimitsSpec)) storeLimitsUptoCard
end Rows
end Go.Proofs.YtalhlgiklochdaaDoor
