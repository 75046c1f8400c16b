/-
  DERIVED. GIVEN WITH THE SEED: THE CARDS: each row of YtbmldpodcipncaaGreatDoorRows.lean that lists a variable, with what it lists TIED to the program's text (the seventh form; the later family's looks); each row that meets fmt, with fmt's text TOLD by the authors' own Lean function (tested against real Go, not proved from fmt's source: count such statements apart). THE CARD IS WHAT COUNTS. Prove the row's statement (the work); the ties are given (YtbmldpodcipncaaGreatDoorTie.lean); close each card by the builder's one call (the guide's Derived/Test/ToyasCard.lean, 'card_holds'). Laid BY PROGRAM, IN A SANDBOX (cutbox-door.mjs). By AI agents, Wed Nov 11 2026. No macro, syntax, notation, axiom, sorry.
-/
import Derived.Test.YtbmldpodcipncaaGreatDoorRows
import GoSem.ClaimSeven
namespace Go.Proofs.YtbmldpodcipncaaGreatDoor
namespace Rows

/-- THE TIED CARD OF 'rotuluslaw14.NfaAll'. -/
def nfaAllCard : Claim7 := { stood := { row := nfaAllRow, standIns := [], harness := (true, "52467306561181580f85977c21257cb3d69a69f5e3ca9e4f23effc0bb8e4cdca"), looks := false }, kinds := [], alts := [], laidByText := true, laidKinds := [.data], laidTests := true, laidLooks := .later }
def NfaAllCardSaid : Prop := Claim7.holds Tryz.pinned (.plain (OpenSpec.ofChange nfaAllSpec)) nfaAllCard

/-- THE TIED CARD OF 'rotuluslaw14.NfaText'. -/
def nfaTextCard : Claim7 := { stood := { row := nfaTextRow, standIns := [], harness := (true, "52467306561181580f85977c21257cb3d69a69f5e3ca9e4f23effc0bb8e4cdca"), looks := false }, kinds := [], alts := [], laidByText := true, laidKinds := [.data], laidTests := true, laidLooks := .later }
def NfaTextCardSaid : Prop := Claim7.holds Tryz.pinned (.plain (OpenSpec.ofChange nfaTextSpec)) nfaTextCard

/-- THE TIED CARD OF 'rotuluslaw14.NfaPlain'. -/
def nfaPlainCard : Claim7 := { stood := { row := nfaPlainRow, standIns := [], harness := (true, "52467306561181580f85977c21257cb3d69a69f5e3ca9e4f23effc0bb8e4cdca"), looks := false }, kinds := [], alts := [], laidByText := true, laidKinds := [.data], laidTests := true, laidLooks := .later }
def NfaPlainCardSaid : Prop := Claim7.holds Tryz.pinned (.plain (OpenSpec.ofChange nfaPlainSpec)) nfaPlainCard

/-- THE TIED CARD OF 'rotuluslaw14.NfaTimes'. -/
def nfaTimesCard : Claim7 := { stood := { row := nfaTimesRow, standIns := [], harness := (true, "52467306561181580f85977c21257cb3d69a69f5e3ca9e4f23effc0bb8e4cdca"), looks := false }, kinds := [], alts := [], laidByText := true, laidKinds := [.data], laidTests := true, laidLooks := .later }
def NfaTimesCardSaid : Prop := Claim7.holds Tryz.pinned (.plain (OpenSpec.ofChange nfaTimesSpec)) nfaTimesCard

/-- THE TIED CARD OF 'rotuluslaw14.NfaEmpty'. -/
def nfaEmptyCard : Claim7 := { stood := { row := nfaEmptyRow, standIns := [], harness := (true, "52467306561181580f85977c21257cb3d69a69f5e3ca9e4f23effc0bb8e4cdca"), looks := false }, kinds := [], alts := [], laidByText := true, laidKinds := [.data], laidTests := true, laidLooks := .later }
def NfaEmptyCardSaid : Prop := Claim7.holds Tryz.pinned (.plain (OpenSpec.ofChange nfaEmptySpec)) nfaEmptyCard

/-- THE TIED CARD OF 'rotuluslaw14.RegexDeep'. -/
def regexDeepCard : Claim7 := { stood := { row := regexDeepRow, standIns := [], harness := (true, "52467306561181580f85977c21257cb3d69a69f5e3ca9e4f23effc0bb8e4cdca"), looks := false }, kinds := [], alts := [], laidByText := true, laidKinds := [.data], laidTests := true, laidLooks := .later }
def RegexDeepCardSaid : Prop := Claim7.holds Tryz.pinned (.plain (OpenSpec.ofChange regexDeepSpec)) regexDeepCard

/-- THE TIED CARD OF 'rotuluslaw14.NfaAlt'. -/
def nfaAltCard : Claim7 := { stood := { row := nfaAltRow, standIns := [], harness := (true, "52467306561181580f85977c21257cb3d69a69f5e3ca9e4f23effc0bb8e4cdca"), looks := false }, kinds := [], alts := [], laidByText := true, laidKinds := [.data], laidTests := true, laidLooks := .later }
def NfaAltCardSaid : Prop := Claim7.holds Tryz.pinned (.plain (OpenSpec.ofChange nfaAltSpec)) nfaAltCard

/-- THE TIED CARD OF 'rotuluslaw14.NfaWeight'. -/
def nfaWeightCard : Claim7 := { stood := { row := nfaWeightRow, standIns := [], harness := (true, "52467306561181580f85977c21257cb3d69a69f5e3ca9e4f23effc0bb8e4cdca"), looks := false }, kinds := [], alts := [], laidByText := true, laidKinds := [.data], laidTests := true, laidLooks := .later }
def NfaWeightCardSaid : Prop := Claim7.holds Tryz.pinned (.plain (OpenSpec.ofChange nfaWeightSpec)) nfaWeightCard

/-- THE SECOND FORM's CARD OF 'rotuluslaw14.NfaAll'. -/
def nfaAllUptoCard : Claim7 := { stood := { row := nfaAllUptoRow, standIns := [], harness := (true, "52467306561181580f85977c21257cb3d69a69f5e3ca9e4f23effc0bb8e4cdca"), looks := false }, kinds := [], alts := [], laidByText := true, laidKinds := [.data], laidTests := true, laidLooks := .later }
def NfaAllUptoCardSaid : Prop := Claim7.holds Tryz.pinned (.plain (OpenSpec.upto nfaAllSpec)) nfaAllUptoCard

/-- THE SECOND FORM's CARD OF 'rotuluslaw14.NfaText'. -/
def nfaTextUptoCard : Claim7 := { stood := { row := nfaTextUptoRow, standIns := [], harness := (true, "52467306561181580f85977c21257cb3d69a69f5e3ca9e4f23effc0bb8e4cdca"), looks := false }, kinds := [], alts := [], laidByText := true, laidKinds := [.data], laidTests := true, laidLooks := .later }
def NfaTextUptoCardSaid : Prop := Claim7.holds Tryz.pinned (.plain (OpenSpec.upto nfaTextSpec)) nfaTextUptoCard

/-- THE SECOND FORM's CARD OF 'rotuluslaw14.NfaPlain'. -/
def nfaPlainUptoCard : Claim7 := { stood := { row := nfaPlainUptoRow, standIns := [], harness := (true, "52467306561181580f85977c21257cb3d69a69f5e3ca9e4f23effc0bb8e4cdca"), looks := false }, kinds := [], alts := [], laidByText := true, laidKinds := [.data], laidTests := true, laidLooks := .later }
def NfaPlainUptoCardSaid : Prop := Claim7.holds Tryz.pinned (.plain (OpenSpec.upto nfaPlainSpec)) nfaPlainUptoCard

/-- THE SECOND FORM's CARD OF 'rotuluslaw14.NfaTimes'. -/
def nfaTimesUptoCard : Claim7 := { stood := { row := nfaTimesUptoRow, standIns := [], harness := (true, "52467306561181580f85977c21257cb3d69a69f5e3ca9e4f23effc0bb8e4cdca"), looks := false }, kinds := [], alts := [], laidByText := true, laidKinds := [.data], laidTests := true, laidLooks := .later }
def NfaTimesUptoCardSaid : Prop := Claim7.holds Tryz.pinned (.plain (OpenSpec.upto nfaTimesSpec)) nfaTimesUptoCard

/-- THE SECOND FORM's CARD OF 'rotuluslaw14.NfaEmpty'. -/
def nfaEmptyUptoCard : Claim7 := { stood := { row := nfaEmptyUptoRow, standIns := [], harness := (true, "52467306561181580f85977c21257cb3d69a69f5e3ca9e4f23effc0bb8e4cdca"), looks := false }, kinds := [], alts := [], laidByText := true, laidKinds := [.data], laidTests := true, laidLooks := .later }
def NfaEmptyUptoCardSaid : Prop := Claim7.holds Tryz.pinned (.plain (OpenSpec.upto nfaEmptySpec)) nfaEmptyUptoCard

/-- THE SECOND FORM's CARD OF 'rotuluslaw14.RegexDeep'. -/
def regexDeepUptoCard : Claim7 := { stood := { row := regexDeepUptoRow, standIns := [], harness := (true, "52467306561181580f85977c21257cb3d69a69f5e3ca9e4f23effc0bb8e4cdca"), looks := false }, kinds := [], alts := [], laidByText := true, laidKinds := [.data], laidTests := true, laidLooks := .later }
def RegexDeepUptoCardSaid : Prop := Claim7.holds Tryz.pinned (.plain (OpenSpec.upto regexDeepSpec)) regexDeepUptoCard

/-- THE SECOND FORM's CARD OF 'rotuluslaw14.NfaAlt'. -/
def nfaAltUptoCard : Claim7 := { stood := { row := nfaAltUptoRow, standIns := [], harness := (true, "52467306561181580f85977c21257cb3d69a69f5e3ca9e4f23effc0bb8e4cdca"), looks := false }, kinds := [], alts := [], laidByText := true, laidKinds := [.data], laidTests := true, laidLooks := .later }
def NfaAltUptoCardSaid : Prop := Claim7.holds Tryz.pinned (.plain (OpenSpec.upto nfaAltSpec)) nfaAltUptoCard

/-- THE SECOND FORM's CARD OF 'rotuluslaw14.NfaWeight'. -/
def nfaWeightUptoCard : Claim7 := { stood := { row := nfaWeightUptoRow, standIns := [], harness := (true, "52467306561181580f85977c21257cb3d69a69f5e3ca9e4f23effc0bb8e4cdca"), looks := false }, kinds := [], alts := [], laidByText := true, laidKinds := [.data], laidTests := true, laidLooks := .later }
def NfaWeightUptoCardSaid : Prop := Claim7.holds Tryz.pinned (.plain (OpenSpec.upto nfaWeightSpec)) nfaWeightUptoCard
end Rows
end Go.Proofs.YtbmldpodcipncaaGreatDoor
