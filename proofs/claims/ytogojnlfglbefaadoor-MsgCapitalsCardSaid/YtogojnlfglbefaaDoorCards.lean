/-
  DERIVED. GIVEN WITH THE SEED: THE CARDS: each row of YtogojnlfglbefaaDoorRows.lean that lists a variable, with what it lists TIED to the program's text (the seventh form; the later family's looks); each row that meets fmt, with fmt's text TOLD by the authors' own Lean function (tested against real Go, not proved from fmt's source: count such statements apart). THE CARD IS WHAT COUNTS. Prove the row's statement (the work); the ties are given (YtogojnlfglbefaaDoorTie.lean); close each card by the builder's one call (the guide's Derived/Test/ToyasCard.lean, 'card_holds'). Laid BY PROGRAM, IN A SANDBOX (cutbox-door.mjs). By AI agents, Wed Nov 11 2026. No macro, syntax, notation, axiom, sorry.
-/
import Derived.Test.YtogojnlfglbefaaDoorRows
import GoSem.ClaimSeven
namespace Go.Proofs.YtogojnlfglbefaaDoor
namespace Rows

/-- THE TIED CARD OF 'nomenclatorlaw04.MsgBack'. -/
def msgBackCard : Claim7 := { stood := { row := msgBackRow, standIns := [], harness := (true, "e4070a95bba5f75dfce172533a49eff91f19d2179b06601e69fc753f5f32eb32"), looks := false }, kinds := [], alts := [], laidByText := true, laidKinds := [.data, .pinned], laidTests := true, laidLooks := .later }
def MsgBackCardSaid : Prop := Claim7.holds Tryd.pinned (.plain (OpenSpec.ofChange msgBackSpec)) msgBackCard

/-- THE TIED CARD OF 'nomenclatorlaw04.MsgRight'. -/
def msgRightCard : Claim7 := { stood := { row := msgRightRow, standIns := [], harness := (true, "e4070a95bba5f75dfce172533a49eff91f19d2179b06601e69fc753f5f32eb32"), looks := false }, kinds := [], alts := [], laidByText := true, laidKinds := [.data, .pinned], laidTests := true, laidLooks := .later }
def MsgRightCardSaid : Prop := Claim7.holds Tryd.pinned (.plain (OpenSpec.ofChange msgRightSpec)) msgRightCard

/-- THE TIED CARD OF 'nomenclatorlaw04.MsgPlaces'. -/
def msgPlacesCard : Claim7 := { stood := { row := msgPlacesRow, standIns := [], harness := (true, "e4070a95bba5f75dfce172533a49eff91f19d2179b06601e69fc753f5f32eb32"), looks := false }, kinds := [], alts := [], laidByText := true, laidKinds := [.data, .pinned], laidTests := true, laidLooks := .later }
def MsgPlacesCardSaid : Prop := Claim7.holds Tryd.pinned (.plain (OpenSpec.ofChange msgPlacesSpec)) msgPlacesCard

/-- THE TIED CARD OF 'nomenclatorlaw04.MsgHeads'. -/
def msgHeadsCard : Claim7 := { stood := { row := msgHeadsRow, standIns := [], harness := (true, "e4070a95bba5f75dfce172533a49eff91f19d2179b06601e69fc753f5f32eb32"), looks := false }, kinds := [], alts := [], laidByText := true, laidKinds := [.data, .pinned], laidTests := true, laidLooks := .later }
def MsgHeadsCardSaid : Prop := Claim7.holds Tryd.pinned (.plain (OpenSpec.ofChange msgHeadsSpec)) msgHeadsCard

/-- THE TIED CARD OF 'nomenclatorlaw04.MsgCapitals'. -/
def msgCapitalsCard : Claim7 := { stood := { row := msgCapitalsRow, standIns := [], harness := (true, "e4070a95bba5f75dfce172533a49eff91f19d2179b06601e69fc753f5f32eb32"), looks := false }, kinds := [], alts := [], laidByText := true, laidKinds := [.data, .pinned], laidTests := true, laidLooks := .later }
def MsgCapitalsCardSaid : Prop := Claim7.holds Tryd.pinned (.plain (OpenSpec.ofChange msgCapitalsSpec)) msgCapitalsCard

/-- THE TIED CARD OF 'nomenclatorlaw04.MsgMore'. -/
def msgMoreCard : Claim7 := { stood := { row := msgMoreRow, standIns := [], harness := (true, "e4070a95bba5f75dfce172533a49eff91f19d2179b06601e69fc753f5f32eb32"), looks := false }, kinds := [], alts := [], laidByText := true, laidKinds := [.data, .pinned], laidTests := true, laidLooks := .later }
def MsgMoreCardSaid : Prop := Claim7.holds Tryd.pinned (.plain (OpenSpec.ofChange msgMoreSpec)) msgMoreCard

/-- THE TIED CARD OF 'nomenclatorlaw04.MsgJunk'. -/
def msgJunkCard : Claim7 := { stood := { row := msgJunkRow, standIns := [], harness := (true, "e4070a95bba5f75dfce172533a49eff91f19d2179b06601e69fc753f5f32eb32"), looks := false }, kinds := [], alts := [], laidByText := true, laidKinds := [.data, .pinned], laidTests := true, laidLooks := .later }
def MsgJunkCardSaid : Prop := Claim7.holds Tryd.pinned (.plain (OpenSpec.ofChange msgJunkSpec)) msgJunkCard

/-- THE TIED CARD OF 'nomenclatorlaw04.MsgCounts'. -/
def msgCountsCard : Claim7 := { stood := { row := msgCountsRow, standIns := [], harness := (true, "e4070a95bba5f75dfce172533a49eff91f19d2179b06601e69fc753f5f32eb32"), looks := false }, kinds := [], alts := [], laidByText := true, laidKinds := [.data, .pinned], laidTests := true, laidLooks := .later }
def MsgCountsCardSaid : Prop := Claim7.holds Tryd.pinned (.plain (OpenSpec.ofChange msgCountsSpec)) msgCountsCard

/-- THE SECOND FORM's CARD OF 'nomenclatorlaw04.MsgBack'. -/
def msgBackUptoCard : Claim7 := { stood := { row := msgBackUptoRow, standIns := [], harness := (true, "e4070a95bba5f75dfce172533a49eff91f19d2179b06601e69fc753f5f32eb32"), looks := false }, kinds := [], alts := [], laidByText := true, laidKinds := [.data, .pinned], laidTests := true, laidLooks := .later }
def MsgBackUptoCardSaid : Prop := Claim7.holds Tryd.pinned (.plain (OpenSpec.upto msgBackSpec)) msgBackUptoCard

/-- THE SECOND FORM's CARD OF 'nomenclatorlaw04.MsgRight'. -/
def msgRightUptoCard : Claim7 := { stood := { row := msgRightUptoRow, standIns := [], harness := (true, "e4070a95bba5f75dfce172533a49eff91f19d2179b06601e69fc753f5f32eb32"), looks := false }, kinds := [], alts := [], laidByText := true, laidKinds := [.data, .pinned], laidTests := true, laidLooks := .later }
def MsgRightUptoCardSaid : Prop := Claim7.holds Tryd.pinned (.plain (OpenSpec.upto msgRightSpec)) msgRightUptoCard

/-- THE SECOND FORM's CARD OF 'nomenclatorlaw04.MsgPlaces'. -/
def msgPlacesUptoCard : Claim7 := { stood := { row := msgPlacesUptoRow, standIns := [], harness := (true, "e4070a95bba5f75dfce172533a49eff91f19d2179b06601e69fc753f5f32eb32"), looks := false }, kinds := [], alts := [], laidByText := true, laidKinds := [.data, .pinned], laidTests := true, laidLooks := .later }
def MsgPlacesUptoCardSaid : Prop := Claim7.holds Tryd.pinned (.plain (OpenSpec.upto msgPlacesSpec)) msgPlacesUptoCard

/-- THE SECOND FORM's CARD OF 'nomenclatorlaw04.MsgHeads'. -/
def msgHeadsUptoCard : Claim7 := { stood := { row := msgHeadsUptoRow, standIns := [], harness := (true, "e4070a95bba5f75dfce172533a49eff91f19d2179b06601e69fc753f5f32eb32"), looks := false }, kinds := [], alts := [], laidByText := true, laidKinds := [.data, .pinned], laidTests := true, laidLooks := .later }
def MsgHeadsUptoCardSaid : Prop := Claim7.holds Tryd.pinned (.plain (OpenSpec.upto msgHeadsSpec)) msgHeadsUptoCard

/-- THE SECOND FORM's CARD OF 'nomenclatorlaw04.MsgCapitals'. -/
def msgCapitalsUptoCard : Claim7 := { stood := { row := msgCapitalsUptoRow, standIns := [], harness := (true, "e4070a95bba5f75dfce172533a49eff91f19d2179b06601e69fc753f5f32eb32"), looks := false }, kinds := [], alts := [], laidByText := true, laidKinds := [.data, .pinned], laidTests := true, laidLooks := .later }
def MsgCapitalsUptoCardSaid : Prop := Claim7.holds Tryd.pinned (.plain (OpenSpec.upto msgCapitalsSpec)) msgCapitalsUptoCard

/-- THE SECOND FORM's CARD OF 'nomenclatorlaw04.MsgMore'. -/
def msgMoreUptoCard : Claim7 := { stood := { row := msgMoreUptoRow, standIns := [], harness := (true, "e4070a95bba5f75dfce172533a49eff91f19d2179b06601e69fc753f5f32eb32"), looks := false }, kinds := [], alts := [], laidByText := true, laidKinds := [.data, .pinned], laidTests := true, laidLooks := .later }
def MsgMoreUptoCardSaid : Prop := Claim7.holds Tryd.pinned (.plain (OpenSpec.upto msgMoreSpec)) msgMoreUptoCard

/-- THE SECOND FORM's CARD OF 'nomenclatorlaw04.MsgJunk'. -/
def msgJunkUptoCard : Claim7 := { stood := { row := msgJunkUptoRow, standIns := [], harness := (true, "e4070a95bba5f75dfce172533a49eff91f19d2179b06601e69fc753f5f32eb32"), looks := false }, kinds := [], alts := [], laidByText := true, laidKinds := [.data, .pinned], laidTests := true, laidLooks := .later }
def MsgJunkUptoCardSaid : Prop := Claim7.holds Tryd.pinned (.plain (OpenSpec.upto msgJunkSpec)) msgJunkUptoCard

/-- THE SECOND FORM's CARD OF 'nomenclatorlaw04.MsgCounts'. -/
def msgCountsUptoCard : Claim7 := { stood := { row := msgCountsUptoRow, standIns := [], harness := (true, "e4070a95bba5f75dfce172533a49eff91f19d2179b06601e69fc753f5f32eb32"), looks := false }, kinds := [], alts := [], laidByText := true, laidKinds := [.data, .pinned], laidTests := true, laidLooks := .later }
def MsgCountsUptoCardSaid : Prop := Claim7.holds Tryd.pinned (.plain (OpenSpec.upto msgCountsSpec)) msgCountsUptoCard
end Rows
end Go.Proofs.YtogojnlfglbefaaDoor
