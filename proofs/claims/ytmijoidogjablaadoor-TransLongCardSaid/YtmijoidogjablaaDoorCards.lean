/-
  DERIVED. GIVEN WITH THE SEED: THE CARDS: each row of YtmijoidogjablaaDoorRows.lean that lists a variable, with what it lists TIED to the program's text (the seventh form; the later family's looks); each row that meets fmt, with fmt's text TOLD by the authors' own Lean function (tested against real Go, not proved from fmt's source: count such statements apart). THE CARD IS WHAT COUNTS. Prove the row's statement (the work); the ties are given (YtmijoidogjablaaDoorTie.lean); close each card by the builder's one call (the guide's Derived/Test/ToyasCard.lean, 'card_holds'). Laid BY PROGRAM, IN A SANDBOX (cutbox-door.mjs). By AI agents, Wed Nov 11 2026. No macro, syntax, notation, axiom, sorry.
-/
import Derived.Test.YtmijoidogjablaaDoorRows
import GoSem.ClaimSeven
namespace Go.Proofs.YtmijoidogjablaaDoor
namespace Rows

/-- THE TIED CARD OF 'nomenclatorlaw04.MsgBack'. -/
def msgBackCard : Claim7 := { stood := { row := msgBackRow, standIns := [], harness := (true, "ff9ee330bb3dd0820ca5d2b1d4666118e93deff7aa3b924ff516d22caefc59bf"), looks := false }, kinds := [], alts := [], laidByText := true, laidKinds := [.data, .pinned], laidTests := true, laidLooks := .later }
def MsgBackCardSaid : Prop := Claim7.holds Tryd.pinned (.plain (OpenSpec.ofChange msgBackSpec)) msgBackCard

/-- THE TIED CARD OF 'nomenclatorlaw04.MsgMore'. -/
def msgMoreCard : Claim7 := { stood := { row := msgMoreRow, standIns := [], harness := (true, "ff9ee330bb3dd0820ca5d2b1d4666118e93deff7aa3b924ff516d22caefc59bf"), looks := false }, kinds := [], alts := [], laidByText := true, laidKinds := [.data, .pinned], laidTests := true, laidLooks := .later }
def MsgMoreCardSaid : Prop := Claim7.holds Tryd.pinned (.plain (OpenSpec.ofChange msgMoreSpec)) msgMoreCard

/-- THE TIED CARD OF 'nomenclatorlaw13.TransMatches'. -/
def transMatchesCard : Claim7 := { stood := { row := transMatchesRow, standIns := [], harness := (true, "ff9ee330bb3dd0820ca5d2b1d4666118e93deff7aa3b924ff516d22caefc59bf"), looks := false }, kinds := [], alts := [], laidByText := true, laidKinds := [.data, .pinned], laidTests := true, laidLooks := .later }
def TransMatchesCardSaid : Prop := Claim7.holds Tryd.pinned (.plain (OpenSpec.ofChange transMatchesSpec)) transMatchesCard

/-- THE TIED CARD OF 'nomenclatorlaw13.TransSends'. -/
def transSendsCard : Claim7 := { stood := { row := transSendsRow, standIns := [], harness := (true, "ff9ee330bb3dd0820ca5d2b1d4666118e93deff7aa3b924ff516d22caefc59bf"), looks := false }, kinds := [], alts := [], laidByText := true, laidKinds := [.data, .pinned], laidTests := true, laidLooks := .later }
def TransSendsCardSaid : Prop := Claim7.holds Tryd.pinned (.plain (OpenSpec.ofChange transSendsSpec)) transSendsCard

/-- THE TIED CARD OF 'nomenclatorlaw13.TransDraws'. -/
def transDrawsCard : Claim7 := { stood := { row := transDrawsRow, standIns := [], harness := (true, "ff9ee330bb3dd0820ca5d2b1d4666118e93deff7aa3b924ff516d22caefc59bf"), looks := false }, kinds := [], alts := [], laidByText := true, laidKinds := [.data, .pinned], laidTests := true, laidLooks := .later }
def TransDrawsCardSaid : Prop := Claim7.holds Tryd.pinned (.plain (OpenSpec.ofChange transDrawsSpec)) transDrawsCard

/-- THE TIED CARD OF 'nomenclatorlaw13.TransJunk'. -/
def transJunkCard : Claim7 := { stood := { row := transJunkRow, standIns := [], harness := (true, "ff9ee330bb3dd0820ca5d2b1d4666118e93deff7aa3b924ff516d22caefc59bf"), looks := false }, kinds := [], alts := [], laidByText := true, laidKinds := [.data, .pinned], laidTests := true, laidLooks := .later }
def TransJunkCardSaid : Prop := Claim7.holds Tryd.pinned (.plain (OpenSpec.ofChange transJunkSpec)) transJunkCard

/-- THE TIED CARD OF 'nomenclatorlaw13.TransLong'. -/
def transLongCard : Claim7 := { stood := { row := transLongRow, standIns := [], harness := (true, "ff9ee330bb3dd0820ca5d2b1d4666118e93deff7aa3b924ff516d22caefc59bf"), looks := false }, kinds := [], alts := [], laidByText := true, laidKinds := [.data, .pinned], laidTests := true, laidLooks := .later }
def TransLongCardSaid : Prop := Claim7.holds Tryd.pinned (.plain (OpenSpec.ofChange transLongSpec)) transLongCard

/-- THE TIED CARD OF 'nomenclatorlaw13.TransOthers'. -/
def transOthersCard : Claim7 := { stood := { row := transOthersRow, standIns := [], harness := (true, "ff9ee330bb3dd0820ca5d2b1d4666118e93deff7aa3b924ff516d22caefc59bf"), looks := false }, kinds := [], alts := [], laidByText := true, laidKinds := [.data, .pinned], laidTests := true, laidLooks := .later }
def TransOthersCardSaid : Prop := Claim7.holds Tryd.pinned (.plain (OpenSpec.ofChange transOthersSpec)) transOthersCard

/-- THE SECOND FORM's CARD OF 'nomenclatorlaw04.MsgBack'. -/
def msgBackUptoCard : Claim7 := { stood := { row := msgBackUptoRow, standIns := [], harness := (true, "ff9ee330bb3dd0820ca5d2b1d4666118e93deff7aa3b924ff516d22caefc59bf"), looks := false }, kinds := [], alts := [], laidByText := true, laidKinds := [.data, .pinned], laidTests := true, laidLooks := .later }
def MsgBackUptoCardSaid : Prop := Claim7.holds Tryd.pinned (.plain (OpenSpec.upto msgBackSpec)) msgBackUptoCard

/-- THE SECOND FORM's CARD OF 'nomenclatorlaw04.MsgMore'. -/
def msgMoreUptoCard : Claim7 := { stood := { row := msgMoreUptoRow, standIns := [], harness := (true, "ff9ee330bb3dd0820ca5d2b1d4666118e93deff7aa3b924ff516d22caefc59bf"), looks := false }, kinds := [], alts := [], laidByText := true, laidKinds := [.data, .pinned], laidTests := true, laidLooks := .later }
def MsgMoreUptoCardSaid : Prop := Claim7.holds Tryd.pinned (.plain (OpenSpec.upto msgMoreSpec)) msgMoreUptoCard

/-- THE SECOND FORM's CARD OF 'nomenclatorlaw13.TransMatches'. -/
def transMatchesUptoCard : Claim7 := { stood := { row := transMatchesUptoRow, standIns := [], harness := (true, "ff9ee330bb3dd0820ca5d2b1d4666118e93deff7aa3b924ff516d22caefc59bf"), looks := false }, kinds := [], alts := [], laidByText := true, laidKinds := [.data, .pinned], laidTests := true, laidLooks := .later }
def TransMatchesUptoCardSaid : Prop := Claim7.holds Tryd.pinned (.plain (OpenSpec.upto transMatchesSpec)) transMatchesUptoCard

/-- THE SECOND FORM's CARD OF 'nomenclatorlaw13.TransSends'. -/
def transSendsUptoCard : Claim7 := { stood := { row := transSendsUptoRow, standIns := [], harness := (true, "ff9ee330bb3dd0820ca5d2b1d4666118e93deff7aa3b924ff516d22caefc59bf"), looks := false }, kinds := [], alts := [], laidByText := true, laidKinds := [.data, .pinned], laidTests := true, laidLooks := .later }
def TransSendsUptoCardSaid : Prop := Claim7.holds Tryd.pinned (.plain (OpenSpec.upto transSendsSpec)) transSendsUptoCard

/-- THE SECOND FORM's CARD OF 'nomenclatorlaw13.TransDraws'. -/
def transDrawsUptoCard : Claim7 := { stood := { row := transDrawsUptoRow, standIns := [], harness := (true, "ff9ee330bb3dd0820ca5d2b1d4666118e93deff7aa3b924ff516d22caefc59bf"), looks := false }, kinds := [], alts := [], laidByText := true, laidKinds := [.data, .pinned], laidTests := true, laidLooks := .later }
def TransDrawsUptoCardSaid : Prop := Claim7.holds Tryd.pinned (.plain (OpenSpec.upto transDrawsSpec)) transDrawsUptoCard

/-- THE SECOND FORM's CARD OF 'nomenclatorlaw13.TransJunk'. -/
def transJunkUptoCard : Claim7 := { stood := { row := transJunkUptoRow, standIns := [], harness := (true, "ff9ee330bb3dd0820ca5d2b1d4666118e93deff7aa3b924ff516d22caefc59bf"), looks := false }, kinds := [], alts := [], laidByText := true, laidKinds := [.data, .pinned], laidTests := true, laidLooks := .later }
def TransJunkUptoCardSaid : Prop := Claim7.holds Tryd.pinned (.plain (OpenSpec.upto transJunkSpec)) transJunkUptoCard

/-- THE SECOND FORM's CARD OF 'nomenclatorlaw13.TransLong'. -/
def transLongUptoCard : Claim7 := { stood := { row := transLongUptoRow, standIns := [], harness := (true, "ff9ee330bb3dd0820ca5d2b1d4666118e93deff7aa3b924ff516d22caefc59bf"), looks := false }, kinds := [], alts := [], laidByText := true, laidKinds := [.data, .pinned], laidTests := true, laidLooks := .later }
def TransLongUptoCardSaid : Prop := Claim7.holds Tryd.pinned (.plain (OpenSpec.upto transLongSpec)) transLongUptoCard

/-- THE SECOND FORM's CARD OF 'nomenclatorlaw13.TransOthers'. -/
def transOthersUptoCard : Claim7 := { stood := { row := transOthersUptoRow, standIns := [], harness := (true, "ff9ee330bb3dd0820ca5d2b1d4666118e93deff7aa3b924ff516d22caefc59bf"), looks := false }, kinds := [], alts := [], laidByText := true, laidKinds := [.data, .pinned], laidTests := true, laidLooks := .later }
def TransOthersUptoCardSaid : Prop := Claim7.holds Tryd.pinned (.plain (OpenSpec.upto transOthersSpec)) transOthersUptoCard
end Rows
end Go.Proofs.YtmijoidogjablaaDoor
