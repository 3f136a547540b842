/-
  DERIVED. GIVEN WITH THE SEED: THE CARDS: each row of YtpbjijjeglpakaaDoorRows.lean that lists a variable, with what it lists TIED to the program's text (the seventh form; the later family's looks); each row that meets fmt, with fmt's text TOLD by the authors' own Lean function (tested against real Go, not proved from fmt's source: count such statements apart). THE CARD IS WHAT COUNTS. Prove the row's statement (the work); the ties are given (YtpbjijjeglpakaaDoorTie.lean); close each card by the builder's one call (the guide's Derived/Test/ToyasCard.lean, 'card_holds'). Laid BY PROGRAM, IN A SANDBOX (cutbox-door.mjs). By AI agents, Wed Nov 11 2026. No macro, syntax, notation, axiom, sorry.
-/
import Derived.Test.YtpbjijjeglpakaaDoorRows
import GoSem.ClaimSeven
namespace Go.Proofs.YtpbjijjeglpakaaDoor
namespace Rows

/-- THE TIED CARD OF 'nomenclatorlaw01.LabelRight'. -/
def labelRightCard : Claim7 := { stood := { row := labelRightRow, standIns := [], harness := (true, "1f35bb3c71e489768d43a34b1d954163ae86e95a0757534ce3ecf4f7c8f90b4b"), looks := false }, kinds := [], alts := [], laidByText := true, laidKinds := [.data, .pinned], laidTests := true, laidLooks := .later }
def LabelRightCardSaid : Prop := Claim7.holds Tryd.pinned (.plain (OpenSpec.ofChange labelRightSpec)) labelRightCard

/-- THE TIED CARD OF 'nomenclatorlaw01.LabelLower'. -/
def labelLowerCard : Claim7 := { stood := { row := labelLowerRow, standIns := [], harness := (true, "1f35bb3c71e489768d43a34b1d954163ae86e95a0757534ce3ecf4f7c8f90b4b"), looks := false }, kinds := [], alts := [], laidByText := true, laidKinds := [.data, .pinned], laidTests := true, laidLooks := .later }
def LabelLowerCardSaid : Prop := Claim7.holds Tryd.pinned (.plain (OpenSpec.ofChange labelLowerSpec)) labelLowerCard

/-- THE TIED CARD OF 'nomenclatorlaw01.LabelParts'. -/
def labelPartsCard : Claim7 := { stood := { row := labelPartsRow, standIns := [], harness := (true, "1f35bb3c71e489768d43a34b1d954163ae86e95a0757534ce3ecf4f7c8f90b4b"), looks := false }, kinds := [], alts := [], laidByText := true, laidKinds := [.data, .pinned], laidTests := true, laidLooks := .later }
def LabelPartsCardSaid : Prop := Claim7.holds Tryd.pinned (.plain (OpenSpec.ofChange labelPartsSpec)) labelPartsCard

/-- THE TIED CARD OF 'nomenclatorlaw01.LabelUnder'. -/
def labelUnderCard : Claim7 := { stood := { row := labelUnderRow, standIns := [], harness := (true, "1f35bb3c71e489768d43a34b1d954163ae86e95a0757534ce3ecf4f7c8f90b4b"), looks := false }, kinds := [], alts := [], laidByText := true, laidKinds := [.data, .pinned], laidTests := true, laidLooks := .later }
def LabelUnderCardSaid : Prop := Claim7.holds Tryd.pinned (.plain (OpenSpec.ofChange labelUnderSpec)) labelUnderCard

/-- THE TIED CARD OF 'nomenclatorlaw01.LabelTurns'. -/
def labelTurnsCard : Claim7 := { stood := { row := labelTurnsRow, standIns := [], harness := (true, "1f35bb3c71e489768d43a34b1d954163ae86e95a0757534ce3ecf4f7c8f90b4b"), looks := false }, kinds := [], alts := [], laidByText := true, laidKinds := [.data, .pinned], laidTests := true, laidLooks := .later }
def LabelTurnsCardSaid : Prop := Claim7.holds Tryd.pinned (.plain (OpenSpec.ofChange labelTurnsSpec)) labelTurnsCard

/-- THE TIED CARD OF 'nomenclatorlaw01.LabelCounts'. -/
def labelCountsCard : Claim7 := { stood := { row := labelCountsRow, standIns := [], harness := (true, "1f35bb3c71e489768d43a34b1d954163ae86e95a0757534ce3ecf4f7c8f90b4b"), looks := false }, kinds := [], alts := [], laidByText := true, laidKinds := [.data, .pinned], laidTests := true, laidLooks := .later }
def LabelCountsCardSaid : Prop := Claim7.holds Tryd.pinned (.plain (OpenSpec.ofChange labelCountsSpec)) labelCountsCard

/-- THE SECOND FORM's CARD OF 'nomenclatorlaw01.LabelRight'. -/
def labelRightUptoCard : Claim7 := { stood := { row := labelRightUptoRow, standIns := [], harness := (true, "1f35bb3c71e489768d43a34b1d954163ae86e95a0757534ce3ecf4f7c8f90b4b"), looks := false }, kinds := [], alts := [], laidByText := true, laidKinds := [.data, .pinned], laidTests := true, laidLooks := .later }
def LabelRightUptoCardSaid : Prop := Claim7.holds Tryd.pinned (.plain (OpenSpec.upto labelRightSpec)) labelRightUptoCard

/-- THE SECOND FORM's CARD OF 'nomenclatorlaw01.LabelLower'. -/
def labelLowerUptoCard : Claim7 := { stood := { row := labelLowerUptoRow, standIns := [], harness := (true, "1f35bb3c71e489768d43a34b1d954163ae86e95a0757534ce3ecf4f7c8f90b4b"), looks := false }, kinds := [], alts := [], laidByText := true, laidKinds := [.data, .pinned], laidTests := true, laidLooks := .later }
def LabelLowerUptoCardSaid : Prop := Claim7.holds Tryd.pinned (.plain (OpenSpec.upto labelLowerSpec)) labelLowerUptoCard

/-- THE SECOND FORM's CARD OF 'nomenclatorlaw01.LabelParts'. -/
def labelPartsUptoCard : Claim7 := { stood := { row := labelPartsUptoRow, standIns := [], harness := (true, "1f35bb3c71e489768d43a34b1d954163ae86e95a0757534ce3ecf4f7c8f90b4b"), looks := false }, kinds := [], alts := [], laidByText := true, laidKinds := [.data, .pinned], laidTests := true, laidLooks := .later }
def LabelPartsUptoCardSaid : Prop := Claim7.holds Tryd.pinned (.plain (OpenSpec.upto labelPartsSpec)) labelPartsUptoCard

/-- THE SECOND FORM's CARD OF 'nomenclatorlaw01.LabelUnder'. -/
def labelUnderUptoCard : Claim7 := { stood := { row := labelUnderUptoRow, standIns := [], harness := (true, "1f35bb3c71e489768d43a34b1d954163ae86e95a0757534ce3ecf4f7c8f90b4b"), looks := false }, kinds := [], alts := [], laidByText := true, laidKinds := [.data, .pinned], laidTests := true, laidLooks := .later }
def LabelUnderUptoCardSaid : Prop := Claim7.holds Tryd.pinned (.plain (OpenSpec.upto labelUnderSpec)) labelUnderUptoCard

/-- THE SECOND FORM's CARD OF 'nomenclatorlaw01.LabelTurns'. -/
def labelTurnsUptoCard : Claim7 := { stood := { row := labelTurnsUptoRow, standIns := [], harness := (true, "1f35bb3c71e489768d43a34b1d954163ae86e95a0757534ce3ecf4f7c8f90b4b"), looks := false }, kinds := [], alts := [], laidByText := true, laidKinds := [.data, .pinned], laidTests := true, laidLooks := .later }
def LabelTurnsUptoCardSaid : Prop := Claim7.holds Tryd.pinned (.plain (OpenSpec.upto labelTurnsSpec)) labelTurnsUptoCard

/-- THE SECOND FORM's CARD OF 'nomenclatorlaw01.LabelCounts'. -/
def labelCountsUptoCard : Claim7 := { stood := { row := labelCountsUptoRow, standIns := [], harness := (true, "1f35bb3c71e489768d43a34b1d954163ae86e95a0757534ce3ecf4f7c8f90b4b"), looks := false }, kinds := [], alts := [], laidByText := true, laidKinds := [.data, .pinned], laidTests := true, laidLooks := .later }
def LabelCountsUptoCardSaid : Prop := Claim7.holds Tryd.pinned (.plain (OpenSpec.upto labelCountsSpec)) labelCountsUptoCard
end Rows
end Go.Proofs.YtpbjijjeglpakaaDoor
