/-
  DERIVED. GIVEN WITH THE SEED: THE CARDS: each row of YteeonnjbjmanpaaDoorRows.lean that lists a variable, with what it lists TIED to the program's text (the seventh form; the later family's looks); each row that meets fmt, with fmt's text TOLD by the authors' own Lean function (tested against real Go, not proved from fmt's source: count such statements apart). THE CARD IS WHAT COUNTS. Prove the row's statement (the work); the ties are given (YteeonnjbjmanpaaDoorTie.lean); close each card by the builder's one call (the guide's Derived/Test/ToyasCard.lean, 'card_holds'). Laid BY PROGRAM, IN A SANDBOX (cutbox-door.mjs). By AI agents, Wed Nov 11 2026. No macro, syntax, notation, axiom, sorry.
-/
import Derived.Test.YteeonnjbjmanpaaDoorRows
import GoSem.ClaimSeven
namespace Go.Proofs.YteeonnjbjmanpaaDoor
namespace Rows

/-- THE TIED CARD OF 'nomenclatorlaw04.MsgRight'. -/
def msgRightCard : Claim7 := { stood := { row := msgRightRow, standIns := [], harness := (true, "905271ec898077e527538ccca8b0db1a4a2795210ffdcc4c2ad9519edac9f7fd"), looks := false }, kinds := [], alts := [], laidByText := true, laidKinds := [.data, .pinned], laidTests := true, laidLooks := .later }
def MsgRightCardSaid : Prop := Claim7.holds Tryd.pinned (.plain (OpenSpec.ofChange msgRightSpec)) msgRightCard

/-- THE SECOND FORM's CARD OF 'nomenclatorlaw04.MsgRight'. -/
def msgRightUptoCard : Claim7 := { stood := { row := msgRightUptoRow, standIns := [], harness := (true, "905271ec898077e527538ccca8b0db1a4a2795210ffdcc4c2ad9519edac9f7fd"), looks := false }, kinds := [], alts := [], laidByText := true, laidKinds := [.data, .pinned], laidTests := true, laidLooks := .later }
def MsgRightUptoCardSaid : Prop := Claim7.holds Tryd.pinned (.plain (OpenSpec.upto msgRightSpec)) msgRightUptoCard
end Rows
end Go.Proofs.YteeonnjbjmanpaaDoor
