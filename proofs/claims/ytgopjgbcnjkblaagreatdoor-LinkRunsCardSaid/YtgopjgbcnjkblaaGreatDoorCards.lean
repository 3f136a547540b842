/-
  DERIVED. GIVEN WITH THE SEED: THE CARDS: each row of YtgopjgbcnjkblaaGreatDoorRows.lean that lists a variable, with what it lists TIED to the program's text (the seventh form; the later family's looks); each row that meets fmt, with fmt's text TOLD by the authors' own Lean function (tested against real Go, not proved from fmt's source: count such statements apart). THE CARD IS WHAT COUNTS. Prove the row's statement (the work); the ties are given (YtgopjgbcnjkblaaGreatDoorTie.lean); close each card by the builder's one call (the guide's Derived/Test/ToyasCard.lean, 'card_holds'). Laid BY PROGRAM, IN A SANDBOX (cutbox-door.mjs). By AI agents, Wed Nov 11 2026. No macro, syntax, notation, axiom, sorry.
-/
import Derived.Test.YtgopjgbcnjkblaaGreatDoorRows
import GoSem.ClaimSeven
namespace Go.Proofs.YtgopjgbcnjkblaaGreatDoor
namespace Rows

/-- THE TIED CARD OF 'nomenclatorlaw11.LinkRuns'. -/
def linkRunsCard : Claim7 := { stood := { row := linkRunsRow, standIns := [], harness := (true, "87edcb4dd06565e7293acbce069df792b5f18efae569237bc8e651925782ddd5"), looks := false }, kinds := [], alts := [], laidByText := true, laidKinds := [.data, .pinned], laidTests := true, laidLooks := .later }
def LinkRunsCardSaid : Prop := Claim7.holds Tryz.pinned (.plain (OpenSpec.ofChange linkRunsSpec)) linkRunsCard

/-- THE TIED CARD OF 'nomenclatorlaw11.LinkGens'. -/
def linkGensCard : Claim7 := { stood := { row := linkGensRow, standIns := [], harness := (true, "87edcb4dd06565e7293acbce069df792b5f18efae569237bc8e651925782ddd5"), looks := false }, kinds := [], alts := [], laidByText := true, laidKinds := [.data, .pinned], laidTests := true, laidLooks := .later }
def LinkGensCardSaid : Prop := Claim7.holds Tryz.pinned (.plain (OpenSpec.ofChange linkGensSpec)) linkGensCard

/-- THE SECOND FORM's CARD OF 'nomenclatorlaw11.LinkRuns'. -/
def linkRunsUptoCard : Claim7 := { stood := { row := linkRunsUptoRow, standIns := [], harness := (true, "87edcb4dd06565e7293acbce069df792b5f18efae569237bc8e651925782ddd5"), looks := false }, kinds := [], alts := [], laidByText := true, laidKinds := [.data, .pinned], laidTests := true, laidLooks := .later }
def LinkRunsUptoCardSaid : Prop := Claim7.holds Tryz.pinned (.plain (OpenSpec.upto linkRunsSpec)) linkRunsUptoCard

/-- THE SECOND FORM's CARD OF 'nomenclatorlaw11.LinkGens'. -/
def linkGensUptoCard : Claim7 := { stood := { row := linkGensUptoRow, standIns := [], harness := (true, "87edcb4dd06565e7293acbce069df792b5f18efae569237bc8e651925782ddd5"), looks := false }, kinds := [], alts := [], laidByText := true, laidKinds := [.data, .pinned], laidTests := true, laidLooks := .later }
def LinkGensUptoCardSaid : Prop := Claim7.holds Tryz.pinned (.plain (OpenSpec.upto linkGensSpec)) linkGensUptoCard
end Rows
end Go.Proofs.YtgopjgbcnjkblaaGreatDoor
