/-
  DERIVED. GIVEN WITH THE SEED: THE CARDS: each row of YtepcogbfoemcmaaDoorRows.lean that lists a variable, with what it lists TIED to the program's text (the seventh form; the later family's looks); each row that meets fmt, with fmt's text TOLD by the authors' own Lean function (tested against real Go, not proved from fmt's source: count such statements apart). THE CARD IS WHAT COUNTS. Prove the row's statement (the work); the ties are given (YtepcogbfoemcmaaDoorTie.lean); close each card by the builder's one call (the guide's Derived/Test/ToyasCard.lean, 'card_holds'). Laid BY PROGRAM, IN A SANDBOX (cutbox-door.mjs). By AI agents, Wed Nov 11 2026. No macro, syntax, notation, axiom, sorry.
-/
import Derived.Test.YtepcogbfoemcmaaDoorRows
import GoSem.ClaimSeven
namespace Go.Proofs.YtepcogbfoemcmaaDoor
namespace Rows

/-- THE TIED CARD OF 'nomenclatorlaw16.ResolveErrors'. -/
def resolveErrorsCard : Claim7 := { stood := { row := resolveErrorsRow, standIns := [], harness := (true, "825148e3422ab87904fdaca728020200576b7be690ebdd83cb175d726a9c2f50"), looks := true }, kinds := [], alts := [], laidByText := true, laidKinds := [.data, .data, .data, .handle], laidTests := true, laidLooks := .later }
def ResolveErrorsCardSaid : Prop := Claim7.holds Tryd.pinned (.plain (OpenSpec.ofChange resolveErrorsSpec)) resolveErrorsCard

/-- THE SECOND FORM's CARD OF 'nomenclatorlaw16.ResolveErrors'. -/
def resolveErrorsUptoCard : Claim7 := { stood := { row := resolveErrorsUptoRow, standIns := [], harness := (true, "825148e3422ab87904fdaca728020200576b7be690ebdd83cb175d726a9c2f50"), looks := true }, kinds := [], alts := [], laidByText := true, laidKinds := [.data, .data, .data, .handle], laidTests := true, laidLooks := .later }
def ResolveErrorsUptoCardSaid : Prop := Claim7.holds Tryd.pinned (.plain (OpenSpec.upto resolveErrorsSpec)) resolveErrorsUptoCard
end Rows
end Go.Proofs.YtepcogbfoemcmaaDoor
