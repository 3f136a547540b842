/-
  DERIVED. GIVEN WITH THE SEED: THE CARDS: each row of YtakfokdjdljjjaaDoorRows.lean that lists a variable, with what it lists TIED to the program's text (the seventh form; the later family's looks); each row that meets fmt, with fmt's text TOLD by the authors' own Lean function (tested against real Go, not proved from fmt's source: count such statements apart). THE CARD IS WHAT COUNTS. Prove the row's statement (the work); the ties are given (YtakfokdjdljjjaaDoorTie.lean); close each card by the builder's one call (the guide's Derived/Test/ToyasCard.lean, 'card_holds'). Laid BY PROGRAM, IN A SANDBOX (cutbox-door.mjs). By AI agents, Wed Nov 11 2026. No macro, syntax, notation, axiom, sorry.
-/
import Derived.Test.YtakfokdjdljjjaaDoorRows
import GoSem.ClaimSeven
namespace Go.Proofs.YtakfokdjdljjjaaDoor
namespace Rows

/-- THE TIED CARD OF 'nomenclatorlaw14.LlmnrAnswers'. -/
def llmnrAnswersCard : Claim7 := { stood := { row := llmnrAnswersRow, standIns := [], harness := (true, "f60493c0147b85d404324e6880c790ab8e7a0d9c592d7062202a5682a2e7f45a"), looks := false }, kinds := [], alts := [], laidByText := true, laidKinds := [.data, .pinned], laidTests := true, laidLooks := .later }
def LlmnrAnswersCardSaid : Prop := Claim7.holds Tryd.pinned (.plain (OpenSpec.ofChange llmnrAnswersSpec)) llmnrAnswersCard

/-- THE TIED CARD OF 'nomenclatorlaw14.LlmnrOnce'. -/
def llmnrOnceCard : Claim7 := { stood := { row := llmnrOnceRow, standIns := [], harness := (true, "f60493c0147b85d404324e6880c790ab8e7a0d9c592d7062202a5682a2e7f45a"), looks := false }, kinds := [], alts := [], laidByText := true, laidKinds := [.data, .pinned], laidTests := true, laidLooks := .later }
def LlmnrOnceCardSaid : Prop := Claim7.holds Tryd.pinned (.plain (OpenSpec.ofChange llmnrOnceSpec)) llmnrOnceCard

/-- THE TIED CARD OF 'nomenclatorlaw14.LlmnrTypes'. -/
def llmnrTypesCard : Claim7 := { stood := { row := llmnrTypesRow, standIns := [], harness := (true, "f60493c0147b85d404324e6880c790ab8e7a0d9c592d7062202a5682a2e7f45a"), looks := false }, kinds := [], alts := [], laidByText := true, laidKinds := [.data, .pinned], laidTests := true, laidLooks := .later }
def LlmnrTypesCardSaid : Prop := Claim7.holds Tryd.pinned (.plain (OpenSpec.ofChange llmnrTypesSpec)) llmnrTypesCard

/-- THE SECOND FORM's CARD OF 'nomenclatorlaw14.LlmnrAnswers'. -/
def llmnrAnswersUptoCard : Claim7 := { stood := { row := llmnrAnswersUptoRow, standIns := [], harness := (true, "f60493c0147b85d404324e6880c790ab8e7a0d9c592d7062202a5682a2e7f45a"), looks := false }, kinds := [], alts := [], laidByText := true, laidKinds := [.data, .pinned], laidTests := true, laidLooks := .later }
def LlmnrAnswersUptoCardSaid : Prop := Claim7.holds Tryd.pinned (.plain (OpenSpec.upto llmnrAnswersSpec)) llmnrAnswersUptoCard

/-- THE SECOND FORM's CARD OF 'nomenclatorlaw14.LlmnrOnce'. -/
def llmnrOnceUptoCard : Claim7 := { stood := { row := llmnrOnceUptoRow, standIns := [], harness := (true, "f60493c0147b85d404324e6880c790ab8e7a0d9c592d7062202a5682a2e7f45a"), looks := false }, kinds := [], alts := [], laidByText := true, laidKinds := [.data, .pinned], laidTests := true, laidLooks := .later }
def LlmnrOnceUptoCardSaid : Prop := Claim7.holds Tryd.pinned (.plain (OpenSpec.upto llmnrOnceSpec)) llmnrOnceUptoCard

/-- THE SECOND FORM's CARD OF 'nomenclatorlaw14.LlmnrTypes'. -/
def llmnrTypesUptoCard : Claim7 := { stood := { row := llmnrTypesUptoRow, standIns := [], harness := (true, "f60493c0147b85d404324e6880c790ab8e7a0d9c592d7062202a5682a2e7f45a"), looks := false }, kinds := [], alts := [], laidByText := true, laidKinds := [.data, .pinned], laidTests := true, laidLooks := .later }
def LlmnrTypesUptoCardSaid : Prop := Claim7.holds Tryd.pinned (.plain (OpenSpec.upto llmnrTypesSpec)) llmnrTypesUptoCard
end Rows
end Go.Proofs.YtakfokdjdljjjaaDoor
