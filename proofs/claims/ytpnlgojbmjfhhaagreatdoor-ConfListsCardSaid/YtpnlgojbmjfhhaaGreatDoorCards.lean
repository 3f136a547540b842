/-
  DERIVED. GIVEN WITH THE SEED: THE CARDS: each row of YtpnlgojbmjfhhaaGreatDoorRows.lean that lists a variable, with what it lists TIED to the program's text (the seventh form; the later family's looks); each row that meets fmt, with fmt's text TOLD by the authors' own Lean function (tested against real Go, not proved from fmt's source: count such statements apart). THE CARD IS WHAT COUNTS. Prove the row's statement (the work); the ties are given (YtpnlgojbmjfhhaaGreatDoorTie.lean); close each card by the builder's one call (the guide's Derived/Test/ToyasCard.lean, 'card_holds'). Laid BY PROGRAM, IN A SANDBOX (cutbox-door.mjs). By AI agents, Wed Nov 11 2026. No macro, syntax, notation, axiom, sorry.
-/
import Derived.Test.YtpnlgojbmjfhhaaGreatDoorRows
import GoSem.ClaimSeven
namespace Go.Proofs.YtpnlgojbmjfhhaaGreatDoor
namespace Rows

/-- THE TIED CARD OF 'nomenclatorlaw07.ConfBack'. -/
def confBackCard : Claim7 := { stood := { row := confBackRow, standIns := [], harness := (true, "8bf937c396c0ef465aad984b2b8b987109d813ffab154132d385c4e334c84afc"), looks := true }, kinds := [], alts := [], laidByText := true, laidKinds := [.data, .data, .data, .data, .handle, .sentinel, .sentinel, .pinned], laidTests := true, laidLooks := .later }
def ConfBackCardSaid : Prop := Claim7.holds Tryz.pinned (.plain (OpenSpec.ofChange confBackSpec)) confBackCard

/-- THE TIED CARD OF 'nomenclatorlaw07.ConfFaults'. -/
def confFaultsCard : Claim7 := { stood := { row := confFaultsRow, standIns := [], harness := (true, "8bf937c396c0ef465aad984b2b8b987109d813ffab154132d385c4e334c84afc"), looks := true }, kinds := [], alts := [], laidByText := true, laidKinds := [.data, .data, .data, .data, .handle, .sentinel, .sentinel, .pinned], laidTests := true, laidLooks := .later }
def ConfFaultsCardSaid : Prop := Claim7.holds Tryz.pinned (.plain (OpenSpec.ofChange confFaultsSpec)) confFaultsCard

/-- THE TIED CARD OF 'nomenclatorlaw07.ConfOptions'. -/
def confOptionsCard : Claim7 := { stood := { row := confOptionsRow, standIns := [], harness := (true, "8bf937c396c0ef465aad984b2b8b987109d813ffab154132d385c4e334c84afc"), looks := true }, kinds := [], alts := [], laidByText := true, laidKinds := [.data, .data, .data, .data, .handle, .sentinel, .sentinel, .pinned], laidTests := true, laidLooks := .later }
def ConfOptionsCardSaid : Prop := Claim7.holds Tryz.pinned (.plain (OpenSpec.ofChange confOptionsSpec)) confOptionsCard

/-- THE TIED CARD OF 'nomenclatorlaw07.ConfLists'. -/
def confListsCard : Claim7 := { stood := { row := confListsRow, standIns := [], harness := (true, "8bf937c396c0ef465aad984b2b8b987109d813ffab154132d385c4e334c84afc"), looks := true }, kinds := [], alts := [], laidByText := true, laidKinds := [.data, .data, .data, .data, .handle, .sentinel, .sentinel, .pinned], laidTests := true, laidLooks := .later }
def ConfListsCardSaid : Prop := Claim7.holds Tryz.pinned (.plain (OpenSpec.ofChange confListsSpec)) confListsCard

/-- THE TIED CARD OF 'nomenclatorlaw07.ConfComments'. -/
def confCommentsCard : Claim7 := { stood := { row := confCommentsRow, standIns := [], harness := (true, "8bf937c396c0ef465aad984b2b8b987109d813ffab154132d385c4e334c84afc"), looks := true }, kinds := [], alts := [], laidByText := true, laidKinds := [.data, .data, .data, .data, .handle, .sentinel, .sentinel, .pinned], laidTests := true, laidLooks := .later }
def ConfCommentsCardSaid : Prop := Claim7.holds Tryz.pinned (.plain (OpenSpec.ofChange confCommentsSpec)) confCommentsCard

/-- THE TIED CARD OF 'nomenclatorlaw07.ConfWraps'. -/
def confWrapsCard : Claim7 := { stood := { row := confWrapsRow, standIns := [], harness := (true, "8bf937c396c0ef465aad984b2b8b987109d813ffab154132d385c4e334c84afc"), looks := true }, kinds := [], alts := [], laidByText := true, laidKinds := [.data, .data, .data, .data, .handle, .sentinel, .sentinel, .pinned], laidTests := true, laidLooks := .later }
def ConfWrapsCardSaid : Prop := Claim7.holds Tryz.pinned (.plain (OpenSpec.ofChange confWrapsSpec)) confWrapsCard

/-- THE SECOND FORM's CARD OF 'nomenclatorlaw07.ConfBack'. -/
def confBackUptoCard : Claim7 := { stood := { row := confBackUptoRow, standIns := [], harness := (true, "8bf937c396c0ef465aad984b2b8b987109d813ffab154132d385c4e334c84afc"), looks := true }, kinds := [], alts := [], laidByText := true, laidKinds := [.data, .data, .data, .data, .handle, .sentinel, .sentinel, .pinned], laidTests := true, laidLooks := .later }
def ConfBackUptoCardSaid : Prop := Claim7.holds Tryz.pinned (.plain (OpenSpec.upto confBackSpec)) confBackUptoCard

/-- THE SECOND FORM's CARD OF 'nomenclatorlaw07.ConfFaults'. -/
def confFaultsUptoCard : Claim7 := { stood := { row := confFaultsUptoRow, standIns := [], harness := (true, "8bf937c396c0ef465aad984b2b8b987109d813ffab154132d385c4e334c84afc"), looks := true }, kinds := [], alts := [], laidByText := true, laidKinds := [.data, .data, .data, .data, .handle, .sentinel, .sentinel, .pinned], laidTests := true, laidLooks := .later }
def ConfFaultsUptoCardSaid : Prop := Claim7.holds Tryz.pinned (.plain (OpenSpec.upto confFaultsSpec)) confFaultsUptoCard

/-- THE SECOND FORM's CARD OF 'nomenclatorlaw07.ConfOptions'. -/
def confOptionsUptoCard : Claim7 := { stood := { row := confOptionsUptoRow, standIns := [], harness := (true, "8bf937c396c0ef465aad984b2b8b987109d813ffab154132d385c4e334c84afc"), looks := true }, kinds := [], alts := [], laidByText := true, laidKinds := [.data, .data, .data, .data, .handle, .sentinel, .sentinel, .pinned], laidTests := true, laidLooks := .later }
def ConfOptionsUptoCardSaid : Prop := Claim7.holds Tryz.pinned (.plain (OpenSpec.upto confOptionsSpec)) confOptionsUptoCard

/-- THE SECOND FORM's CARD OF 'nomenclatorlaw07.ConfLists'. -/
def confListsUptoCard : Claim7 := { stood := { row := confListsUptoRow, standIns := [], harness := (true, "8bf937c396c0ef465aad984b2b8b987109d813ffab154132d385c4e334c84afc"), looks := true }, kinds := [], alts := [], laidByText := true, laidKinds := [.data, .data, .data, .data, .handle, .sentinel, .sentinel, .pinned], laidTests := true, laidLooks := .later }
def ConfListsUptoCardSaid : Prop := Claim7.holds Tryz.pinned (.plain (OpenSpec.upto confListsSpec)) confListsUptoCard

/-- THE SECOND FORM's CARD OF 'nomenclatorlaw07.ConfComments'. -/
def confCommentsUptoCard : Claim7 := { stood := { row := confCommentsUptoRow, standIns := [], harness := (true, "8bf937c396c0ef465aad984b2b8b987109d813ffab154132d385c4e334c84afc"), looks := true }, kinds := [], alts := [], laidByText := true, laidKinds := [.data, .data, .data, .data, .handle, .sentinel, .sentinel, .pinned], laidTests := true, laidLooks := .later }
def ConfCommentsUptoCardSaid : Prop := Claim7.holds Tryz.pinned (.plain (OpenSpec.upto confCommentsSpec)) confCommentsUptoCard

/-- THE SECOND FORM's CARD OF 'nomenclatorlaw07.ConfWraps'. -/
def confWrapsUptoCard : Claim7 := { stood := { row := confWrapsUptoRow, standIns := [], harness := (true, "8bf937c396c0ef465aad984b2b8b987109d813ffab154132d385c4e334c84afc"), looks := true }, kinds := [], alts := [], laidByText := true, laidKinds := [.data, .data, .data, .data, .handle, .sentinel, .sentinel, .pinned], laidTests := true, laidLooks := .later }
def ConfWrapsUptoCardSaid : Prop := Claim7.holds Tryz.pinned (.plain (OpenSpec.upto confWrapsSpec)) confWrapsUptoCard
end Rows
end Go.Proofs.YtpnlgojbmjfhhaaGreatDoor
