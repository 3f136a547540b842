/-
  DERIVED. GIVEN WITH THE SEED: THE CARDS: each row of YtoaedlllnkcfnaaDoorRows.lean that lists a variable, with what it lists TIED to the program's text (the seventh form; the later family's looks); each row that meets fmt, with fmt's text TOLD by the authors' own Lean function (tested against real Go, not proved from fmt's source: count such statements apart). THE CARD IS WHAT COUNTS. Prove the row's statement (the work); the ties are given (YtoaedlllnkcfnaaDoorTie.lean); close each card by the builder's one call (the guide's Derived/Test/ToyasCard.lean, 'card_holds'). Laid BY PROGRAM, IN A SANDBOX (cutbox-door.mjs). By AI agents, Wed Nov 11 2026. No macro, syntax, notation, axiom, sorry.
-/
import Derived.Test.YtoaedlllnkcfnaaDoorRows
import GoSem.ClaimSeven
namespace Go.Proofs.YtoaedlllnkcfnaaDoor
namespace Rows

/-- THE TIED CARD OF 'nomenclatorlaw10.RankSorts'. -/
def rankSortsCard : Claim7 := { stood := { row := rankSortsRow, standIns := [], harness := (true, "b4c9d4882c6012784643b0dcddf622c08c0d596ea9844dac87dc672f73390e97"), looks := false }, kinds := [], alts := [], laidByText := true, laidKinds := [.data, .data], laidTests := true, laidLooks := .later }
def RankSortsCardSaid : Prop := Claim7.holds Tryd.pinned (.plain (OpenSpec.ofChange rankSortsSpec)) rankSortsCard

/-- THE TIED CARD OF 'nomenclatorlaw10.RankPolicies'. -/
def rankPoliciesCard : Claim7 := { stood := { row := rankPoliciesRow, standIns := [], harness := (true, "b4c9d4882c6012784643b0dcddf622c08c0d596ea9844dac87dc672f73390e97"), looks := false }, kinds := [], alts := [], laidByText := true, laidKinds := [.data, .data], laidTests := true, laidLooks := .later }
def RankPoliciesCardSaid : Prop := Claim7.holds Tryd.pinned (.plain (OpenSpec.ofChange rankPoliciesSpec)) rankPoliciesCard

/-- THE TIED CARD OF 'nomenclatorlaw10.RankKeys'. -/
def rankKeysCard : Claim7 := { stood := { row := rankKeysRow, standIns := [], harness := (true, "b4c9d4882c6012784643b0dcddf622c08c0d596ea9844dac87dc672f73390e97"), looks := false }, kinds := [], alts := [], laidByText := true, laidKinds := [.data, .data], laidTests := true, laidLooks := .later }
def RankKeysCardSaid : Prop := Claim7.holds Tryd.pinned (.plain (OpenSpec.ofChange rankKeysSpec)) rankKeysCard

/-- THE TIED CARD OF 'nomenclatorlaw10.RankTurns'. -/
def rankTurnsCard : Claim7 := { stood := { row := rankTurnsRow, standIns := [], harness := (true, "b4c9d4882c6012784643b0dcddf622c08c0d596ea9844dac87dc672f73390e97"), looks := false }, kinds := [], alts := [], laidByText := true, laidKinds := [.data, .data], laidTests := true, laidLooks := .later }
def RankTurnsCardSaid : Prop := Claim7.holds Tryd.pinned (.plain (OpenSpec.ofChange rankTurnsSpec)) rankTurnsCard

/-- THE TIED CARD OF 'nomenclatorlaw10.RankSelf'. -/
def rankSelfCard : Claim7 := { stood := { row := rankSelfRow, standIns := [], harness := (true, "b4c9d4882c6012784643b0dcddf622c08c0d596ea9844dac87dc672f73390e97"), looks := false }, kinds := [], alts := [], laidByText := true, laidKinds := [.data, .data], laidTests := true, laidLooks := .later }
def RankSelfCardSaid : Prop := Claim7.holds Tryd.pinned (.plain (OpenSpec.ofChange rankSelfSpec)) rankSelfCard

/-- THE TIED CARD OF 'nomenclatorlaw10.RankFamilies'. -/
def rankFamiliesCard : Claim7 := { stood := { row := rankFamiliesRow, standIns := [], harness := (true, "b4c9d4882c6012784643b0dcddf622c08c0d596ea9844dac87dc672f73390e97"), looks := false }, kinds := [], alts := [], laidByText := true, laidKinds := [.data, .data], laidTests := true, laidLooks := .later }
def RankFamiliesCardSaid : Prop := Claim7.holds Tryd.pinned (.plain (OpenSpec.ofChange rankFamiliesSpec)) rankFamiliesCard

/-- THE SECOND FORM's CARD OF 'nomenclatorlaw10.RankSorts'. -/
def rankSortsUptoCard : Claim7 := { stood := { row := rankSortsUptoRow, standIns := [], harness := (true, "b4c9d4882c6012784643b0dcddf622c08c0d596ea9844dac87dc672f73390e97"), looks := false }, kinds := [], alts := [], laidByText := true, laidKinds := [.data, .data], laidTests := true, laidLooks := .later }
def RankSortsUptoCardSaid : Prop := Claim7.holds Tryd.pinned (.plain (OpenSpec.upto rankSortsSpec)) rankSortsUptoCard

/-- THE SECOND FORM's CARD OF 'nomenclatorlaw10.RankPolicies'. -/
def rankPoliciesUptoCard : Claim7 := { stood := { row := rankPoliciesUptoRow, standIns := [], harness := (true, "b4c9d4882c6012784643b0dcddf622c08c0d596ea9844dac87dc672f73390e97"), looks := false }, kinds := [], alts := [], laidByText := true, laidKinds := [.data, .data], laidTests := true, laidLooks := .later }
def RankPoliciesUptoCardSaid : Prop := Claim7.holds Tryd.pinned (.plain (OpenSpec.upto rankPoliciesSpec)) rankPoliciesUptoCard

/-- THE SECOND FORM's CARD OF 'nomenclatorlaw10.RankKeys'. -/
def rankKeysUptoCard : Claim7 := { stood := { row := rankKeysUptoRow, standIns := [], harness := (true, "b4c9d4882c6012784643b0dcddf622c08c0d596ea9844dac87dc672f73390e97"), looks := false }, kinds := [], alts := [], laidByText := true, laidKinds := [.data, .data], laidTests := true, laidLooks := .later }
def RankKeysUptoCardSaid : Prop := Claim7.holds Tryd.pinned (.plain (OpenSpec.upto rankKeysSpec)) rankKeysUptoCard

/-- THE SECOND FORM's CARD OF 'nomenclatorlaw10.RankTurns'. -/
def rankTurnsUptoCard : Claim7 := { stood := { row := rankTurnsUptoRow, standIns := [], harness := (true, "b4c9d4882c6012784643b0dcddf622c08c0d596ea9844dac87dc672f73390e97"), looks := false }, kinds := [], alts := [], laidByText := true, laidKinds := [.data, .data], laidTests := true, laidLooks := .later }
def RankTurnsUptoCardSaid : Prop := Claim7.holds Tryd.pinned (.plain (OpenSpec.upto rankTurnsSpec)) rankTurnsUptoCard

/-- THE SECOND FORM's CARD OF 'nomenclatorlaw10.RankSelf'. -/
def rankSelfUptoCard : Claim7 := { stood := { row := rankSelfUptoRow, standIns := [], harness := (true, "b4c9d4882c6012784643b0dcddf622c08c0d596ea9844dac87dc672f73390e97"), looks := false }, kinds := [], alts := [], laidByText := true, laidKinds := [.data, .data], laidTests := true, laidLooks := .later }
def RankSelfUptoCardSaid : Prop := Claim7.holds Tryd.pinned (.plain (OpenSpec.upto rankSelfSpec)) rankSelfUptoCard

/-- THE SECOND FORM's CARD OF 'nomenclatorlaw10.RankFamilies'. -/
def rankFamiliesUptoCard : Claim7 := { stood := { row := rankFamiliesUptoRow, standIns := [], harness := (true, "b4c9d4882c6012784643b0dcddf622c08c0d596ea9844dac87dc672f73390e97"), looks := false }, kinds := [], alts := [], laidByText := true, laidKinds := [.data, .data], laidTests := true, laidLooks := .later }
def RankFamiliesUptoCardSaid : Prop := Claim7.holds Tryd.pinned (.plain (OpenSpec.upto rankFamiliesSpec)) rankFamiliesUptoCard
end Rows
end Go.Proofs.YtoaedlllnkcfnaaDoor
