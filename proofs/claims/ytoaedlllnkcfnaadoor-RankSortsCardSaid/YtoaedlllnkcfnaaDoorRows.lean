/-
  NARROWER THAN 'FOR EVERY INPUT', by the rows' own cells (each row's printed sentence says how): RankSorts: laid · RankPolicies: laid · RankKeys: laid · RankTurns: laid · RankSelf: laid · RankFamilies: laid.
  DERIVED. THE GIVEN ROWS OF THIS SEAT. 6 by the template 'for every input the law returns true; each argument reads behind the call as it read before'; 0 by the template 'total and deterministic' (their statements: YtoaedlllnkcfnaaDoorTotals.lean).
  GIVEN WITH THE SEED: the statements are not yours to turn. If you find one false, say at which input.
  Laid BY PROGRAM, IN A SANDBOX (cutbox-rows.mjs): the forced cells as the released guide's own fill.sh prints them over the translation 3f9afef6aa5e53b3… (all of the seat's roots in one cut). By AI agents, Wed Nov 11 2026. No macro, syntax, notation, axiom, sorry.
-/
import Derived.Test.YtoaedlllnkcfnaaDoorChecked
import GoSem.Claim
import GoSem.ClaimJoined
import GoSem.ClaimMapViews
import Derived.JoinedTies
import Derived.KernelRfl
namespace Go.Proofs.YtoaedlllnkcfnaaDoor
/- THE CELL 'sum', in the pinned program and in every row, IS THE sha256 OF THE DUMP (.gsa) THAT YtoaedlllnkcfnaaDoorProg.lean LOADS. Nothing in Lean hashes anything: it is a label: what it is worth is what the hold of that sum in a sandbox is worth. -/
noncomputable def Tryd.pinned : Pinned := { name := "ytoaedlllnkcfnaadoor", sum := "3f9afef6aa5e53b33fa3ebb7c67cf2773fb49d100b0adc248767bbdf3f51d0ad", checked := Tryd.checked }
namespace Rows
def none {H : Type} : Left H := { results := [], args := [] }

/- WHAT THE LISTED PACKAGE-LEVEL VARIABLES READ AS WHEN THE CALL BEGINS. Each datum BY PROGRAM (the guide's laid-datum.mjs) off the statement by which the dump's own 'gosem.cut.vars' lays the variable. In a bare row this is a premise. The card (YtoaedlllnkcfnaaDoorCards.lean) ties it to the program's text. -/
def laid_nomenclator_rank_policies {H : Type} : DataW H := .agg [.agg [.agg [.agg [.lit (.int .u8 0), .lit (.int .u8 0), .lit (.int .u8 0), .lit (.int .u8 0), .lit (.int .u8 0), .lit (.int .u8 0), .lit (.int .u8 0), .lit (.int .u8 0), .lit (.int .u8 0), .lit (.int .u8 0), .lit (.int .u8 0), .lit (.int .u8 0), .lit (.int .u8 0), .lit (.int .u8 0), .lit (.int .u8 0), .lit (.int .u8 1)], .lit (.int .i64 128)], .lit (.int .i64 50), .lit (.int .i64 0)], .agg [.agg [.agg [.lit (.int .u8 0), .lit (.int .u8 0), .lit (.int .u8 0), .lit (.int .u8 0), .lit (.int .u8 0), .lit (.int .u8 0), .lit (.int .u8 0), .lit (.int .u8 0), .lit (.int .u8 0), .lit (.int .u8 0), .lit (.int .u8 0), .lit (.int .u8 0), .lit (.int .u8 0), .lit (.int .u8 0), .lit (.int .u8 0), .lit (.int .u8 0)], .lit (.int .i64 0)], .lit (.int .i64 40), .lit (.int .i64 1)], .agg [.agg [.agg [.lit (.int .u8 0), .lit (.int .u8 0), .lit (.int .u8 0), .lit (.int .u8 0), .lit (.int .u8 0), .lit (.int .u8 0), .lit (.int .u8 0), .lit (.int .u8 0), .lit (.int .u8 0), .lit (.int .u8 0), .lit (.int .u8 255), .lit (.int .u8 255), .lit (.int .u8 0), .lit (.int .u8 0), .lit (.int .u8 0), .lit (.int .u8 0)], .lit (.int .i64 96)], .lit (.int .i64 35), .lit (.int .i64 4)], .agg [.agg [.agg [.lit (.int .u8 32), .lit (.int .u8 2), .lit (.int .u8 0), .lit (.int .u8 0), .lit (.int .u8 0), .lit (.int .u8 0), .lit (.int .u8 0), .lit (.int .u8 0), .lit (.int .u8 0), .lit (.int .u8 0), .lit (.int .u8 0), .lit (.int .u8 0), .lit (.int .u8 0), .lit (.int .u8 0), .lit (.int .u8 0), .lit (.int .u8 0)], .lit (.int .i64 16)], .lit (.int .i64 30), .lit (.int .i64 2)], .agg [.agg [.agg [.lit (.int .u8 32), .lit (.int .u8 1), .lit (.int .u8 0), .lit (.int .u8 0), .lit (.int .u8 0), .lit (.int .u8 0), .lit (.int .u8 0), .lit (.int .u8 0), .lit (.int .u8 0), .lit (.int .u8 0), .lit (.int .u8 0), .lit (.int .u8 0), .lit (.int .u8 0), .lit (.int .u8 0), .lit (.int .u8 0), .lit (.int .u8 0)], .lit (.int .i64 32)], .lit (.int .i64 5), .lit (.int .i64 5)], .agg [.agg [.agg [.lit (.int .u8 252), .lit (.int .u8 0), .lit (.int .u8 0), .lit (.int .u8 0), .lit (.int .u8 0), .lit (.int .u8 0), .lit (.int .u8 0), .lit (.int .u8 0), .lit (.int .u8 0), .lit (.int .u8 0), .lit (.int .u8 0), .lit (.int .u8 0), .lit (.int .u8 0), .lit (.int .u8 0), .lit (.int .u8 0), .lit (.int .u8 0)], .lit (.int .i64 7)], .lit (.int .i64 3), .lit (.int .i64 13)], .agg [.agg [.agg [.lit (.int .u8 0), .lit (.int .u8 0), .lit (.int .u8 0), .lit (.int .u8 0), .lit (.int .u8 0), .lit (.int .u8 0), .lit (.int .u8 0), .lit (.int .u8 0), .lit (.int .u8 0), .lit (.int .u8 0), .lit (.int .u8 0), .lit (.int .u8 0), .lit (.int .u8 0), .lit (.int .u8 0), .lit (.int .u8 0), .lit (.int .u8 0)], .lit (.int .i64 96)], .lit (.int .i64 1), .lit (.int .i64 3)], .agg [.agg [.agg [.lit (.int .u8 254), .lit (.int .u8 192), .lit (.int .u8 0), .lit (.int .u8 0), .lit (.int .u8 0), .lit (.int .u8 0), .lit (.int .u8 0), .lit (.int .u8 0), .lit (.int .u8 0), .lit (.int .u8 0), .lit (.int .u8 0), .lit (.int .u8 0), .lit (.int .u8 0), .lit (.int .u8 0), .lit (.int .u8 0), .lit (.int .u8 0)], .lit (.int .i64 10)], .lit (.int .i64 1), .lit (.int .i64 11)], .agg [.agg [.agg [.lit (.int .u8 63), .lit (.int .u8 254), .lit (.int .u8 0), .lit (.int .u8 0), .lit (.int .u8 0), .lit (.int .u8 0), .lit (.int .u8 0), .lit (.int .u8 0), .lit (.int .u8 0), .lit (.int .u8 0), .lit (.int .u8 0), .lit (.int .u8 0), .lit (.int .u8 0), .lit (.int .u8 0), .lit (.int .u8 0), .lit (.int .u8 0)], .lit (.int .i64 16)], .lit (.int .i64 1), .lit (.int .i64 12)]]
def laid_nomenclator_rank_regions {H : Type} : DataW H := .agg [.agg [.agg [.agg [.lit (.int .u8 254), .lit (.int .u8 128), .lit (.int .u8 0), .lit (.int .u8 0), .lit (.int .u8 0), .lit (.int .u8 0), .lit (.int .u8 0), .lit (.int .u8 0), .lit (.int .u8 0), .lit (.int .u8 0), .lit (.int .u8 0), .lit (.int .u8 0), .lit (.int .u8 0), .lit (.int .u8 0), .lit (.int .u8 0), .lit (.int .u8 0)], .lit (.int .i64 10)], .lit (.int .i64 2)], .agg [.agg [.agg [.lit (.int .u8 0), .lit (.int .u8 0), .lit (.int .u8 0), .lit (.int .u8 0), .lit (.int .u8 0), .lit (.int .u8 0), .lit (.int .u8 0), .lit (.int .u8 0), .lit (.int .u8 0), .lit (.int .u8 0), .lit (.int .u8 0), .lit (.int .u8 0), .lit (.int .u8 0), .lit (.int .u8 0), .lit (.int .u8 0), .lit (.int .u8 1)], .lit (.int .i64 128)], .lit (.int .i64 2)], .agg [.agg [.agg [.lit (.int .u8 0), .lit (.int .u8 0), .lit (.int .u8 0), .lit (.int .u8 0), .lit (.int .u8 0), .lit (.int .u8 0), .lit (.int .u8 0), .lit (.int .u8 0), .lit (.int .u8 0), .lit (.int .u8 0), .lit (.int .u8 255), .lit (.int .u8 255), .lit (.int .u8 127), .lit (.int .u8 0), .lit (.int .u8 0), .lit (.int .u8 0)], .lit (.int .i64 104)], .lit (.int .i64 2)], .agg [.agg [.agg [.lit (.int .u8 0), .lit (.int .u8 0), .lit (.int .u8 0), .lit (.int .u8 0), .lit (.int .u8 0), .lit (.int .u8 0), .lit (.int .u8 0), .lit (.int .u8 0), .lit (.int .u8 0), .lit (.int .u8 0), .lit (.int .u8 255), .lit (.int .u8 255), .lit (.int .u8 169), .lit (.int .u8 254), .lit (.int .u8 0), .lit (.int .u8 0)], .lit (.int .i64 112)], .lit (.int .i64 2)], .agg [.agg [.agg [.lit (.int .u8 254), .lit (.int .u8 192), .lit (.int .u8 0), .lit (.int .u8 0), .lit (.int .u8 0), .lit (.int .u8 0), .lit (.int .u8 0), .lit (.int .u8 0), .lit (.int .u8 0), .lit (.int .u8 0), .lit (.int .u8 0), .lit (.int .u8 0), .lit (.int .u8 0), .lit (.int .u8 0), .lit (.int .u8 0), .lit (.int .u8 0)], .lit (.int .i64 10)], .lit (.int .i64 5)]]

/-- 'nomenclatorlaw10.RankSorts': WHATEVER THE INPUT: true; the input reads as it did. -/
def rankSortsSpec : ChangeSpec := { name := "rankSorts", fn := fun _ => fun
  | [d1, d2] => { results := [.lit (.bool true)], args := [d1, d2] }
  | _ => none }
def rankSortsRow : OpenClaim := { program := "ytoaedlllnkcfnaadoor", sum := "3f9afef6aa5e53b33fa3ebb7c67cf2773fb49d100b0adc248767bbdf3f51d0ad", func := "nomenclator/nomenclatorlaw10.RankSorts", spec := "rankSorts", unfollowed := true, recurses := true, named := ["nomenclator/rank.policies", "nomenclator/rank.regions"], apart := false, laid := [("nomenclator/rank.policies", laid_nomenclator_rank_policies), ("nomenclator/rank.regions", laid_nomenclator_rank_regions)] }
def RankSortsSaid : Prop := rankSortsRow.holds Tryd.pinned (OpenSpec.ofChange rankSortsSpec)

/-- ITS FALSE NEIGHBOUR: 'it returns false'. Refute it at one input. -/
def rankSortsWrong : ChangeSpec := { name := "rankSorts", fn := fun _ => fun
  | [d1, d2] => { results := [.lit (.bool false)], args := [d1, d2] }
  | _ => none }
def RankSortsWrongFalsely : Prop := rankSortsRow.holds Tryd.pinned (OpenSpec.ofChange rankSortsWrong)

/-- 'nomenclatorlaw10.RankPolicies': WHATEVER THE INPUT: true; the input reads as it did. -/
def rankPoliciesSpec : ChangeSpec := { name := "rankPolicies", fn := fun _ => fun
  | [d] => { results := [.lit (.bool true)], args := [d] }
  | _ => none }
def rankPoliciesRow : OpenClaim := { program := "ytoaedlllnkcfnaadoor", sum := "3f9afef6aa5e53b33fa3ebb7c67cf2773fb49d100b0adc248767bbdf3f51d0ad", func := "nomenclator/nomenclatorlaw10.RankPolicies", spec := "rankPolicies", unfollowed := true, recurses := true, named := ["nomenclator/rank.policies", "nomenclator/rank.regions"], apart := false, laid := [("nomenclator/rank.policies", laid_nomenclator_rank_policies), ("nomenclator/rank.regions", laid_nomenclator_rank_regions)] }
def RankPoliciesSaid : Prop := rankPoliciesRow.holds Tryd.pinned (OpenSpec.ofChange rankPoliciesSpec)

/-- ITS FALSE NEIGHBOUR: 'it returns false'. Refute it at one input. -/
def rankPoliciesWrong : ChangeSpec := { name := "rankPolicies", fn := fun _ => fun
  | [d] => { results := [.lit (.bool false)], args := [d] }
  | _ => none }
def RankPoliciesWrongFalsely : Prop := rankPoliciesRow.holds Tryd.pinned (OpenSpec.ofChange rankPoliciesWrong)

/-- 'nomenclatorlaw10.RankKeys': WHATEVER THE INPUT: true; the input reads as it did. -/
def rankKeysSpec : ChangeSpec := { name := "rankKeys", fn := fun _ => fun
  | [d1, d2, d3] => { results := [.lit (.bool true)], args := [d1, d2, d3] }
  | _ => none }
def rankKeysRow : OpenClaim := { program := "ytoaedlllnkcfnaadoor", sum := "3f9afef6aa5e53b33fa3ebb7c67cf2773fb49d100b0adc248767bbdf3f51d0ad", func := "nomenclator/nomenclatorlaw10.RankKeys", spec := "rankKeys", unfollowed := true, recurses := true, named := ["nomenclator/rank.policies", "nomenclator/rank.regions"], apart := false, laid := [("nomenclator/rank.policies", laid_nomenclator_rank_policies), ("nomenclator/rank.regions", laid_nomenclator_rank_regions)] }
def RankKeysSaid : Prop := rankKeysRow.holds Tryd.pinned (OpenSpec.ofChange rankKeysSpec)

/-- ITS FALSE NEIGHBOUR: 'it returns false'. Refute it at one input. -/
def rankKeysWrong : ChangeSpec := { name := "rankKeys", fn := fun _ => fun
  | [d1, d2, d3] => { results := [.lit (.bool false)], args := [d1, d2, d3] }
  | _ => none }
def RankKeysWrongFalsely : Prop := rankKeysRow.holds Tryd.pinned (OpenSpec.ofChange rankKeysWrong)

/-- 'nomenclatorlaw10.RankTurns': WHATEVER THE INPUT: true; the input reads as it did. -/
def rankTurnsSpec : ChangeSpec := { name := "rankTurns", fn := fun _ => fun
  | [d1, d2, d3] => { results := [.lit (.bool true)], args := [d1, d2, d3] }
  | _ => none }
def rankTurnsRow : OpenClaim := { program := "ytoaedlllnkcfnaadoor", sum := "3f9afef6aa5e53b33fa3ebb7c67cf2773fb49d100b0adc248767bbdf3f51d0ad", func := "nomenclator/nomenclatorlaw10.RankTurns", spec := "rankTurns", unfollowed := true, recurses := true, named := ["nomenclator/rank.policies", "nomenclator/rank.regions"], apart := false, laid := [("nomenclator/rank.policies", laid_nomenclator_rank_policies), ("nomenclator/rank.regions", laid_nomenclator_rank_regions)] }
def RankTurnsSaid : Prop := rankTurnsRow.holds Tryd.pinned (OpenSpec.ofChange rankTurnsSpec)

/-- ITS FALSE NEIGHBOUR: 'it returns false'. Refute it at one input. -/
def rankTurnsWrong : ChangeSpec := { name := "rankTurns", fn := fun _ => fun
  | [d1, d2, d3] => { results := [.lit (.bool false)], args := [d1, d2, d3] }
  | _ => none }
def RankTurnsWrongFalsely : Prop := rankTurnsRow.holds Tryd.pinned (OpenSpec.ofChange rankTurnsWrong)

/-- 'nomenclatorlaw10.RankSelf': WHATEVER THE INPUT: true; the input reads as it did. -/
def rankSelfSpec : ChangeSpec := { name := "rankSelf", fn := fun _ => fun
  | [d1, d2, d3] => { results := [.lit (.bool true)], args := [d1, d2, d3] }
  | _ => none }
def rankSelfRow : OpenClaim := { program := "ytoaedlllnkcfnaadoor", sum := "3f9afef6aa5e53b33fa3ebb7c67cf2773fb49d100b0adc248767bbdf3f51d0ad", func := "nomenclator/nomenclatorlaw10.RankSelf", spec := "rankSelf", unfollowed := true, recurses := true, named := ["nomenclator/rank.policies", "nomenclator/rank.regions"], apart := false, laid := [("nomenclator/rank.policies", laid_nomenclator_rank_policies), ("nomenclator/rank.regions", laid_nomenclator_rank_regions)] }
def RankSelfSaid : Prop := rankSelfRow.holds Tryd.pinned (OpenSpec.ofChange rankSelfSpec)

/-- ITS FALSE NEIGHBOUR: 'it returns false'. Refute it at one input. -/
def rankSelfWrong : ChangeSpec := { name := "rankSelf", fn := fun _ => fun
  | [d1, d2, d3] => { results := [.lit (.bool false)], args := [d1, d2, d3] }
  | _ => none }
def RankSelfWrongFalsely : Prop := rankSelfRow.holds Tryd.pinned (OpenSpec.ofChange rankSelfWrong)

/-- 'nomenclatorlaw10.RankFamilies': WHATEVER THE INPUT: true; the input reads as it did. -/
def rankFamiliesSpec : ChangeSpec := { name := "rankFamilies", fn := fun _ => fun
  | [d1, d2] => { results := [.lit (.bool true)], args := [d1, d2] }
  | _ => none }
def rankFamiliesRow : OpenClaim := { program := "ytoaedlllnkcfnaadoor", sum := "3f9afef6aa5e53b33fa3ebb7c67cf2773fb49d100b0adc248767bbdf3f51d0ad", func := "nomenclator/nomenclatorlaw10.RankFamilies", spec := "rankFamilies", unfollowed := true, recurses := true, named := ["nomenclator/rank.policies", "nomenclator/rank.regions"], apart := false, laid := [("nomenclator/rank.policies", laid_nomenclator_rank_policies), ("nomenclator/rank.regions", laid_nomenclator_rank_regions)] }
def RankFamiliesSaid : Prop := rankFamiliesRow.holds Tryd.pinned (OpenSpec.ofChange rankFamiliesSpec)

/-- ITS FALSE NEIGHBOUR: 'it returns false'. Refute it at one input. -/
def rankFamiliesWrong : ChangeSpec := { name := "rankFamilies", fn := fun _ => fun
  | [d1, d2] => { results := [.lit (.bool false)], args := [d1, d2] }
  | _ => none }
def RankFamiliesWrongFalsely : Prop := rankFamiliesRow.holds Tryd.pinned (OpenSpec.ofChange rankFamiliesWrong)

/- THE SECOND FORM. 'bulk': how many values and letters a reading holds, each counted each time it is reached (what is shared counts as often as it is met; a slice's spare places count too). A statement '..UptoSaid' is the law's where the arguments, and the package variables that the reading takes, are together of bulk at most 1048576: NARROWER than '..Said'. Prove '..Said' where nothing that the law and all that it calls make is longer than what came in: it says more and counts as full. Else prove '..UptoSaid'. A law counts once. -/
mutual
def uptoBulk {H : Type} : DataW H → Nat
  | .lit (.string bytes) => bytes.length + 1
  | .lit _ => 1
  | .nil => 1
  | .ptr d => uptoBulk d + 1
  | .slice elems spare => uptoBulkAll elems + uptoBulkAll spare + 1
  | .agg parts => uptoBulkAll parts + 1
  | .iface _ d => uptoBulk d + 1
  | .map entries => uptoBulkEntries entries + 1
  | .held _ => 1
def uptoBulkAll {H : Type} : List (DataW H) → Nat
  | [] => 0
  | d :: r => uptoBulk d + uptoBulkAll r
def uptoBulkEntries {H : Type} : List (Lit × DataW H) → Nat
  | [] => 0
  | x :: r => uptoBulkEntry x + uptoBulkEntries r
def uptoBulkEntry {H : Type} : Lit × DataW H → Nat
  | (.string bytes, d) => bytes.length + uptoBulk d + 1
  | (_, d) => uptoBulk d + 1
 end
def uptoSmall : (H : Type) → List (DataW H) → Bool := fun _ ds => decide (uptoBulkAll ds ≤ 1048576)
def OpenSpec.upto (s : _root_.Go.ChangeSpec) : _root_.Go.OpenSpec := { _root_.Go.OpenSpec.ofChange s with cond := some uptoSmall }

/-- 'nomenclatorlaw10.RankSorts', WHERE WHAT IT READS IS OF BULK AT MOST 1048576: true; the input reads as it did. -/
def rankSortsUptoRow : OpenClaim := { program := "ytoaedlllnkcfnaadoor", sum := "3f9afef6aa5e53b33fa3ebb7c67cf2773fb49d100b0adc248767bbdf3f51d0ad", func := "nomenclator/nomenclatorlaw10.RankSorts", spec := "rankSorts", unfollowed := true, recurses := true, named := ["nomenclator/rank.policies", "nomenclator/rank.regions"], apart := false, laid := [("nomenclator/rank.policies", laid_nomenclator_rank_policies), ("nomenclator/rank.regions", laid_nomenclator_rank_regions)], narrowed := true }
def RankSortsUptoSaid : Prop := rankSortsUptoRow.holds Tryd.pinned (OpenSpec.upto rankSortsSpec)

/-- 'nomenclatorlaw10.RankPolicies', WHERE WHAT IT READS IS OF BULK AT MOST 1048576: true; the input reads as it did. -/
def rankPoliciesUptoRow : OpenClaim := { program := "ytoaedlllnkcfnaadoor", sum := "3f9afef6aa5e53b33fa3ebb7c67cf2773fb49d100b0adc248767bbdf3f51d0ad", func := "nomenclator/nomenclatorlaw10.RankPolicies", spec := "rankPolicies", unfollowed := true, recurses := true, named := ["nomenclator/rank.policies", "nomenclator/rank.regions"], apart := false, laid := [("nomenclator/rank.policies", laid_nomenclator_rank_policies), ("nomenclator/rank.regions", laid_nomenclator_rank_regions)], narrowed := true }
def RankPoliciesUptoSaid : Prop := rankPoliciesUptoRow.holds Tryd.pinned (OpenSpec.upto rankPoliciesSpec)

/-- 'nomenclatorlaw10.RankKeys', WHERE WHAT IT READS IS OF BULK AT MOST 1048576: true; the input reads as it did. -/
def rankKeysUptoRow : OpenClaim := { program := "ytoaedlllnkcfnaadoor", sum := "3f9afef6aa5e53b33fa3ebb7c67cf2773fb49d100b0adc248767bbdf3f51d0ad", func := "nomenclator/nomenclatorlaw10.RankKeys", spec := "rankKeys", unfollowed := true, recurses := true, named := ["nomenclator/rank.policies", "nomenclator/rank.regions"], apart := false, laid := [("nomenclator/rank.policies", laid_nomenclator_rank_policies), ("nomenclator/rank.regions", laid_nomenclator_rank_regions)], narrowed := true }
def RankKeysUptoSaid : Prop := rankKeysUptoRow.holds Tryd.pinned (OpenSpec.upto rankKeysSpec)

/-- 'nomenclatorlaw10.RankTurns', WHERE WHAT IT READS IS OF BULK AT MOST 1048576: true; the input reads as it did. -/
def rankTurnsUptoRow : OpenClaim := { program := "ytoaedlllnkcfnaadoor", sum := "3f9afef6aa5e53b33fa3ebb7c67cf2773fb49d100b0adc248767bbdf3f51d0ad", func := "nomenclator/nomenclatorlaw10.RankTurns", spec := "rankTurns", unfollowed := true, recurses := true, named := ["nomenclator/rank.policies", "nomenclator/rank.regions"], apart := false, laid := [("nomenclator/rank.policies", laid_nomenclator_rank_policies), ("nomenclator/rank.regions", laid_nomenclator_rank_regions)], narrowed := true }
def RankTurnsUptoSaid : Prop := rankTurnsUptoRow.holds Tryd.pinned (OpenSpec.upto rankTurnsSpec)

/-- 'nomenclatorlaw10.RankSelf', WHERE WHAT IT READS IS OF BULK AT MOST 1048576: true; the input reads as it did. -/
def rankSelfUptoRow : OpenClaim := { program := "ytoaedlllnkcfnaadoor", sum := "3f9afef6aa5e53b33fa3ebb7c67cf2773fb49d100b0adc248767bbdf3f51d0ad", func := "nomenclator/nomenclatorlaw10.RankSelf", spec := "rankSelf", unfollowed := true, recurses := true, named := ["nomenclator/rank.policies", "nomenclator/rank.regions"], apart := false, laid := [("nomenclator/rank.policies", laid_nomenclator_rank_policies), ("nomenclator/rank.regions", laid_nomenclator_rank_regions)], narrowed := true }
def RankSelfUptoSaid : Prop := rankSelfUptoRow.holds Tryd.pinned (OpenSpec.upto rankSelfSpec)

/-- 'nomenclatorlaw10.RankFamilies', WHERE WHAT IT READS IS OF BULK AT MOST 1048576: true; the input reads as it did. -/
def rankFamiliesUptoRow : OpenClaim := { program := "ytoaedlllnkcfnaadoor", sum := "3f9afef6aa5e53b33fa3ebb7c67cf2773fb49d100b0adc248767bbdf3f51d0ad", func := "nomenclator/nomenclatorlaw10.RankFamilies", spec := "rankFamilies", unfollowed := true, recurses := true, named := ["nomenclator/rank.policies", "nomenclator/rank.regions"], apart := false, laid := [("nomenclator/rank.policies", laid_nomenclator_rank_policies), ("nomenclator/rank.regions", laid_nomenclator_rank_regions)], narrowed := true }
def RankFamiliesUptoSaid : Prop := rankFamiliesUptoRow.holds Tryd.pinned (OpenSpec.upto rankFamiliesSpec)

end Rows
end Go.Proofs.YtoaedlllnkcfnaaDoor
