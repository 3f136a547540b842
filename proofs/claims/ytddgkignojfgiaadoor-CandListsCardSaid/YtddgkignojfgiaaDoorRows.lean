/-
  NARROWER THAN 'FOR EVERY INPUT', by the rows' own cells (each row's printed sentence says how): CandLists: laid · CandNames: laid · CandDots: laid · CandLong: laid · CandNone: laid.
  DERIVED. THE GIVEN ROWS OF THIS SEAT. 5 by the template 'for every input the law returns true; each argument reads behind the call as it read before'; 0 by the template 'total and deterministic' (their statements: YtddgkignojfgiaaDoorTotals.lean).
  GIVEN WITH THE SEED: the statements are not yours to turn. If you find one false, say at which input.
  Laid BY PROGRAM, IN A SANDBOX (cutbox-rows.mjs): the forced cells as the released guide's own fill.sh prints them over the translation 42f64806a4578888… (all of the seat's roots in one cut). By AI agents, Wed Nov 11 2026. No macro, syntax, notation, axiom, sorry.
-/
import Derived.Test.YtddgkignojfgiaaDoorChecked
import GoSem.PinnedTables
import GoSem.Claim
import GoSem.ClaimJoined
import GoSem.ClaimMapViews
import Derived.JoinedTies
import Derived.KernelRfl
namespace Go.Proofs.YtddgkignojfgiaaDoor
/- THE CELL 'sum', in the pinned program and in every row, IS THE sha256 OF THE DUMP (.gsa) THAT YtddgkignojfgiaaDoorProg.lean LOADS. Nothing in Lean hashes anything: it is a label: what it is worth is what the hold of that sum in a sandbox is worth. -/
noncomputable def Tryd.pinned : Pinned := { name := "ytddgkignojfgiaadoor", sum := "42f64806a4578888267770966f11bf049b7897e8b39e3afceda877667ab82115", checked := Tryd.checked }
namespace Rows
def none {H : Type} : Left H := { results := [], args := [] }

/- WHAT THE LISTED PACKAGE-LEVEL VARIABLES READ AS WHEN THE CALL BEGINS. Each datum BY PROGRAM (the guide's laid-datum.mjs) off the statement by which the dump's own 'gosem.cut.vars' lays the variable. In a bare row this is a premise. The card (YtddgkignojfgiaaDoorCards.lean) ties it to the program's text. -/
def laid_unicode_utf8_acceptRanges {H : Type} : DataW H := .agg [.agg [.lit (.int .u8 128), .lit (.int .u8 191)], .agg [.lit (.int .u8 160), .lit (.int .u8 191)], .agg [.lit (.int .u8 128), .lit (.int .u8 159)], .agg [.lit (.int .u8 144), .lit (.int .u8 191)], .agg [.lit (.int .u8 128), .lit (.int .u8 143)], .agg [.lit (.int .u8 0), .lit (.int .u8 0)], .agg [.lit (.int .u8 0), .lit (.int .u8 0)], .agg [.lit (.int .u8 0), .lit (.int .u8 0)], .agg [.lit (.int .u8 0), .lit (.int .u8 0)], .agg [.lit (.int .u8 0), .lit (.int .u8 0)], .agg [.lit (.int .u8 0), .lit (.int .u8 0)], .agg [.lit (.int .u8 0), .lit (.int .u8 0)], .agg [.lit (.int .u8 0), .lit (.int .u8 0)], .agg [.lit (.int .u8 0), .lit (.int .u8 0)], .agg [.lit (.int .u8 0), .lit (.int .u8 0)], .agg [.lit (.int .u8 0), .lit (.int .u8 0)]]
/-- One of Go's own tables, pinned by name: the form's constant. -/
def laid_unicode_utf8_first : DataW Unit := Go.Pinned.utf8First

/-- 'nomenclatorlaw12.CandLists': WHATEVER THE INPUT: true; the input reads as it did. -/
def candListsSpec : ChangeSpec := { name := "candLists", fn := fun _ => fun
  | [d1, d2, d3] => { results := [.lit (.bool true)], args := [d1, d2, d3] }
  | _ => none }
def candListsRow : OpenClaim := { program := "ytddgkignojfgiaadoor", sum := "42f64806a4578888267770966f11bf049b7897e8b39e3afceda877667ab82115", func := "nomenclator/nomenclatorlaw12.CandLists", spec := "candLists", inPlace := ["internal/bytealg.CountString", "internal/bytealg.IndexByteString", "internal/bytealg.IndexString", "slices.overlaps[rune]", "internal/abi.NoEscape", "internal/bytealg.MakeNoZero"], unfollowed := true, recurses := true, named := ["unicode/utf8.first", "unicode/utf8.acceptRanges", "internal/bytealg.MaxLen"], apart := false, laid := [("unicode/utf8.acceptRanges", laid_unicode_utf8_acceptRanges), ("unicode/utf8.first", laid_unicode_utf8_first)] }
def CandListsSaid : Prop := candListsRow.holds Tryd.pinned (OpenSpec.ofChange candListsSpec)

/-- ITS FALSE NEIGHBOUR: 'it returns false'. Refute it at one input. -/
def candListsWrong : ChangeSpec := { name := "candLists", fn := fun _ => fun
  | [d1, d2, d3] => { results := [.lit (.bool false)], args := [d1, d2, d3] }
  | _ => none }
def CandListsWrongFalsely : Prop := candListsRow.holds Tryd.pinned (OpenSpec.ofChange candListsWrong)

/-- 'nomenclatorlaw12.CandNames': WHATEVER THE INPUT: true; the input reads as it did. -/
def candNamesSpec : ChangeSpec := { name := "candNames", fn := fun _ => fun
  | [d1, d2] => { results := [.lit (.bool true)], args := [d1, d2] }
  | _ => none }
def candNamesRow : OpenClaim := { program := "ytddgkignojfgiaadoor", sum := "42f64806a4578888267770966f11bf049b7897e8b39e3afceda877667ab82115", func := "nomenclator/nomenclatorlaw12.CandNames", spec := "candNames", inPlace := ["internal/bytealg.CountString", "internal/bytealg.IndexByteString", "internal/bytealg.IndexString", "slices.overlaps[rune]", "internal/abi.NoEscape", "internal/bytealg.MakeNoZero"], unfollowed := true, recurses := true, named := ["unicode/utf8.first", "unicode/utf8.acceptRanges", "internal/bytealg.MaxLen"], apart := false, laid := [("unicode/utf8.acceptRanges", laid_unicode_utf8_acceptRanges), ("unicode/utf8.first", laid_unicode_utf8_first)] }
def CandNamesSaid : Prop := candNamesRow.holds Tryd.pinned (OpenSpec.ofChange candNamesSpec)

/-- ITS FALSE NEIGHBOUR: 'it returns false'. Refute it at one input. -/
def candNamesWrong : ChangeSpec := { name := "candNames", fn := fun _ => fun
  | [d1, d2] => { results := [.lit (.bool false)], args := [d1, d2] }
  | _ => none }
def CandNamesWrongFalsely : Prop := candNamesRow.holds Tryd.pinned (OpenSpec.ofChange candNamesWrong)

/-- 'nomenclatorlaw12.CandDots': WHATEVER THE INPUT: true; the input reads as it did. -/
def candDotsSpec : ChangeSpec := { name := "candDots", fn := fun _ => fun
  | [d1, d2, d3] => { results := [.lit (.bool true)], args := [d1, d2, d3] }
  | _ => none }
def candDotsRow : OpenClaim := { program := "ytddgkignojfgiaadoor", sum := "42f64806a4578888267770966f11bf049b7897e8b39e3afceda877667ab82115", func := "nomenclator/nomenclatorlaw12.CandDots", spec := "candDots", inPlace := ["internal/bytealg.CountString", "internal/bytealg.IndexByteString", "internal/bytealg.IndexString", "slices.overlaps[rune]", "internal/abi.NoEscape", "internal/bytealg.MakeNoZero"], unfollowed := true, recurses := true, named := ["unicode/utf8.first", "unicode/utf8.acceptRanges", "internal/bytealg.MaxLen"], apart := false, laid := [("unicode/utf8.acceptRanges", laid_unicode_utf8_acceptRanges), ("unicode/utf8.first", laid_unicode_utf8_first)] }
def CandDotsSaid : Prop := candDotsRow.holds Tryd.pinned (OpenSpec.ofChange candDotsSpec)

/-- ITS FALSE NEIGHBOUR: 'it returns false'. Refute it at one input. -/
def candDotsWrong : ChangeSpec := { name := "candDots", fn := fun _ => fun
  | [d1, d2, d3] => { results := [.lit (.bool false)], args := [d1, d2, d3] }
  | _ => none }
def CandDotsWrongFalsely : Prop := candDotsRow.holds Tryd.pinned (OpenSpec.ofChange candDotsWrong)

/-- 'nomenclatorlaw12.CandLong': WHATEVER THE INPUT: true; the input reads as it did. -/
def candLongSpec : ChangeSpec := { name := "candLong", fn := fun _ => fun
  | [d] => { results := [.lit (.bool true)], args := [d] }
  | _ => none }
def candLongRow : OpenClaim := { program := "ytddgkignojfgiaadoor", sum := "42f64806a4578888267770966f11bf049b7897e8b39e3afceda877667ab82115", func := "nomenclator/nomenclatorlaw12.CandLong", spec := "candLong", inPlace := ["internal/bytealg.CountString", "internal/bytealg.IndexByteString", "internal/bytealg.IndexString", "slices.overlaps[rune]", "internal/abi.NoEscape", "internal/bytealg.MakeNoZero"], unfollowed := true, recurses := true, named := ["unicode/utf8.first", "unicode/utf8.acceptRanges", "internal/bytealg.MaxLen"], apart := false, laid := [("unicode/utf8.acceptRanges", laid_unicode_utf8_acceptRanges), ("unicode/utf8.first", laid_unicode_utf8_first)] }
def CandLongSaid : Prop := candLongRow.holds Tryd.pinned (OpenSpec.ofChange candLongSpec)

/-- ITS FALSE NEIGHBOUR: 'it returns false'. Refute it at one input. -/
def candLongWrong : ChangeSpec := { name := "candLong", fn := fun _ => fun
  | [d] => { results := [.lit (.bool false)], args := [d] }
  | _ => none }
def CandLongWrongFalsely : Prop := candLongRow.holds Tryd.pinned (OpenSpec.ofChange candLongWrong)

/-- 'nomenclatorlaw12.CandNone': WHATEVER THE INPUT: true; the input reads as it did. -/
def candNoneSpec : ChangeSpec := { name := "candNone", fn := fun _ => fun
  | [d1, d2] => { results := [.lit (.bool true)], args := [d1, d2] }
  | _ => none }
def candNoneRow : OpenClaim := { program := "ytddgkignojfgiaadoor", sum := "42f64806a4578888267770966f11bf049b7897e8b39e3afceda877667ab82115", func := "nomenclator/nomenclatorlaw12.CandNone", spec := "candNone", inPlace := ["internal/bytealg.CountString", "internal/bytealg.IndexByteString", "internal/bytealg.IndexString", "slices.overlaps[rune]", "internal/abi.NoEscape", "internal/bytealg.MakeNoZero"], unfollowed := true, recurses := true, named := ["unicode/utf8.first", "unicode/utf8.acceptRanges", "internal/bytealg.MaxLen"], apart := false, laid := [("unicode/utf8.acceptRanges", laid_unicode_utf8_acceptRanges), ("unicode/utf8.first", laid_unicode_utf8_first)] }
def CandNoneSaid : Prop := candNoneRow.holds Tryd.pinned (OpenSpec.ofChange candNoneSpec)

/-- ITS FALSE NEIGHBOUR: 'it returns false'. Refute it at one input. -/
def candNoneWrong : ChangeSpec := { name := "candNone", fn := fun _ => fun
  | [d1, d2] => { results := [.lit (.bool false)], args := [d1, d2] }
  | _ => none }
def CandNoneWrongFalsely : Prop := candNoneRow.holds Tryd.pinned (OpenSpec.ofChange candNoneWrong)

/- THE SECOND FORM. 'bulk': how many values and letters a reading holds, each counted each time it is reached (what is shared counts as often as it is met; a slice's spare places count too). A statement '..UptoSaid' is the law's where the arguments, and the package variables that the reading takes, are together of bulk at most 1048576: NARROWER than '..Said'. Prove '..Said' where nothing that the law and all that it calls make is longer than what came in: it says more and counts as full. Else prove '..UptoSaid'. A law counts once. -/
mutual
def uptoBulk {H : Type} : DataW H → Nat
  | .lit (.string bytes) => bytes.length + 1
  | .lit _ => 1
  | .nil => 1
  | .ptr d => uptoBulk d + 1
  | .slice elems spare => uptoBulkAll elems + uptoBulkAll spare + 1
  | .agg parts => uptoBulkAll parts + 1
  | .iface _ d => uptoBulk d + 1
  | .map entries => uptoBulkEntries entries + 1
  | .held _ => 1
def uptoBulkAll {H : Type} : List (DataW H) → Nat
  | [] => 0
  | d :: r => uptoBulk d + uptoBulkAll r
def uptoBulkEntries {H : Type} : List (Lit × DataW H) → Nat
  | [] => 0
  | x :: r => uptoBulkEntry x + uptoBulkEntries r
def uptoBulkEntry {H : Type} : Lit × DataW H → Nat
  | (.string bytes, d) => bytes.length + uptoBulk d + 1
  | (_, d) => uptoBulk d + 1
 end
def uptoSmall : (H : Type) → List (DataW H) → Bool := fun _ ds => decide (uptoBulkAll ds ≤ 1048576)
def OpenSpec.upto (s : _root_.Go.ChangeSpec) : _root_.Go.OpenSpec := { _root_.Go.OpenSpec.ofChange s with cond := some uptoSmall }

/-- 'nomenclatorlaw12.CandLists', WHERE WHAT IT READS IS OF BULK AT MOST 1048576: true; the input reads as it did. -/
def candListsUptoRow : OpenClaim := { program := "ytddgkignojfgiaadoor", sum := "42f64806a4578888267770966f11bf049b7897e8b39e3afceda877667ab82115", func := "nomenclator/nomenclatorlaw12.CandLists", spec := "candLists", inPlace := ["internal/bytealg.CountString", "internal/bytealg.IndexByteString", "internal/bytealg.IndexString", "slices.overlaps[rune]", "internal/abi.NoEscape", "internal/bytealg.MakeNoZero"], unfollowed := true, recurses := true, named := ["unicode/utf8.first", "unicode/utf8.acceptRanges", "internal/bytealg.MaxLen"], apart := false, laid := [("unicode/utf8.acceptRanges", laid_unicode_utf8_acceptRanges), ("unicode/utf8.first", laid_unicode_utf8_first)], narrowed := true }
def CandListsUptoSaid : Prop := candListsUptoRow.holds Tryd.pinned (OpenSpec.upto candListsSpec)

/-- 'nomenclatorlaw12.CandNames', WHERE WHAT IT READS IS OF BULK AT MOST 1048576: true; the input reads as it did. -/
def candNamesUptoRow : OpenClaim := { program := "ytddgkignojfgiaadoor", sum := "42f64806a4578888267770966f11bf049b7897e8b39e3afceda877667ab82115", func := "nomenclator/nomenclatorlaw12.CandNames", spec := "candNames", inPlace := ["internal/bytealg.CountString", "internal/bytealg.IndexByteString", "internal/bytealg.IndexString", "slices.overlaps[rune]", "internal/abi.NoEscape", "internal/bytealg.MakeNoZero"], unfollowed := true, recurses := true, named := ["unicode/utf8.first", "unicode/utf8.acceptRanges", "internal/bytealg.MaxLen"], apart := false, laid := [("unicode/utf8.acceptRanges", laid_unicode_utf8_acceptRanges), ("unicode/utf8.first", laid_unicode_utf8_first)], narrowed := true }
def CandNamesUptoSaid : Prop := candNamesUptoRow.holds Tryd.pinned (OpenSpec.upto candNamesSpec)

/-- 'nomenclatorlaw12.CandDots', WHERE WHAT IT READS IS OF BULK AT MOST 1048576: true; the input reads as it did. -/
def candDotsUptoRow : OpenClaim := { program := "ytddgkignojfgiaadoor", sum := "42f64806a4578888267770966f11bf049b7897e8b39e3afceda877667ab82115", func := "nomenclator/nomenclatorlaw12.CandDots", spec := "candDots", inPlace := ["internal/bytealg.CountString", "internal/bytealg.IndexByteString", "internal/bytealg.IndexString", "slices.overlaps[rune]", "internal/abi.NoEscape", "internal/bytealg.MakeNoZero"], unfollowed := true, recurses := true, named := ["unicode/utf8.first", "unicode/utf8.acceptRanges", "internal/bytealg.MaxLen"], apart := false, laid := [("unicode/utf8.acceptRanges", laid_unicode_utf8_acceptRanges), ("unicode/utf8.first", laid_unicode_utf8_first)], narrowed := true }
def CandDotsUptoSaid : Prop := candDotsUptoRow.holds Tryd.pinned (OpenSpec.upto candDotsSpec)

/-- 'nomenclatorlaw12.CandLong', WHERE WHAT IT READS IS OF BULK AT MOST 1048576: true; the input reads as it did. -/
def candLongUptoRow : OpenClaim := { program := "ytddgkignojfgiaadoor", sum := "42f64806a4578888267770966f11bf049b7897e8b39e3afceda877667ab82115", func := "nomenclator/nomenclatorlaw12.CandLong", spec := "candLong", inPlace := ["internal/bytealg.CountString", "internal/bytealg.IndexByteString", "internal/bytealg.IndexString", "slices.overlaps[rune]", "internal/abi.NoEscape", "internal/bytealg.MakeNoZero"], unfollowed := true, recurses := true, named := ["unicode/utf8.first", "unicode/utf8.acceptRanges", "internal/bytealg.MaxLen"], apart := false, laid := [("unicode/utf8.acceptRanges", laid_unicode_utf8_acceptRanges), ("unicode/utf8.first", laid_unicode_utf8_first)], narrowed := true }
def CandLongUptoSaid : Prop := candLongUptoRow.holds Tryd.pinned (OpenSpec.upto candLongSpec)

/-- 'nomenclatorlaw12.CandNone', WHERE WHAT IT READS IS OF BULK AT MOST 1048576: true; the input reads as it did. -/
def candNoneUptoRow : OpenClaim := { program := "ytddgkignojfgiaadoor", sum := "42f64806a4578888267770966f11bf049b7897e8b39e3afceda877667ab82115", func := "nomenclator/nomenclatorlaw12.CandNone", spec := "candNone", inPlace := ["internal/bytealg.CountString", "internal/bytealg.IndexByteString", "internal/bytealg.IndexString", "slices.overlaps[rune]", "internal/abi.NoEscape", "internal/bytealg.MakeNoZero"], unfollowed := true, recurses := true, named := ["unicode/utf8.first", "unicode/utf8.acceptRanges", "internal/bytealg.MaxLen"], apart := false, laid := [("unicode/utf8.acceptRanges", laid_unicode_utf8_acceptRanges), ("unicode/utf8.first", laid_unicode_utf8_first)], narrowed := true }
def CandNoneUptoSaid : Prop := candNoneUptoRow.holds Tryd.pinned (OpenSpec.upto candNoneSpec)

end Rows
end Go.Proofs.YtddgkignojfgiaaDoor
