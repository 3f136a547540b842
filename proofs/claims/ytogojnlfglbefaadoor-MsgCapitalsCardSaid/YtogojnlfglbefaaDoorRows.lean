/-
  NARROWER THAN 'FOR EVERY INPUT', by the rows' own cells (each row's printed sentence says how): MsgBack: laid · MsgRight: laid · MsgPlaces: laid · MsgHeads: laid · MsgCapitals: laid · MsgMore: laid · MsgJunk: laid · MsgCounts: laid.
  DERIVED. THE GIVEN ROWS OF THIS SEAT. 8 by the template 'for every input the law returns true; each argument reads behind the call as it read before'; 0 by the template 'total and deterministic' (their statements: YtogojnlfglbefaaDoorTotals.lean).
  GIVEN WITH THE SEED: the statements are not yours to turn. If you find one false, say at which input.
  Laid BY PROGRAM, IN A SANDBOX (cutbox-rows.mjs): the forced cells as the released guide's own fill.sh prints them over the translation 5093a379b8292e65… (all of the seat's roots in one cut). By AI agents, Wed Nov 11 2026. No macro, syntax, notation, axiom, sorry.
-/
import Derived.Test.YtogojnlfglbefaaDoorChecked
import GoSem.PinnedTables
import GoSem.Claim
import GoSem.ClaimJoined
import GoSem.ClaimMapViews
import Derived.JoinedTies
import Derived.KernelRfl
namespace Go.Proofs.YtogojnlfglbefaaDoor
/- THE CELL 'sum', in the pinned program and in every row, IS THE sha256 OF THE DUMP (.gsa) THAT YtogojnlfglbefaaDoorProg.lean LOADS. Nothing in Lean hashes anything: it is a label: what it is worth is what the hold of that sum in a sandbox is worth. -/
noncomputable def Tryd.pinned : Pinned := { name := "ytogojnlfglbefaadoor", sum := "5093a379b8292e65ffa270b538ed0ac86a7aec5f9255bd5ec44cc8264f010b58", checked := Tryd.checked }
namespace Rows
def none {H : Type} : Left H := { results := [], args := [] }

/- WHAT THE LISTED PACKAGE-LEVEL VARIABLES READ AS WHEN THE CALL BEGINS. Each datum BY PROGRAM (the guide's laid-datum.mjs) off the statement by which the dump's own 'gosem.cut.vars' lays the variable. In a bare row this is a premise. The card (YtogojnlfglbefaaDoorCards.lean) ties it to the program's text. -/
def laid_unicode_utf8_acceptRanges {H : Type} : DataW H := .agg [.agg [.lit (.int .u8 128), .lit (.int .u8 191)], .agg [.lit (.int .u8 160), .lit (.int .u8 191)], .agg [.lit (.int .u8 128), .lit (.int .u8 159)], .agg [.lit (.int .u8 144), .lit (.int .u8 191)], .agg [.lit (.int .u8 128), .lit (.int .u8 143)], .agg [.lit (.int .u8 0), .lit (.int .u8 0)], .agg [.lit (.int .u8 0), .lit (.int .u8 0)], .agg [.lit (.int .u8 0), .lit (.int .u8 0)], .agg [.lit (.int .u8 0), .lit (.int .u8 0)], .agg [.lit (.int .u8 0), .lit (.int .u8 0)], .agg [.lit (.int .u8 0), .lit (.int .u8 0)], .agg [.lit (.int .u8 0), .lit (.int .u8 0)], .agg [.lit (.int .u8 0), .lit (.int .u8 0)], .agg [.lit (.int .u8 0), .lit (.int .u8 0)], .agg [.lit (.int .u8 0), .lit (.int .u8 0)], .agg [.lit (.int .u8 0), .lit (.int .u8 0)]]
/-- One of Go's own tables, pinned by name: the form's constant. -/
def laid_unicode_utf8_first : DataW Unit := Go.Pinned.utf8First

/-- 'nomenclatorlaw04.MsgBack': WHATEVER THE INPUT: true; the input reads as it did. -/
def msgBackSpec : ChangeSpec := { name := "msgBack", fn := fun _ => fun
  | [d1, d2, d3] => { results := [.lit (.bool true)], args := [d1, d2, d3] }
  | _ => none }
def msgBackRow : OpenClaim := { program := "ytogojnlfglbefaadoor", sum := "5093a379b8292e65ffa270b538ed0ac86a7aec5f9255bd5ec44cc8264f010b58", func := "nomenclator/nomenclatorlaw04.MsgBack", spec := "msgBack", inPlace := ["internal/bytealg.CountString", "internal/bytealg.IndexByteString", "internal/bytealg.IndexString", "internal/abi.NoEscape", "internal/bytealg.MakeNoZero"], unfollowed := true, recurses := true, named := ["unicode/utf8.first", "unicode/utf8.acceptRanges", "internal/bytealg.MaxLen"], apart := false, laid := [("unicode/utf8.acceptRanges", laid_unicode_utf8_acceptRanges), ("unicode/utf8.first", laid_unicode_utf8_first)] }
def MsgBackSaid : Prop := msgBackRow.holds Tryd.pinned (OpenSpec.ofChange msgBackSpec)

/-- ITS FALSE NEIGHBOUR: 'it returns false'. Refute it at one input. -/
def msgBackWrong : ChangeSpec := { name := "msgBack", fn := fun _ => fun
  | [d1, d2, d3] => { results := [.lit (.bool false)], args := [d1, d2, d3] }
  | _ => none }
def MsgBackWrongFalsely : Prop := msgBackRow.holds Tryd.pinned (OpenSpec.ofChange msgBackWrong)

/-- 'nomenclatorlaw04.MsgRight': WHATEVER THE INPUT: true; the input reads as it did. -/
def msgRightSpec : ChangeSpec := { name := "msgRight", fn := fun _ => fun
  | [d1, d2] => { results := [.lit (.bool true)], args := [d1, d2] }
  | _ => none }
def msgRightRow : OpenClaim := { program := "ytogojnlfglbefaadoor", sum := "5093a379b8292e65ffa270b538ed0ac86a7aec5f9255bd5ec44cc8264f010b58", func := "nomenclator/nomenclatorlaw04.MsgRight", spec := "msgRight", inPlace := ["internal/bytealg.CountString", "internal/bytealg.IndexByteString", "internal/bytealg.IndexString", "internal/abi.NoEscape", "internal/bytealg.MakeNoZero"], unfollowed := true, recurses := true, named := ["unicode/utf8.first", "unicode/utf8.acceptRanges", "internal/bytealg.MaxLen"], apart := false, laid := [("unicode/utf8.acceptRanges", laid_unicode_utf8_acceptRanges), ("unicode/utf8.first", laid_unicode_utf8_first)] }
def MsgRightSaid : Prop := msgRightRow.holds Tryd.pinned (OpenSpec.ofChange msgRightSpec)

/-- ITS FALSE NEIGHBOUR: 'it returns false'. Refute it at one input. -/
def msgRightWrong : ChangeSpec := { name := "msgRight", fn := fun _ => fun
  | [d1, d2] => { results := [.lit (.bool false)], args := [d1, d2] }
  | _ => none }
def MsgRightWrongFalsely : Prop := msgRightRow.holds Tryd.pinned (OpenSpec.ofChange msgRightWrong)

/-- 'nomenclatorlaw04.MsgPlaces': WHATEVER THE INPUT: true; the input reads as it did. -/
def msgPlacesSpec : ChangeSpec := { name := "msgPlaces", fn := fun _ => fun
  | [d1, d2] => { results := [.lit (.bool true)], args := [d1, d2] }
  | _ => none }
def msgPlacesRow : OpenClaim := { program := "ytogojnlfglbefaadoor", sum := "5093a379b8292e65ffa270b538ed0ac86a7aec5f9255bd5ec44cc8264f010b58", func := "nomenclator/nomenclatorlaw04.MsgPlaces", spec := "msgPlaces", inPlace := ["internal/bytealg.CountString", "internal/bytealg.IndexByteString", "internal/bytealg.IndexString", "internal/abi.NoEscape", "internal/bytealg.MakeNoZero"], unfollowed := true, recurses := true, named := ["unicode/utf8.first", "unicode/utf8.acceptRanges", "internal/bytealg.MaxLen"], apart := false, laid := [("unicode/utf8.acceptRanges", laid_unicode_utf8_acceptRanges), ("unicode/utf8.first", laid_unicode_utf8_first)] }
def MsgPlacesSaid : Prop := msgPlacesRow.holds Tryd.pinned (OpenSpec.ofChange msgPlacesSpec)

/-- ITS FALSE NEIGHBOUR: 'it returns false'. Refute it at one input. -/
def msgPlacesWrong : ChangeSpec := { name := "msgPlaces", fn := fun _ => fun
  | [d1, d2] => { results := [.lit (.bool false)], args := [d1, d2] }
  | _ => none }
def MsgPlacesWrongFalsely : Prop := msgPlacesRow.holds Tryd.pinned (OpenSpec.ofChange msgPlacesWrong)

/-- 'nomenclatorlaw04.MsgHeads': WHATEVER THE INPUT: true; the input reads as it did. -/
def msgHeadsSpec : ChangeSpec := { name := "msgHeads", fn := fun _ => fun
  | [d1, d2] => { results := [.lit (.bool true)], args := [d1, d2] }
  | _ => none }
def msgHeadsRow : OpenClaim := { program := "ytogojnlfglbefaadoor", sum := "5093a379b8292e65ffa270b538ed0ac86a7aec5f9255bd5ec44cc8264f010b58", func := "nomenclator/nomenclatorlaw04.MsgHeads", spec := "msgHeads", inPlace := ["internal/bytealg.CountString", "internal/bytealg.IndexByteString", "internal/bytealg.IndexString", "internal/abi.NoEscape", "internal/bytealg.MakeNoZero"], unfollowed := true, recurses := true, named := ["unicode/utf8.first", "unicode/utf8.acceptRanges", "internal/bytealg.MaxLen"], apart := false, laid := [("unicode/utf8.acceptRanges", laid_unicode_utf8_acceptRanges), ("unicode/utf8.first", laid_unicode_utf8_first)] }
def MsgHeadsSaid : Prop := msgHeadsRow.holds Tryd.pinned (OpenSpec.ofChange msgHeadsSpec)

/-- ITS FALSE NEIGHBOUR: 'it returns false'. Refute it at one input. -/
def msgHeadsWrong : ChangeSpec := { name := "msgHeads", fn := fun _ => fun
  | [d1, d2] => { results := [.lit (.bool false)], args := [d1, d2] }
  | _ => none }
def MsgHeadsWrongFalsely : Prop := msgHeadsRow.holds Tryd.pinned (OpenSpec.ofChange msgHeadsWrong)

/-- 'nomenclatorlaw04.MsgCapitals': WHATEVER THE INPUT: true; the input reads as it did. -/
def msgCapitalsSpec : ChangeSpec := { name := "msgCapitals", fn := fun _ => fun
  | [d1, d2, d3] => { results := [.lit (.bool true)], args := [d1, d2, d3] }
  | _ => none }
def msgCapitalsRow : OpenClaim := { program := "ytogojnlfglbefaadoor", sum := "5093a379b8292e65ffa270b538ed0ac86a7aec5f9255bd5ec44cc8264f010b58", func := "nomenclator/nomenclatorlaw04.MsgCapitals", spec := "msgCapitals", inPlace := ["internal/bytealg.CountString", "internal/bytealg.IndexByteString", "internal/bytealg.IndexString", "internal/abi.NoEscape", "internal/bytealg.MakeNoZero"], unfollowed := true, recurses := true, named := ["unicode/utf8.first", "unicode/utf8.acceptRanges", "internal/bytealg.MaxLen"], apart := false, laid := [("unicode/utf8.acceptRanges", laid_unicode_utf8_acceptRanges), ("unicode/utf8.first", laid_unicode_utf8_first)] }
def MsgCapitalsSaid : Prop := msgCapitalsRow.holds Tryd.pinned (OpenSpec.ofChange msgCapitalsSpec)

/-- ITS FALSE NEIGHBOUR: 'it returns false'. Refute it at one input. -/
def msgCapitalsWrong : ChangeSpec := { name := "msgCapitals", fn := fun _ => fun
  | [d1, d2, d3] => { results := [.lit (.bool false)], args := [d1, d2, d3] }
  | _ => none }
def MsgCapitalsWrongFalsely : Prop := msgCapitalsRow.holds Tryd.pinned (OpenSpec.ofChange msgCapitalsWrong)

/-- 'nomenclatorlaw04.MsgMore': WHATEVER THE INPUT: true; the input reads as it did. -/
def msgMoreSpec : ChangeSpec := { name := "msgMore", fn := fun _ => fun
  | [d1, d2, d3] => { results := [.lit (.bool true)], args := [d1, d2, d3] }
  | _ => none }
def msgMoreRow : OpenClaim := { program := "ytogojnlfglbefaadoor", sum := "5093a379b8292e65ffa270b538ed0ac86a7aec5f9255bd5ec44cc8264f010b58", func := "nomenclator/nomenclatorlaw04.MsgMore", spec := "msgMore", inPlace := ["internal/bytealg.CountString", "internal/bytealg.IndexByteString", "internal/bytealg.IndexString", "internal/abi.NoEscape", "internal/bytealg.MakeNoZero"], unfollowed := true, recurses := true, named := ["unicode/utf8.first", "unicode/utf8.acceptRanges", "internal/bytealg.MaxLen"], apart := false, laid := [("unicode/utf8.acceptRanges", laid_unicode_utf8_acceptRanges), ("unicode/utf8.first", laid_unicode_utf8_first)] }
def MsgMoreSaid : Prop := msgMoreRow.holds Tryd.pinned (OpenSpec.ofChange msgMoreSpec)

/-- ITS FALSE NEIGHBOUR: 'it returns false'. Refute it at one input. -/
def msgMoreWrong : ChangeSpec := { name := "msgMore", fn := fun _ => fun
  | [d1, d2, d3] => { results := [.lit (.bool false)], args := [d1, d2, d3] }
  | _ => none }
def MsgMoreWrongFalsely : Prop := msgMoreRow.holds Tryd.pinned (OpenSpec.ofChange msgMoreWrong)

/-- 'nomenclatorlaw04.MsgJunk': WHATEVER THE INPUT: true; the input reads as it did. -/
def msgJunkSpec : ChangeSpec := { name := "msgJunk", fn := fun _ => fun
  | [d] => { results := [.lit (.bool true)], args := [d] }
  | _ => none }
def msgJunkRow : OpenClaim := { program := "ytogojnlfglbefaadoor", sum := "5093a379b8292e65ffa270b538ed0ac86a7aec5f9255bd5ec44cc8264f010b58", func := "nomenclator/nomenclatorlaw04.MsgJunk", spec := "msgJunk", inPlace := ["internal/bytealg.CountString", "internal/bytealg.IndexByteString", "internal/bytealg.IndexString", "internal/abi.NoEscape", "internal/bytealg.MakeNoZero"], unfollowed := true, recurses := true, named := ["unicode/utf8.first", "unicode/utf8.acceptRanges", "internal/bytealg.MaxLen"], apart := false, laid := [("unicode/utf8.acceptRanges", laid_unicode_utf8_acceptRanges), ("unicode/utf8.first", laid_unicode_utf8_first)] }
def MsgJunkSaid : Prop := msgJunkRow.holds Tryd.pinned (OpenSpec.ofChange msgJunkSpec)

/-- ITS FALSE NEIGHBOUR: 'it returns false'. Refute it at one input. -/
def msgJunkWrong : ChangeSpec := { name := "msgJunk", fn := fun _ => fun
  | [d] => { results := [.lit (.bool false)], args := [d] }
  | _ => none }
def MsgJunkWrongFalsely : Prop := msgJunkRow.holds Tryd.pinned (OpenSpec.ofChange msgJunkWrong)

/-- 'nomenclatorlaw04.MsgCounts': WHATEVER THE INPUT: true; the input reads as it did. -/
def msgCountsSpec : ChangeSpec := { name := "msgCounts", fn := fun _ => fun
  | [d1, d2] => { results := [.lit (.bool true)], args := [d1, d2] }
  | _ => none }
def msgCountsRow : OpenClaim := { program := "ytogojnlfglbefaadoor", sum := "5093a379b8292e65ffa270b538ed0ac86a7aec5f9255bd5ec44cc8264f010b58", func := "nomenclator/nomenclatorlaw04.MsgCounts", spec := "msgCounts", inPlace := ["internal/bytealg.CountString", "internal/bytealg.IndexByteString", "internal/bytealg.IndexString", "internal/abi.NoEscape", "internal/bytealg.MakeNoZero"], unfollowed := true, recurses := true, named := ["unicode/utf8.first", "unicode/utf8.acceptRanges", "internal/bytealg.MaxLen"], apart := false, laid := [("unicode/utf8.acceptRanges", laid_unicode_utf8_acceptRanges), ("unicode/utf8.first", laid_unicode_utf8_first)] }
def MsgCountsSaid : Prop := msgCountsRow.holds Tryd.pinned (OpenSpec.ofChange msgCountsSpec)

/-- ITS FALSE NEIGHBOUR: 'it returns false'. Refute it at one input. -/
def msgCountsWrong : ChangeSpec := { name := "msgCounts", fn := fun _ => fun
  | [d1, d2] => { results := [.lit (.bool false)], args := [d1, d2] }
  | _ => none }
def MsgCountsWrongFalsely : Prop := msgCountsRow.holds Tryd.pinned (OpenSpec.ofChange msgCountsWrong)

/- THE SECOND FORM. 'bulk': how many values and letters a reading holds, each counted each time it is reached (what is shared counts as often as it is met; a slice's spare places count too). A statement '..UptoSaid' is the law's where the arguments, and the package variables that the reading takes, are together of bulk at most 1048576: NARROWER than '..Said'. Prove '..Said' where nothing that the law and all that it calls make is longer than what came in: it says more and counts as full. Else prove '..UptoSaid'. A law counts once. -/
mutual
def uptoBulk {H : Type} : DataW H → Nat
  | .lit (.string bytes) => bytes.length + 1
  | .lit _ => 1
  | .nil => 1
  | .ptr d => uptoBulk d + 1
  | .slice elems spare => uptoBulkAll elems + uptoBulkAll spare + 1
  | .agg parts => uptoBulkAll parts + 1
  | .iface _ d => uptoBulk d + 1
  | .map entries => uptoBulkEntries entries + 1
  | .held _ => 1
def uptoBulkAll {H : Type} : List (DataW H) → Nat
  | [] => 0
  | d :: r => uptoBulk d + uptoBulkAll r
def uptoBulkEntries {H : Type} : List (Lit × DataW H) → Nat
  | [] => 0
  | x :: r => uptoBulkEntry x + uptoBulkEntries r
def uptoBulkEntry {H : Type} : Lit × DataW H → Nat
  | (.string bytes, d) => bytes.length + uptoBulk d + 1
  | (_, d) => uptoBulk d + 1
 end
def uptoSmall : (H : Type) → List (DataW H) → Bool := fun _ ds => decide (uptoBulkAll ds ≤ 1048576)
def OpenSpec.upto (s : _root_.Go.ChangeSpec) : _root_.Go.OpenSpec := { _root_.Go.OpenSpec.ofChange s with cond := some uptoSmall }

/-- 'nomenclatorlaw04.MsgBack', WHERE WHAT IT READS IS OF BULK AT MOST 1048576: true; the input reads as it did. -/
def msgBackUptoRow : OpenClaim := { program := "ytogojnlfglbefaadoor", sum := "5093a379b8292e65ffa270b538ed0ac86a7aec5f9255bd5ec44cc8264f010b58", func := "nomenclator/nomenclatorlaw04.MsgBack", spec := "msgBack", inPlace := ["internal/bytealg.CountString", "internal/bytealg.IndexByteString", "internal/bytealg.IndexString", "internal/abi.NoEscape", "internal/bytealg.MakeNoZero"], unfollowed := true, recurses := true, named := ["unicode/utf8.first", "unicode/utf8.acceptRanges", "internal/bytealg.MaxLen"], apart := false, laid := [("unicode/utf8.acceptRanges", laid_unicode_utf8_acceptRanges), ("unicode/utf8.first", laid_unicode_utf8_first)], narrowed := true }
def MsgBackUptoSaid : Prop := msgBackUptoRow.holds Tryd.pinned (OpenSpec.upto msgBackSpec)

/-- 'nomenclatorlaw04.MsgRight', WHERE WHAT IT READS IS OF BULK AT MOST 1048576: true; the input reads as it did. -/
def msgRightUptoRow : OpenClaim := { program := "ytogojnlfglbefaadoor", sum := "5093a379b8292e65ffa270b538ed0ac86a7aec5f9255bd5ec44cc8264f010b58", func := "nomenclator/nomenclatorlaw04.MsgRight", spec := "msgRight", inPlace := ["internal/bytealg.CountString", "internal/bytealg.IndexByteString", "internal/bytealg.IndexString", "internal/abi.NoEscape", "internal/bytealg.MakeNoZero"], unfollowed := true, recurses := true, named := ["unicode/utf8.first", "unicode/utf8.acceptRanges", "internal/bytealg.MaxLen"], apart := false, laid := [("unicode/utf8.acceptRanges", laid_unicode_utf8_acceptRanges), ("unicode/utf8.first", laid_unicode_utf8_first)], narrowed := true }
def MsgRightUptoSaid : Prop := msgRightUptoRow.holds Tryd.pinned (OpenSpec.upto msgRightSpec)

/-- 'nomenclatorlaw04.MsgPlaces', WHERE WHAT IT READS IS OF BULK AT MOST 1048576: true; the input reads as it did. -/
def msgPlacesUptoRow : OpenClaim := { program := "ytogojnlfglbefaadoor", sum := "5093a379b8292e65ffa270b538ed0ac86a7aec5f9255bd5ec44cc8264f010b58", func := "nomenclator/nomenclatorlaw04.MsgPlaces", spec := "msgPlaces", inPlace := ["internal/bytealg.CountString", "internal/bytealg.IndexByteString", "internal/bytealg.IndexString", "internal/abi.NoEscape", "internal/bytealg.MakeNoZero"], unfollowed := true, recurses := true, named := ["unicode/utf8.first", "unicode/utf8.acceptRanges", "internal/bytealg.MaxLen"], apart := false, laid := [("unicode/utf8.acceptRanges", laid_unicode_utf8_acceptRanges), ("unicode/utf8.first", laid_unicode_utf8_first)], narrowed := true }
def MsgPlacesUptoSaid : Prop := msgPlacesUptoRow.holds Tryd.pinned (OpenSpec.upto msgPlacesSpec)

/-- 'nomenclatorlaw04.MsgHeads', WHERE WHAT IT READS IS OF BULK AT MOST 1048576: true; the input reads as it did. -/
def msgHeadsUptoRow : OpenClaim := { program := "ytogojnlfglbefaadoor", sum := "5093a379b8292e65ffa270b538ed0ac86a7aec5f9255bd5ec44cc8264f010b58", func := "nomenclator/nomenclatorlaw04.MsgHeads", spec := "msgHeads", inPlace := ["internal/bytealg.CountString", "internal/bytealg.IndexByteString", "internal/bytealg.IndexString", "internal/abi.NoEscape", "internal/bytealg.MakeNoZero"], unfollowed := true, recurses := true, named := ["unicode/utf8.first", "unicode/utf8.acceptRanges", "internal/bytealg.MaxLen"], apart := false, laid := [("unicode/utf8.acceptRanges", laid_unicode_utf8_acceptRanges), ("unicode/utf8.first", laid_unicode_utf8_first)], narrowed := true }
def MsgHeadsUptoSaid : Prop := msgHeadsUptoRow.holds Tryd.pinned (OpenSpec.upto msgHeadsSpec)

/-- 'nomenclatorlaw04.MsgCapitals', WHERE WHAT IT READS IS OF BULK AT MOST 1048576: true; the input reads as it did. -/
def msgCapitalsUptoRow : OpenClaim := { program := "ytogojnlfglbefaadoor", sum := "5093a379b8292e65ffa270b538ed0ac86a7aec5f9255bd5ec44cc8264f010b58", func := "nomenclator/nomenclatorlaw04.MsgCapitals", spec := "msgCapitals", inPlace := ["internal/bytealg.CountString", "internal/bytealg.IndexByteString", "internal/bytealg.IndexString", "internal/abi.NoEscape", "internal/bytealg.MakeNoZero"], unfollowed := true, recurses := true, named := ["unicode/utf8.first", "unicode/utf8.acceptRanges", "internal/bytealg.MaxLen"], apart := false, laid := [("unicode/utf8.acceptRanges", laid_unicode_utf8_acceptRanges), ("unicode/utf8.first", laid_unicode_utf8_first)], narrowed := true }
def MsgCapitalsUptoSaid : Prop := msgCapitalsUptoRow.holds Tryd.pinned (OpenSpec.upto msgCapitalsSpec)

/-- 'nomenclatorlaw04.MsgMore', WHERE WHAT IT READS IS OF BULK AT MOST 1048576: true; the input reads as it did. -/
def msgMoreUptoRow : OpenClaim := { program := "ytogojnlfglbefaadoor", sum := "5093a379b8292e65ffa270b538ed0ac86a7aec5f9255bd5ec44cc8264f010b58", func := "nomenclator/nomenclatorlaw04.MsgMore", spec := "msgMore", inPlace := ["internal/bytealg.CountString", "internal/bytealg.IndexByteString", "internal/bytealg.IndexString", "internal/abi.NoEscape", "internal/bytealg.MakeNoZero"], unfollowed := true, recurses := true, named := ["unicode/utf8.first", "unicode/utf8.acceptRanges", "internal/bytealg.MaxLen"], apart := false, laid := [("unicode/utf8.acceptRanges", laid_unicode_utf8_acceptRanges), ("unicode/utf8.first", laid_unicode_utf8_first)], narrowed := true }
def MsgMoreUptoSaid : Prop := msgMoreUptoRow.holds Tryd.pinned (OpenSpec.upto msgMoreSpec)

/-- 'nomenclatorlaw04.MsgJunk', WHERE WHAT IT READS IS OF BULK AT MOST 1048576: true; the input reads as it did. -/
def msgJunkUptoRow : OpenClaim := { program := "ytogojnlfglbefaadoor", sum := "5093a379b8292e65ffa270b538ed0ac86a7aec5f9255bd5ec44cc8264f010b58", func := "nomenclator/nomenclatorlaw04.MsgJunk", spec := "msgJunk", inPlace := ["internal/bytealg.CountString", "internal/bytealg.IndexByteString", "internal/bytealg.IndexString", "internal/abi.NoEscape", "internal/bytealg.MakeNoZero"], unfollowed := true, recurses := true, named := ["unicode/utf8.first", "unicode/utf8.acceptRanges", "internal/bytealg.MaxLen"], apart := false, laid := [("unicode/utf8.acceptRanges", laid_unicode_utf8_acceptRanges), ("unicode/utf8.first", laid_unicode_utf8_first)], narrowed := true }
def MsgJunkUptoSaid : Prop := msgJunkUptoRow.holds Tryd.pinned (OpenSpec.upto msgJunkSpec)

/-- 'nomenclatorlaw04.MsgCounts', WHERE WHAT IT READS IS OF BULK AT MOST 1048576: true; the input reads as it did. -/
def msgCountsUptoRow : OpenClaim := { program := "ytogojnlfglbefaadoor", sum := "5093a379b8292e65ffa270b538ed0ac86a7aec5f9255bd5ec44cc8264f010b58", func := "nomenclator/nomenclatorlaw04.MsgCounts", spec := "msgCounts", inPlace := ["internal/bytealg.CountString", "internal/bytealg.IndexByteString", "internal/bytealg.IndexString", "internal/abi.NoEscape", "internal/bytealg.MakeNoZero"], unfollowed := true, recurses := true, named := ["unicode/utf8.first", "unicode/utf8.acceptRanges", "internal/bytealg.MaxLen"], apart := false, laid := [("unicode/utf8.acceptRanges", laid_unicode_utf8_acceptRanges), ("unicode/utf8.first", laid_unicode_utf8_first)], narrowed := true }
def MsgCountsUptoSaid : Prop := msgCountsUptoRow.holds Tryd.pinned (OpenSpec.upto msgCountsSpec)

end Rows
end Go.Proofs.YtogojnlfglbefaaDoor
