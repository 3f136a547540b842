/-
  NARROWER THAN 'FOR EVERY INPUT', by the rows' own cells (each row's printed sentence says how): MsgBack: laid · MsgMore: laid · TransMatches: laid · TransSends: laid · TransDraws: laid · TransJunk: laid · TransLong: laid · TransOthers: laid.
  DERIVED. THE GIVEN ROWS OF THIS SEAT. 8 by the template 'for every input the law returns true; each argument reads behind the call as it read before'; 0 by the template 'total and deterministic' (their statements: YtmijoidogjablaaDoorTotals.lean).
  GIVEN WITH THE SEED: the statements are not yours to turn. If you find one false, say at which input.
  Laid BY PROGRAM, IN A SANDBOX (cutbox-rows.mjs): the forced cells as the released guide's own fill.sh prints them over the translation 869bdb26d9d4971a… (all of the seat's roots in one cut). By AI agents, Wed Nov 11 2026. No macro, syntax, notation, axiom, sorry.
-/
import Derived.Test.YtmijoidogjablaaDoorChecked
import GoSem.PinnedTables
import GoSem.Claim
import GoSem.ClaimJoined
import GoSem.ClaimMapViews
import Derived.JoinedTies
import Derived.KernelRfl
namespace Go.Proofs.YtmijoidogjablaaDoor
/- THE CELL 'sum', in the pinned program and in every row, IS THE sha256 OF THE DUMP (.gsa) THAT YtmijoidogjablaaDoorProg.lean LOADS. Nothing in Lean hashes anything: it is a label: what it is worth is what the hold of that sum in a sandbox is worth. -/
noncomputable def Tryd.pinned : Pinned := { name := "ytmijoidogjablaadoor", sum := "869bdb26d9d4971a353c81329680d8c9d36fe1a52cbfb47cb34658087119ac15", checked := Tryd.checked }
namespace Rows
def none {H : Type} : Left H := { results := [], args := [] }

/- WHAT THE LISTED PACKAGE-LEVEL VARIABLES READ AS WHEN THE CALL BEGINS. Each datum BY PROGRAM (the guide's laid-datum.mjs) off the statement by which the dump's own 'gosem.cut.vars' lays the variable. In a bare row this is a premise. The card (YtmijoidogjablaaDoorCards.lean) ties it to the program's text. -/
def laid_unicode_utf8_acceptRanges {H : Type} : DataW H := .agg [.agg [.lit (.int .u8 128), .lit (.int .u8 191)], .agg [.lit (.int .u8 160), .lit (.int .u8 191)], .agg [.lit (.int .u8 128), .lit (.int .u8 159)], .agg [.lit (.int .u8 144), .lit (.int .u8 191)], .agg [.lit (.int .u8 128), .lit (.int .u8 143)], .agg [.lit (.int .u8 0), .lit (.int .u8 0)], .agg [.lit (.int .u8 0), .lit (.int .u8 0)], .agg [.lit (.int .u8 0), .lit (.int .u8 0)], .agg [.lit (.int .u8 0), .lit (.int .u8 0)], .agg [.lit (.int .u8 0), .lit (.int .u8 0)], .agg [.lit (.int .u8 0), .lit (.int .u8 0)], .agg [.lit (.int .u8 0), .lit (.int .u8 0)], .agg [.lit (.int .u8 0), .lit (.int .u8 0)], .agg [.lit (.int .u8 0), .lit (.int .u8 0)], .agg [.lit (.int .u8 0), .lit (.int .u8 0)], .agg [.lit (.int .u8 0), .lit (.int .u8 0)]]
/-- One of Go's own tables, pinned by name: the form's constant. -/
def laid_unicode_utf8_first : DataW Unit := Go.Pinned.utf8First

/-- 'nomenclatorlaw04.MsgBack': WHATEVER THE INPUT: true; the input reads as it did. -/
def msgBackSpec : ChangeSpec := { name := "msgBack", fn := fun _ => fun
  | [d1, d2, d3] => { results := [.lit (.bool true)], args := [d1, d2, d3] }
  | _ => none }
def msgBackRow : OpenClaim := { program := "ytmijoidogjablaadoor", sum := "869bdb26d9d4971a353c81329680d8c9d36fe1a52cbfb47cb34658087119ac15", func := "nomenclator/nomenclatorlaw04.MsgBack", spec := "msgBack", inPlace := ["internal/bytealg.CountString", "internal/bytealg.IndexByteString", "internal/bytealg.IndexString", "internal/abi.NoEscape", "internal/bytealg.MakeNoZero"], unfollowed := true, recurses := true, named := ["unicode/utf8.first", "unicode/utf8.acceptRanges", "internal/bytealg.MaxLen"], apart := false, laid := [("unicode/utf8.acceptRanges", laid_unicode_utf8_acceptRanges), ("unicode/utf8.first", laid_unicode_utf8_first)] }
def MsgBackSaid : Prop := msgBackRow.holds Tryd.pinned (OpenSpec.ofChange msgBackSpec)

/-- ITS FALSE NEIGHBOUR: 'it returns false'. Refute it at one input. -/
def msgBackWrong : ChangeSpec := { name := "msgBack", fn := fun _ => fun
  | [d1, d2, d3] => { results := [.lit (.bool false)], args := [d1, d2, d3] }
  | _ => none }
def MsgBackWrongFalsely : Prop := msgBackRow.holds Tryd.pinned (OpenSpec.ofChange msgBackWrong)

/-- 'nomenclatorlaw04.MsgMore': WHATEVER THE INPUT: true; the input reads as it did. -/
def msgMoreSpec : ChangeSpec := { name := "msgMore", fn := fun _ => fun
  | [d1, d2, d3] => { results := [.lit (.bool true)], args := [d1, d2, d3] }
  | _ => none }
def msgMoreRow : OpenClaim := { program := "ytmijoidogjablaadoor", sum := "869bdb26d9d4971a353c81329680d8c9d36fe1a52cbfb47cb34658087119ac15", func := "nomenclator/nomenclatorlaw04.MsgMore", spec := "msgMore", inPlace := ["internal/bytealg.CountString", "internal/bytealg.IndexByteString", "internal/bytealg.IndexString", "internal/abi.NoEscape", "internal/bytealg.MakeNoZero"], unfollowed := true, recurses := true, named := ["unicode/utf8.first", "unicode/utf8.acceptRanges", "internal/bytealg.MaxLen"], apart := false, laid := [("unicode/utf8.acceptRanges", laid_unicode_utf8_acceptRanges), ("unicode/utf8.first", laid_unicode_utf8_first)] }
def MsgMoreSaid : Prop := msgMoreRow.holds Tryd.pinned (OpenSpec.ofChange msgMoreSpec)

/-- ITS FALSE NEIGHBOUR: 'it returns false'. Refute it at one input. -/
def msgMoreWrong : ChangeSpec := { name := "msgMore", fn := fun _ => fun
  | [d1, d2, d3] => { results := [.lit (.bool false)], args := [d1, d2, d3] }
  | _ => none }
def MsgMoreWrongFalsely : Prop := msgMoreRow.holds Tryd.pinned (OpenSpec.ofChange msgMoreWrong)

/-- 'nomenclatorlaw13.TransMatches': WHATEVER THE INPUT: true; the input reads as it did. -/
def transMatchesSpec : ChangeSpec := { name := "transMatches", fn := fun _ => fun
  | [d1, d2, d3] => { results := [.lit (.bool true)], args := [d1, d2, d3] }
  | _ => none }
def transMatchesRow : OpenClaim := { program := "ytmijoidogjablaadoor", sum := "869bdb26d9d4971a353c81329680d8c9d36fe1a52cbfb47cb34658087119ac15", func := "nomenclator/nomenclatorlaw13.TransMatches", spec := "transMatches", inPlace := ["internal/bytealg.CountString", "internal/bytealg.IndexByteString", "internal/bytealg.IndexString", "internal/abi.NoEscape", "internal/bytealg.MakeNoZero"], unfollowed := true, recurses := true, named := ["unicode/utf8.first", "unicode/utf8.acceptRanges", "internal/bytealg.MaxLen"], apart := false, laid := [("unicode/utf8.acceptRanges", laid_unicode_utf8_acceptRanges), ("unicode/utf8.first", laid_unicode_utf8_first)] }
def TransMatchesSaid : Prop := transMatchesRow.holds Tryd.pinned (OpenSpec.ofChange transMatchesSpec)

/-- ITS FALSE NEIGHBOUR: 'it returns false'. Refute it at one input. -/
def transMatchesWrong : ChangeSpec := { name := "transMatches", fn := fun _ => fun
  | [d1, d2, d3] => { results := [.lit (.bool false)], args := [d1, d2, d3] }
  | _ => none }
def TransMatchesWrongFalsely : Prop := transMatchesRow.holds Tryd.pinned (OpenSpec.ofChange transMatchesWrong)

/-- 'nomenclatorlaw13.TransSends': WHATEVER THE INPUT: true; the input reads as it did. -/
def transSendsSpec : ChangeSpec := { name := "transSends", fn := fun _ => fun
  | [d1, d2, d3] => { results := [.lit (.bool true)], args := [d1, d2, d3] }
  | _ => none }
def transSendsRow : OpenClaim := { program := "ytmijoidogjablaadoor", sum := "869bdb26d9d4971a353c81329680d8c9d36fe1a52cbfb47cb34658087119ac15", func := "nomenclator/nomenclatorlaw13.TransSends", spec := "transSends", inPlace := ["internal/bytealg.CountString", "internal/bytealg.IndexByteString", "internal/bytealg.IndexString", "internal/abi.NoEscape", "internal/bytealg.MakeNoZero"], unfollowed := true, recurses := true, named := ["unicode/utf8.first", "unicode/utf8.acceptRanges", "internal/bytealg.MaxLen"], apart := false, laid := [("unicode/utf8.acceptRanges", laid_unicode_utf8_acceptRanges), ("unicode/utf8.first", laid_unicode_utf8_first)] }
def TransSendsSaid : Prop := transSendsRow.holds Tryd.pinned (OpenSpec.ofChange transSendsSpec)

/-- ITS FALSE NEIGHBOUR: 'it returns false'. Refute it at one input. -/
def transSendsWrong : ChangeSpec := { name := "transSends", fn := fun _ => fun
  | [d1, d2, d3] => { results := [.lit (.bool false)], args := [d1, d2, d3] }
  | _ => none }
def TransSendsWrongFalsely : Prop := transSendsRow.holds Tryd.pinned (OpenSpec.ofChange transSendsWrong)

/-- 'nomenclatorlaw13.TransDraws': WHATEVER THE INPUT: true; the input reads as it did. -/
def transDrawsSpec : ChangeSpec := { name := "transDraws", fn := fun _ => fun
  | [d] => { results := [.lit (.bool true)], args := [d] }
  | _ => none }
def transDrawsRow : OpenClaim := { program := "ytmijoidogjablaadoor", sum := "869bdb26d9d4971a353c81329680d8c9d36fe1a52cbfb47cb34658087119ac15", func := "nomenclator/nomenclatorlaw13.TransDraws", spec := "transDraws", inPlace := ["internal/bytealg.CountString", "internal/bytealg.IndexByteString", "internal/bytealg.IndexString", "internal/abi.NoEscape", "internal/bytealg.MakeNoZero"], unfollowed := true, recurses := true, named := ["unicode/utf8.first", "unicode/utf8.acceptRanges", "internal/bytealg.MaxLen"], apart := false, laid := [("unicode/utf8.acceptRanges", laid_unicode_utf8_acceptRanges), ("unicode/utf8.first", laid_unicode_utf8_first)] }
def TransDrawsSaid : Prop := transDrawsRow.holds Tryd.pinned (OpenSpec.ofChange transDrawsSpec)

/-- ITS FALSE NEIGHBOUR: 'it returns false'. Refute it at one input. -/
def transDrawsWrong : ChangeSpec := { name := "transDraws", fn := fun _ => fun
  | [d] => { results := [.lit (.bool false)], args := [d] }
  | _ => none }
def TransDrawsWrongFalsely : Prop := transDrawsRow.holds Tryd.pinned (OpenSpec.ofChange transDrawsWrong)

/-- 'nomenclatorlaw13.TransJunk': WHATEVER THE INPUT: true; the input reads as it did. -/
def transJunkSpec : ChangeSpec := { name := "transJunk", fn := fun _ => fun
  | [d1, d2] => { results := [.lit (.bool true)], args := [d1, d2] }
  | _ => none }
def transJunkRow : OpenClaim := { program := "ytmijoidogjablaadoor", sum := "869bdb26d9d4971a353c81329680d8c9d36fe1a52cbfb47cb34658087119ac15", func := "nomenclator/nomenclatorlaw13.TransJunk", spec := "transJunk", inPlace := ["internal/bytealg.CountString", "internal/bytealg.IndexByteString", "internal/bytealg.IndexString", "internal/abi.NoEscape", "internal/bytealg.MakeNoZero"], unfollowed := true, recurses := true, named := ["unicode/utf8.first", "unicode/utf8.acceptRanges", "internal/bytealg.MaxLen"], apart := false, laid := [("unicode/utf8.acceptRanges", laid_unicode_utf8_acceptRanges), ("unicode/utf8.first", laid_unicode_utf8_first)] }
def TransJunkSaid : Prop := transJunkRow.holds Tryd.pinned (OpenSpec.ofChange transJunkSpec)

/-- ITS FALSE NEIGHBOUR: 'it returns false'. Refute it at one input. -/
def transJunkWrong : ChangeSpec := { name := "transJunk", fn := fun _ => fun
  | [d1, d2] => { results := [.lit (.bool false)], args := [d1, d2] }
  | _ => none }
def TransJunkWrongFalsely : Prop := transJunkRow.holds Tryd.pinned (OpenSpec.ofChange transJunkWrong)

/-- 'nomenclatorlaw13.TransLong': WHATEVER THE INPUT: true; the input reads as it did. -/
def transLongSpec : ChangeSpec := { name := "transLong", fn := fun _ => fun
  | [d1, d2, d3] => { results := [.lit (.bool true)], args := [d1, d2, d3] }
  | _ => none }
def transLongRow : OpenClaim := { program := "ytmijoidogjablaadoor", sum := "869bdb26d9d4971a353c81329680d8c9d36fe1a52cbfb47cb34658087119ac15", func := "nomenclator/nomenclatorlaw13.TransLong", spec := "transLong", inPlace := ["internal/bytealg.CountString", "internal/bytealg.IndexByteString", "internal/bytealg.IndexString", "internal/abi.NoEscape", "internal/bytealg.MakeNoZero"], unfollowed := true, recurses := true, named := ["unicode/utf8.first", "unicode/utf8.acceptRanges", "internal/bytealg.MaxLen"], apart := false, laid := [("unicode/utf8.acceptRanges", laid_unicode_utf8_acceptRanges), ("unicode/utf8.first", laid_unicode_utf8_first)] }
def TransLongSaid : Prop := transLongRow.holds Tryd.pinned (OpenSpec.ofChange transLongSpec)

/-- ITS FALSE NEIGHBOUR: 'it returns false'. Refute it at one input. -/
def transLongWrong : ChangeSpec := { name := "transLong", fn := fun _ => fun
  | [d1, d2, d3] => { results := [.lit (.bool false)], args := [d1, d2, d3] }
  | _ => none }
def TransLongWrongFalsely : Prop := transLongRow.holds Tryd.pinned (OpenSpec.ofChange transLongWrong)

/-- 'nomenclatorlaw13.TransOthers': WHATEVER THE INPUT: true; the input reads as it did. -/
def transOthersSpec : ChangeSpec := { name := "transOthers", fn := fun _ => fun
  | [d1, d2, d3] => { results := [.lit (.bool true)], args := [d1, d2, d3] }
  | _ => none }
def transOthersRow : OpenClaim := { program := "ytmijoidogjablaadoor", sum := "869bdb26d9d4971a353c81329680d8c9d36fe1a52cbfb47cb34658087119ac15", func := "nomenclator/nomenclatorlaw13.TransOthers", spec := "transOthers", inPlace := ["internal/bytealg.CountString", "internal/bytealg.IndexByteString", "internal/bytealg.IndexString", "internal/abi.NoEscape", "internal/bytealg.MakeNoZero"], unfollowed := true, recurses := true, named := ["unicode/utf8.first", "unicode/utf8.acceptRanges", "internal/bytealg.MaxLen"], apart := false, laid := [("unicode/utf8.acceptRanges", laid_unicode_utf8_acceptRanges), ("unicode/utf8.first", laid_unicode_utf8_first)] }
def TransOthersSaid : Prop := transOthersRow.holds Tryd.pinned (OpenSpec.ofChange transOthersSpec)

/-- ITS FALSE NEIGHBOUR: 'it returns false'. Refute it at one input. -/
def transOthersWrong : ChangeSpec := { name := "transOthers", fn := fun _ => fun
  | [d1, d2, d3] => { results := [.lit (.bool false)], args := [d1, d2, d3] }
  | _ => none }
def TransOthersWrongFalsely : Prop := transOthersRow.holds Tryd.pinned (OpenSpec.ofChange transOthersWrong)

/- THE SECOND FORM. 'bulk': how many values and letters a reading holds, each counted each time it is reached (what is shared counts as often as it is met; a slice's spare places count too). A statement '..UptoSaid' is the law's where the arguments, and the package variables that the reading takes, are together of bulk at most 1048576: NARROWER than '..Said'. Prove '..Said' where nothing that the law and all that it calls make is longer than what came in: it says more and counts as full. Else prove '..UptoSaid'. A law counts once. -/
mutual
def uptoBulk {H : Type} : DataW H → Nat
  | .lit (.string bytes) => bytes.length + 1
  | .lit _ => 1
  | .nil => 1
  | .ptr d => uptoBulk d + 1
  | .slice elems spare => uptoBulkAll elems + uptoBulkAll spare + 1
  | .agg parts => uptoBulkAll parts + 1
  | .iface _ d => uptoBulk d + 1
  | .map entries => uptoBulkEntries entries + 1
  | .held _ => 1
def uptoBulkAll {H : Type} : List (DataW H) → Nat
  | [] => 0
  | d :: r => uptoBulk d + uptoBulkAll r
def uptoBulkEntries {H : Type} : List (Lit × DataW H) → Nat
  | [] => 0
  | x :: r => uptoBulkEntry x + uptoBulkEntries r
def uptoBulkEntry {H : Type} : Lit × DataW H → Nat
  | (.string bytes, d) => bytes.length + uptoBulk d + 1
  | (_, d) => uptoBulk d + 1
 end
def uptoSmall : (H : Type) → List (DataW H) → Bool := fun _ ds => decide (uptoBulkAll ds ≤ 1048576)
def OpenSpec.upto (s : _root_.Go.ChangeSpec) : _root_.Go.OpenSpec := { _root_.Go.OpenSpec.ofChange s with cond := some uptoSmall }

/-- 'nomenclatorlaw04.MsgBack', WHERE WHAT IT READS IS OF BULK AT MOST 1048576: true; the input reads as it did. -/
def msgBackUptoRow : OpenClaim := { program := "ytmijoidogjablaadoor", sum := "869bdb26d9d4971a353c81329680d8c9d36fe1a52cbfb47cb34658087119ac15", func := "nomenclator/nomenclatorlaw04.MsgBack", spec := "msgBack", inPlace := ["internal/bytealg.CountString", "internal/bytealg.IndexByteString", "internal/bytealg.IndexString", "internal/abi.NoEscape", "internal/bytealg.MakeNoZero"], unfollowed := true, recurses := true, named := ["unicode/utf8.first", "unicode/utf8.acceptRanges", "internal/bytealg.MaxLen"], apart := false, laid := [("unicode/utf8.acceptRanges", laid_unicode_utf8_acceptRanges), ("unicode/utf8.first", laid_unicode_utf8_first)], narrowed := true }
def MsgBackUptoSaid : Prop := msgBackUptoRow.holds Tryd.pinned (OpenSpec.upto msgBackSpec)

/-- 'nomenclatorlaw04.MsgMore', WHERE WHAT IT READS IS OF BULK AT MOST 1048576: true; the input reads as it did. -/
def msgMoreUptoRow : OpenClaim := { program := "ytmijoidogjablaadoor", sum := "869bdb26d9d4971a353c81329680d8c9d36fe1a52cbfb47cb34658087119ac15", func := "nomenclator/nomenclatorlaw04.MsgMore", spec := "msgMore", inPlace := ["internal/bytealg.CountString", "internal/bytealg.IndexByteString", "internal/bytealg.IndexString", "internal/abi.NoEscape", "internal/bytealg.MakeNoZero"], unfollowed := true, recurses := true, named := ["unicode/utf8.first", "unicode/utf8.acceptRanges", "internal/bytealg.MaxLen"], apart := false, laid := [("unicode/utf8.acceptRanges", laid_unicode_utf8_acceptRanges), ("unicode/utf8.first", laid_unicode_utf8_first)], narrowed := true }
def MsgMoreUptoSaid : Prop := msgMoreUptoRow.holds Tryd.pinned (OpenSpec.upto msgMoreSpec)

/-- 'nomenclatorlaw13.TransMatches', WHERE WHAT IT READS IS OF BULK AT MOST 1048576: true; the input reads as it did. -/
def transMatchesUptoRow : OpenClaim := { program := "ytmijoidogjablaadoor", sum := "869bdb26d9d4971a353c81329680d8c9d36fe1a52cbfb47cb34658087119ac15", func := "nomenclator/nomenclatorlaw13.TransMatches", spec := "transMatches", inPlace := ["internal/bytealg.CountString", "internal/bytealg.IndexByteString", "internal/bytealg.IndexString", "internal/abi.NoEscape", "internal/bytealg.MakeNoZero"], unfollowed := true, recurses := true, named := ["unicode/utf8.first", "unicode/utf8.acceptRanges", "internal/bytealg.MaxLen"], apart := false, laid := [("unicode/utf8.acceptRanges", laid_unicode_utf8_acceptRanges), ("unicode/utf8.first", laid_unicode_utf8_first)], narrowed := true }
def TransMatchesUptoSaid : Prop := transMatchesUptoRow.holds Tryd.pinned (OpenSpec.upto transMatchesSpec)

/-- 'nomenclatorlaw13.TransSends', WHERE WHAT IT READS IS OF BULK AT MOST 1048576: true; the input reads as it did. -/
def transSendsUptoRow : OpenClaim := { program := "ytmijoidogjablaadoor", sum := "869bdb26d9d4971a353c81329680d8c9d36fe1a52cbfb47cb34658087119ac15", func := "nomenclator/nomenclatorlaw13.TransSends", spec := "transSends", inPlace := ["internal/bytealg.CountString", "internal/bytealg.IndexByteString", "internal/bytealg.IndexString", "internal/abi.NoEscape", "internal/bytealg.MakeNoZero"], unfollowed := true, recurses := true, named := ["unicode/utf8.first", "unicode/utf8.acceptRanges", "internal/bytealg.MaxLen"], apart := false, laid := [("unicode/utf8.acceptRanges", laid_unicode_utf8_acceptRanges), ("unicode/utf8.first", laid_unicode_utf8_first)], narrowed := true }
def TransSendsUptoSaid : Prop := transSendsUptoRow.holds Tryd.pinned (OpenSpec.upto transSendsSpec)

/-- 'nomenclatorlaw13.TransDraws', WHERE WHAT IT READS IS OF BULK AT MOST 1048576: true; the input reads as it did. -/
def transDrawsUptoRow : OpenClaim := { program := "ytmijoidogjablaadoor", sum := "869bdb26d9d4971a353c81329680d8c9d36fe1a52cbfb47cb34658087119ac15", func := "nomenclator/nomenclatorlaw13.TransDraws", spec := "transDraws", inPlace := ["internal/bytealg.CountString", "internal/bytealg.IndexByteString", "internal/bytealg.IndexString", "internal/abi.NoEscape", "internal/bytealg.MakeNoZero"], unfollowed := true, recurses := true, named := ["unicode/utf8.first", "unicode/utf8.acceptRanges", "internal/bytealg.MaxLen"], apart := false, laid := [("unicode/utf8.acceptRanges", laid_unicode_utf8_acceptRanges), ("unicode/utf8.first", laid_unicode_utf8_first)], narrowed := true }
def TransDrawsUptoSaid : Prop := transDrawsUptoRow.holds Tryd.pinned (OpenSpec.upto transDrawsSpec)

/-- 'nomenclatorlaw13.TransJunk', WHERE WHAT IT READS IS OF BULK AT MOST 1048576: true; the input reads as it did. -/
def transJunkUptoRow : OpenClaim := { program := "ytmijoidogjablaadoor", sum := "869bdb26d9d4971a353c81329680d8c9d36fe1a52cbfb47cb34658087119ac15", func := "nomenclator/nomenclatorlaw13.TransJunk", spec := "transJunk", inPlace := ["internal/bytealg.CountString", "internal/bytealg.IndexByteString", "internal/bytealg.IndexString", "internal/abi.NoEscape", "internal/bytealg.MakeNoZero"], unfollowed := true, recurses := true, named := ["unicode/utf8.first", "unicode/utf8.acceptRanges", "internal/bytealg.MaxLen"], apart := false, laid := [("unicode/utf8.acceptRanges", laid_unicode_utf8_acceptRanges), ("unicode/utf8.first", laid_unicode_utf8_first)], narrowed := true }
def TransJunkUptoSaid : Prop := transJunkUptoRow.holds Tryd.pinned (OpenSpec.upto transJunkSpec)

/-- 'nomenclatorlaw13.TransLong', WHERE WHAT IT READS IS OF BULK AT MOST 1048576: true; the input reads as it did. -/
def transLongUptoRow : OpenClaim := { program := "ytmijoidogjablaadoor", sum := "869bdb26d9d4971a353c81329680d8c9d36fe1a52cbfb47cb34658087119ac15", func := "nomenclator/nomenclatorlaw13.TransLong", spec := "transLong", inPlace := ["internal/bytealg.CountString", "internal/bytealg.IndexByteString", "internal/bytealg.IndexString", "internal/abi.NoEscape", "internal/bytealg.MakeNoZero"], unfollowed := true, recurses := true, named := ["unicode/utf8.first", "unicode/utf8.acceptRanges", "internal/bytealg.MaxLen"], apart := false, laid := [("unicode/utf8.acceptRanges", laid_unicode_utf8_acceptRanges), ("unicode/utf8.first", laid_unicode_utf8_first)], narrowed := true }
def TransLongUptoSaid : Prop := transLongUptoRow.holds Tryd.pinned (OpenSpec.upto transLongSpec)

/-- 'nomenclatorlaw13.TransOthers', WHERE WHAT IT READS IS OF BULK AT MOST 1048576: true; the input reads as it did. -/
def transOthersUptoRow : OpenClaim := { program := "ytmijoidogjablaadoor", sum := "869bdb26d9d4971a353c81329680d8c9d36fe1a52cbfb47cb34658087119ac15", func := "nomenclator/nomenclatorlaw13.TransOthers", spec := "transOthers", inPlace := ["internal/bytealg.CountString", "internal/bytealg.IndexByteString", "internal/bytealg.IndexString", "internal/abi.NoEscape", "internal/bytealg.MakeNoZero"], unfollowed := true, recurses := true, named := ["unicode/utf8.first", "unicode/utf8.acceptRanges", "internal/bytealg.MaxLen"], apart := false, laid := [("unicode/utf8.acceptRanges", laid_unicode_utf8_acceptRanges), ("unicode/utf8.first", laid_unicode_utf8_first)], narrowed := true }
def TransOthersUptoSaid : Prop := transOthersUptoRow.holds Tryd.pinned (OpenSpec.upto transOthersSpec)

end Rows
end Go.Proofs.YtmijoidogjablaaDoor
