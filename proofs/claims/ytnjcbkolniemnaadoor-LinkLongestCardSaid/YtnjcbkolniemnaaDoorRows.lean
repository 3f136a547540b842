/-
  NARROWER THAN 'FOR EVERY INPUT', by the rows' own cells (each row's printed sentence says how): LinkNeighbours: laid · LinkLongest: laid · LinkServers: laid · LinkLocals: laid.
  DERIVED. THE GIVEN ROWS OF THIS SEAT. 4 by the template 'for every input the law returns true; each argument reads behind the call as it read before'; 0 by the template 'total and deterministic' (their statements: YtnjcbkolniemnaaDoorTotals.lean).
  GIVEN WITH THE SEED: the statements are not yours to turn. If you find one false, say at which input.
  Laid BY PROGRAM, IN A SANDBOX (cutbox-rows.mjs): the forced cells as the released guide's own fill.sh prints them over the translation bc380a69c550869a… (all of the seat's roots in one cut). By AI agents, Wed Nov 11 2026. No macro, syntax, notation, axiom, sorry.
-/
import Derived.Test.YtnjcbkolniemnaaDoorChecked
import GoSem.PinnedTables
import GoSem.Claim
import GoSem.ClaimJoined
import GoSem.ClaimMapViews
import Derived.JoinedTies
import Derived.KernelRfl
namespace Go.Proofs.YtnjcbkolniemnaaDoor
/- THE CELL 'sum', in the pinned program and in every row, IS THE sha256 OF THE DUMP (.gsa) THAT YtnjcbkolniemnaaDoorProg.lean LOADS. Nothing in Lean hashes anything: it is a label: what it is worth is what the hold of that sum in a sandbox is worth. -/
noncomputable def Tryd.pinned : Pinned := { name := "ytnjcbkolniemnaadoor", sum := "bc380a69c550869ab587a2e17923cf956e017db731fd2b240c3f0b964ecf06b3", checked := Tryd.checked }
namespace Rows
def none {H : Type} : Left H := { results := [], args := [] }

/- WHAT THE LISTED PACKAGE-LEVEL VARIABLES READ AS WHEN THE CALL BEGINS. Each datum BY PROGRAM (the guide's laid-datum.mjs) off the statement by which the dump's own 'gosem.cut.vars' lays the variable. In a bare row this is a premise. The card (YtnjcbkolniemnaaDoorCards.lean) ties it to the program's text. -/
def laid_unicode_utf8_acceptRanges {H : Type} : DataW H := .agg [.agg [.lit (.int .u8 128), .lit (.int .u8 191)], .agg [.lit (.int .u8 160), .lit (.int .u8 191)], .agg [.lit (.int .u8 128), .lit (.int .u8 159)], .agg [.lit (.int .u8 144), .lit (.int .u8 191)], .agg [.lit (.int .u8 128), .lit (.int .u8 143)], .agg [.lit (.int .u8 0), .lit (.int .u8 0)], .agg [.lit (.int .u8 0), .lit (.int .u8 0)], .agg [.lit (.int .u8 0), .lit (.int .u8 0)], .agg [.lit (.int .u8 0), .lit (.int .u8 0)], .agg [.lit (.int .u8 0), .lit (.int .u8 0)], .agg [.lit (.int .u8 0), .lit (.int .u8 0)], .agg [.lit (.int .u8 0), .lit (.int .u8 0)], .agg [.lit (.int .u8 0), .lit (.int .u8 0)], .agg [.lit (.int .u8 0), .lit (.int .u8 0)], .agg [.lit (.int .u8 0), .lit (.int .u8 0)], .agg [.lit (.int .u8 0), .lit (.int .u8 0)]]
/-- One of Go's own tables, pinned by name: the form's constant. -/
def laid_unicode_utf8_first : DataW Unit := Go.Pinned.utf8First

/-- 'nomenclatorlaw11.LinkNeighbours': WHATEVER THE INPUT: true; the input reads as it did. -/
def linkNeighboursSpec : ChangeSpec := { name := "linkNeighbours", fn := fun _ => fun
  | [d1, d2] => { results := [.lit (.bool true)], args := [d1, d2] }
  | _ => none }
def linkNeighboursRow : OpenClaim := { program := "ytnjcbkolniemnaadoor", sum := "bc380a69c550869ab587a2e17923cf956e017db731fd2b240c3f0b964ecf06b3", func := "nomenclator/nomenclatorlaw11.LinkNeighbours", spec := "linkNeighbours", inPlace := ["internal/bytealg.CountString", "internal/bytealg.IndexByteString", "internal/bytealg.IndexString", "slices.overlaps[rune]", "internal/abi.NoEscape", "internal/bytealg.MakeNoZero"], unfollowed := true, recurses := true, named := ["unicode/utf8.first", "unicode/utf8.acceptRanges", "internal/bytealg.MaxLen"], apart := false, laid := [("unicode/utf8.acceptRanges", laid_unicode_utf8_acceptRanges), ("unicode/utf8.first", laid_unicode_utf8_first)] }
def LinkNeighboursSaid : Prop := linkNeighboursRow.holds Tryd.pinned (OpenSpec.ofChange linkNeighboursSpec)

/-- ITS FALSE NEIGHBOUR: 'it returns false'. Refute it at one input. -/
def linkNeighboursWrong : ChangeSpec := { name := "linkNeighbours", fn := fun _ => fun
  | [d1, d2] => { results := [.lit (.bool false)], args := [d1, d2] }
  | _ => none }
def LinkNeighboursWrongFalsely : Prop := linkNeighboursRow.holds Tryd.pinned (OpenSpec.ofChange linkNeighboursWrong)

/-- 'nomenclatorlaw11.LinkLongest': WHATEVER THE INPUT: true; the input reads as it did. -/
def linkLongestSpec : ChangeSpec := { name := "linkLongest", fn := fun _ => fun
  | [d1, d2] => { results := [.lit (.bool true)], args := [d1, d2] }
  | _ => none }
def linkLongestRow : OpenClaim := { program := "ytnjcbkolniemnaadoor", sum := "bc380a69c550869ab587a2e17923cf956e017db731fd2b240c3f0b964ecf06b3", func := "nomenclator/nomenclatorlaw11.LinkLongest", spec := "linkLongest", inPlace := ["internal/bytealg.CountString", "internal/bytealg.IndexByteString", "internal/bytealg.IndexString", "slices.overlaps[rune]", "internal/abi.NoEscape", "internal/bytealg.MakeNoZero"], unfollowed := true, recurses := true, named := ["unicode/utf8.first", "unicode/utf8.acceptRanges", "internal/bytealg.MaxLen"], apart := false, laid := [("unicode/utf8.acceptRanges", laid_unicode_utf8_acceptRanges), ("unicode/utf8.first", laid_unicode_utf8_first)] }
def LinkLongestSaid : Prop := linkLongestRow.holds Tryd.pinned (OpenSpec.ofChange linkLongestSpec)

/-- ITS FALSE NEIGHBOUR: 'it returns false'. Refute it at one input. -/
def linkLongestWrong : ChangeSpec := { name := "linkLongest", fn := fun _ => fun
  | [d1, d2] => { results := [.lit (.bool false)], args := [d1, d2] }
  | _ => none }
def LinkLongestWrongFalsely : Prop := linkLongestRow.holds Tryd.pinned (OpenSpec.ofChange linkLongestWrong)

/-- 'nomenclatorlaw11.LinkServers': WHATEVER THE INPUT: true; the input reads as it did. -/
def linkServersSpec : ChangeSpec := { name := "linkServers", fn := fun _ => fun
  | [d1, d2] => { results := [.lit (.bool true)], args := [d1, d2] }
  | _ => none }
def linkServersRow : OpenClaim := { program := "ytnjcbkolniemnaadoor", sum := "bc380a69c550869ab587a2e17923cf956e017db731fd2b240c3f0b964ecf06b3", func := "nomenclator/nomenclatorlaw11.LinkServers", spec := "linkServers", inPlace := ["internal/bytealg.CountString", "internal/bytealg.IndexByteString", "internal/bytealg.IndexString", "slices.overlaps[rune]", "internal/abi.NoEscape", "internal/bytealg.MakeNoZero"], unfollowed := true, recurses := true, named := ["unicode/utf8.first", "unicode/utf8.acceptRanges", "internal/bytealg.MaxLen"], apart := false, laid := [("unicode/utf8.acceptRanges", laid_unicode_utf8_acceptRanges), ("unicode/utf8.first", laid_unicode_utf8_first)] }
def LinkServersSaid : Prop := linkServersRow.holds Tryd.pinned (OpenSpec.ofChange linkServersSpec)

/-- ITS FALSE NEIGHBOUR: 'it returns false'. Refute it at one input. -/
def linkServersWrong : ChangeSpec := { name := "linkServers", fn := fun _ => fun
  | [d1, d2] => { results := [.lit (.bool false)], args := [d1, d2] }
  | _ => none }
def LinkServersWrongFalsely : Prop := linkServersRow.holds Tryd.pinned (OpenSpec.ofChange linkServersWrong)

/-- 'nomenclatorlaw11.LinkLocals': WHATEVER THE INPUT: true; the input reads as it did. -/
def linkLocalsSpec : ChangeSpec := { name := "linkLocals", fn := fun _ => fun
  | [d1, d2] => { results := [.lit (.bool true)], args := [d1, d2] }
  | _ => none }
def linkLocalsRow : OpenClaim := { program := "ytnjcbkolniemnaadoor", sum := "bc380a69c550869ab587a2e17923cf956e017db731fd2b240c3f0b964ecf06b3", func := "nomenclator/nomenclatorlaw11.LinkLocals", spec := "linkLocals", inPlace := ["internal/bytealg.CountString", "internal/bytealg.IndexByteString", "internal/bytealg.IndexString", "slices.overlaps[rune]", "internal/abi.NoEscape", "internal/bytealg.MakeNoZero"], unfollowed := true, recurses := true, named := ["unicode/utf8.first", "unicode/utf8.acceptRanges", "internal/bytealg.MaxLen"], apart := false, laid := [("unicode/utf8.acceptRanges", laid_unicode_utf8_acceptRanges), ("unicode/utf8.first", laid_unicode_utf8_first)] }
def LinkLocalsSaid : Prop := linkLocalsRow.holds Tryd.pinned (OpenSpec.ofChange linkLocalsSpec)

/-- ITS FALSE NEIGHBOUR: 'it returns false'. Refute it at one input. -/
def linkLocalsWrong : ChangeSpec := { name := "linkLocals", fn := fun _ => fun
  | [d1, d2] => { results := [.lit (.bool false)], args := [d1, d2] }
  | _ => none }
def LinkLocalsWrongFalsely : Prop := linkLocalsRow.holds Tryd.pinned (OpenSpec.ofChange linkLocalsWrong)

/- THE SECOND FORM. 'bulk': how many values and letters a reading holds, each counted each time it is reached (what is shared counts as often as it is met; a slice's spare places count too). A statement '..UptoSaid' is the law's where the arguments, and the package variables that the reading takes, are together of bulk at most 1048576: NARROWER than '..Said'. Prove '..Said' where nothing that the law and all that it calls make is longer than what came in: it says more and counts as full. Else prove '..UptoSaid'. A law counts once. -/
mutual
def uptoBulk {H : Type} : DataW H → Nat
  | .lit (.string bytes) => bytes.length + 1
  | .lit _ => 1
  | .nil => 1
  | .ptr d => uptoBulk d + 1
  | .slice elems spare => uptoBulkAll elems + uptoBulkAll spare + 1
  | .agg parts => uptoBulkAll parts + 1
  | .iface _ d => uptoBulk d + 1
  | .map entries => uptoBulkEntries entries + 1
  | .held _ => 1
def uptoBulkAll {H : Type} : List (DataW H) → Nat
  | [] => 0
  | d :: r => uptoBulk d + uptoBulkAll r
def uptoBulkEntries {H : Type} : List (Lit × DataW H) → Nat
  | [] => 0
  | x :: r => uptoBulkEntry x + uptoBulkEntries r
def uptoBulkEntry {H : Type} : Lit × DataW H → Nat
  | (.string bytes, d) => bytes.length + uptoBulk d + 1
  | (_, d) => uptoBulk d + 1
 end
def uptoSmall : (H : Type) → List (DataW H) → Bool := fun _ ds => decide (uptoBulkAll ds ≤ 1048576)
def OpenSpec.upto (s : _root_.Go.ChangeSpec) : _root_.Go.OpenSpec := { _root_.Go.OpenSpec.ofChange s with cond := some uptoSmall }

/-- 'nomenclatorlaw11.LinkNeighbours', WHERE WHAT IT READS IS OF BULK AT MOST 1048576: true; the input reads as it did. -/
def linkNeighboursUptoRow : OpenClaim := { program := "ytnjcbkolniemnaadoor", sum := "bc380a69c550869ab587a2e17923cf956e017db731fd2b240c3f0b964ecf06b3", func := "nomenclator/nomenclatorlaw11.LinkNeighbours", spec := "linkNeighbours", inPlace := ["internal/bytealg.CountString", "internal/bytealg.IndexByteString", "internal/bytealg.IndexString", "slices.overlaps[rune]", "internal/abi.NoEscape", "internal/bytealg.MakeNoZero"], unfollowed := true, recurses := true, named := ["unicode/utf8.first", "unicode/utf8.acceptRanges", "internal/bytealg.MaxLen"], apart := false, laid := [("unicode/utf8.acceptRanges", laid_unicode_utf8_acceptRanges), ("unicode/utf8.first", laid_unicode_utf8_first)], narrowed := true }
def LinkNeighboursUptoSaid : Prop := linkNeighboursUptoRow.holds Tryd.pinned (OpenSpec.upto linkNeighboursSpec)

/-- 'nomenclatorlaw11.LinkLongest', WHERE WHAT IT READS IS OF BULK AT MOST 1048576: true; the input reads as it did. -/
def linkLongestUptoRow : OpenClaim := { program := "ytnjcbkolniemnaadoor", sum := "bc380a69c550869ab587a2e17923cf956e017db731fd2b240c3f0b964ecf06b3", func := "nomenclator/nomenclatorlaw11.LinkLongest", spec := "linkLongest", inPlace := ["internal/bytealg.CountString", "internal/bytealg.IndexByteString", "internal/bytealg.IndexString", "slices.overlaps[rune]", "internal/abi.NoEscape", "internal/bytealg.MakeNoZero"], unfollowed := true, recurses := true, named := ["unicode/utf8.first", "unicode/utf8.acceptRanges", "internal/bytealg.MaxLen"], apart := false, laid := [("unicode/utf8.acceptRanges", laid_unicode_utf8_acceptRanges), ("unicode/utf8.first", laid_unicode_utf8_first)], narrowed := true }
def LinkLongestUptoSaid : Prop := linkLongestUptoRow.holds Tryd.pinned (OpenSpec.upto linkLongestSpec)

/-- 'nomenclatorlaw11.LinkServers', WHERE WHAT IT READS IS OF BULK AT MOST 1048576: true; the input reads as it did. -/
def linkServersUptoRow : OpenClaim := { program := "ytnjcbkolniemnaadoor", sum := "bc380a69c550869ab587a2e17923cf956e017db731fd2b240c3f0b964ecf06b3", func := "nomenclator/nomenclatorlaw11.LinkServers", spec := "linkServers", inPlace := ["internal/bytealg.CountString", "internal/bytealg.IndexByteString", "internal/bytealg.IndexString", "slices.overlaps[rune]", "internal/abi.NoEscape", "internal/bytealg.MakeNoZero"], unfollowed := true, recurses := true, named := ["unicode/utf8.first", "unicode/utf8.acceptRanges", "internal/bytealg.MaxLen"], apart := false, laid := [("unicode/utf8.acceptRanges", laid_unicode_utf8_acceptRanges), ("unicode/utf8.first", laid_unicode_utf8_first)], narrowed := true }
def LinkServersUptoSaid : Prop := linkServersUptoRow.holds Tryd.pinned (OpenSpec.upto linkServersSpec)

/-- 'nomenclatorlaw11.LinkLocals', WHERE WHAT IT READS IS OF BULK AT MOST 1048576: true; the input reads as it did. -/
def linkLocalsUptoRow : OpenClaim := { program := "ytnjcbkolniemnaadoor", sum := "bc380a69c550869ab587a2e17923cf956e017db731fd2b240c3f0b964ecf06b3", func := "nomenclator/nomenclatorlaw11.LinkLocals", spec := "linkLocals", inPlace := ["internal/bytealg.CountString", "internal/bytealg.IndexByteString", "internal/bytealg.IndexString", "slices.overlaps[rune]", "internal/abi.NoEscape", "internal/bytealg.MakeNoZero"], unfollowed := true, recurses := true, named := ["unicode/utf8.first", "unicode/utf8.acceptRanges", "internal/bytealg.MaxLen"], apart := false, laid := [("unicode/utf8.acceptRanges", laid_unicode_utf8_acceptRanges), ("unicode/utf8.first", laid_unicode_utf8_first)], narrowed := true }
def LinkLocalsUptoSaid : Prop := linkLocalsUptoRow.holds Tryd.pinned (OpenSpec.upto linkLocalsSpec)

end Rows
end Go.Proofs.YtnjcbkolniemnaaDoor
