/-
  No cell of these rows narrows 'for every input' (looked for: loops, veiled, ifaces, maps, wideKeys, modest, calm, conditions, laid).
  DERIVED. THE GIVEN ROWS OF THIS SEAT. 4 by the template 'for every input the law returns true; each argument reads behind the call as it read before'; 0 by the template 'total and deterministic' (their statements: YtocmanmogfedoaaTotals.lean).
  GIVEN WITH THE SEED: the statements are not yours to turn. If you find one false, say at which input.
  Laid BY PROGRAM, IN A SANDBOX (cutbox-rows.mjs): the forced cells as the released guide's own fill.sh prints them over the translation 0fefd0aeb5ef7cef… (all of the seat's roots in one cut). By AI agents, Wed Nov 11 2026. No macro, syntax, notation, axiom, sorry.
-/
import Derived.Test.YtocmanmogfedoaaChecked
import GoSem.Claim
import GoSem.ClaimJoined
import GoSem.ClaimMapViews
import Derived.JoinedTies
import Derived.KernelRfl
namespace Go.Proofs.Ytocmanmogfedoaa
/- THE CELL 'sum', in the pinned program and in every row, IS THE sha256 OF THE DUMP (.gsa) THAT YtocmanmogfedoaaProg.lean LOADS. Nothing in Lean hashes anything: it is a label: what it is worth is what the hold of that sum in a sandbox is worth. -/
noncomputable def Try.pinned : Pinned := { name := "ytocmanmogfedoaa", sum := "0fefd0aeb5ef7cef47c3386574328197ec2125f865601fdbe919c375d88689bd", checked := Try.checked }
namespace Rows
def none {H : Type} : Left H := { results := [], args := [] }

/-- 'nomenclatorlaw16.ResolveLists': WHATEVER THE INPUT: true; the input reads as it did. -/
def resolveListsSpec : ChangeSpec := { name := "resolveLists", fn := fun _ => fun
  | [d1, d2, d3] => { results := [.lit (.bool true)], args := [d1, d2, d3] }
  | _ => none }
def resolveListsRow : OpenClaim := { program := "ytocmanmogfedoaa", sum := "0fefd0aeb5ef7cef47c3386574328197ec2125f865601fdbe919c375d88689bd", func := "nomenclator/nomenclatorlaw16.ResolveLists", spec := "resolveLists", apart := false }
def ResolveListsSaid : Prop := resolveListsRow.holds Try.pinned (OpenSpec.ofChange resolveListsSpec)

/-- ITS FALSE NEIGHBOUR: 'it returns false'. Refute it at one input. -/
def resolveListsWrong : ChangeSpec := { name := "resolveLists", fn := fun _ => fun
  | [d1, d2, d3] => { results := [.lit (.bool false)], args := [d1, d2, d3] }
  | _ => none }
def ResolveListsWrongFalsely : Prop := resolveListsRow.holds Try.pinned (OpenSpec.ofChange resolveListsWrong)

/-- 'nomenclatorlaw16.ResolveBoth': WHATEVER THE INPUT: true; the input reads as it did. -/
def resolveBothSpec : ChangeSpec := { name := "resolveBoth", fn := fun _ => fun
  | [d1, d2, d3] => { results := [.lit (.bool true)], args := [d1, d2, d3] }
  | _ => none }
def resolveBothRow : OpenClaim := { program := "ytocmanmogfedoaa", sum := "0fefd0aeb5ef7cef47c3386574328197ec2125f865601fdbe919c375d88689bd", func := "nomenclator/nomenclatorlaw16.ResolveBoth", spec := "resolveBoth", apart := false }
def ResolveBothSaid : Prop := resolveBothRow.holds Try.pinned (OpenSpec.ofChange resolveBothSpec)

/-- ITS FALSE NEIGHBOUR: 'it returns false'. Refute it at one input. -/
def resolveBothWrong : ChangeSpec := { name := "resolveBoth", fn := fun _ => fun
  | [d1, d2, d3] => { results := [.lit (.bool false)], args := [d1, d2, d3] }
  | _ => none }
def ResolveBothWrongFalsely : Prop := resolveBothRow.holds Try.pinned (OpenSpec.ofChange resolveBothWrong)

/-- 'nomenclatorlaw16.ResolveStops': WHATEVER THE INPUT: true; the input reads as it did. -/
def resolveStopsSpec : ChangeSpec := { name := "resolveStops", fn := fun _ => fun
  | [d1, d2] => { results := [.lit (.bool true)], args := [d1, d2] }
  | _ => none }
def resolveStopsRow : OpenClaim := { program := "ytocmanmogfedoaa", sum := "0fefd0aeb5ef7cef47c3386574328197ec2125f865601fdbe919c375d88689bd", func := "nomenclator/nomenclatorlaw16.ResolveStops", spec := "resolveStops", apart := false }
def ResolveStopsSaid : Prop := resolveStopsRow.holds Try.pinned (OpenSpec.ofChange resolveStopsSpec)

/-- ITS FALSE NEIGHBOUR: 'it returns false'. Refute it at one input. -/
def resolveStopsWrong : ChangeSpec := { name := "resolveStops", fn := fun _ => fun
  | [d1, d2] => { results := [.lit (.bool false)], args := [d1, d2] }
  | _ => none }
def ResolveStopsWrongFalsely : Prop := resolveStopsRow.holds Try.pinned (OpenSpec.ofChange resolveStopsWrong)

/-- 'nomenclatorlaw16.ResolveAsks': WHATEVER THE INPUT: true; the input reads as it did. -/
def resolveAsksSpec : ChangeSpec := { name := "resolveAsks", fn := fun _ => fun
  | [d1, d2] => { results := [.lit (.bool true)], args := [d1, d2] }
  | _ => none }
def resolveAsksRow : OpenClaim := { program := "ytocmanmogfedoaa", sum := "0fefd0aeb5ef7cef47c3386574328197ec2125f865601fdbe919c375d88689bd", func := "nomenclator/nomenclatorlaw16.ResolveAsks", spec := "resolveAsks", apart := false }
def ResolveAsksSaid : Prop := resolveAsksRow.holds Try.pinned (OpenSpec.ofChange resolveAsksSpec)

/-- ITS FALSE NEIGHBOUR: 'it returns false'. Refute it at one input. -/
def resolveAsksWrong : ChangeSpec := { name := "resolveAsks", fn := fun _ => fun
  | [d1, d2] => { results := [.lit (.bool false)], args := [d1, d2] }
  | _ => none }
def ResolveAsksWrongFalsely : Prop := resolveAsksRow.holds Try.pinned (OpenSpec.ofChange resolveAsksWrong)

/- THE SECOND FORM. 'bulk': how many values and letters a reading holds, each counted each time it is reached (what is shared counts as often as it is met; a slice's spare places count too). A statement '..UptoSaid' is the law's where the arguments, and the package variables that the reading takes, are together of bulk at most 1048576: NARROWER than '..Said'. Prove '..Said' where nothing that the law and all that it calls make is longer than what came in: it says more and counts as full. Else prove '..UptoSaid'. A law counts once. -/
mutual
def uptoBulk {H : Type} : DataW H → Nat
  | .lit (.string bytes) => bytes.length + 1
  | .lit _ => 1
  | .nil => 1
  | .ptr d => uptoBulk d + 1
  | .slice elems spare => uptoBulkAll elems + uptoBulkAll spare + 1
  | .agg parts => uptoBulkAll parts + 1
  | .iface _ d => uptoBulk d + 1
  | .map entries => uptoBulkEntries entries + 1
  | .held _ => 1
def uptoBulkAll {H : Type} : List (DataW H) → Nat
  | [] => 0
  | d :: r => uptoBulk d + uptoBulkAll r
def uptoBulkEntries {H : Type} : List (Lit × DataW H) → Nat
  | [] => 0
  | x :: r => uptoBulkEntry x + uptoBulkEntries r
def uptoBulkEntry {H : Type} : Lit × DataW H → Nat
  | (.string bytes, d) => bytes.length + uptoBulk d + 1
  | (_, d) => uptoBulk d + 1
 end
def uptoSmall : (H : Type) → List (DataW H) → Bool := fun _ ds => decide (uptoBulkAll ds ≤ 1048576)
def OpenSpec.upto (s : _root_.Go.ChangeSpec) : _root_.Go.OpenSpec := { _root_.Go.OpenSpec.ofChange s with cond := some uptoSmall }

/-- 'nomenclatorlaw16.ResolveLists', WHERE WHAT IT READS IS OF BULK AT MOST 1048576: true; the input reads as it did. -/
def resolveListsUptoRow : OpenClaim := { program := "ytocmanmogfedoaa", sum := "0fefd0aeb5ef7cef47c3386574328197ec2125f865601fdbe919c375d88689bd", func := "nomenclator/nomenclatorlaw16.ResolveLists", spec := "resolveLists", apart := false, narrowed := true }
def ResolveListsUptoSaid : Prop := resolveListsUptoRow.holds Try.pinned (OpenSpec.upto resolveListsSpec)

/-- 'nomenclatorlaw16.ResolveBoth', WHERE WHAT IT READS IS OF BULK AT MOST 1048576: true; the input reads as it did. -/
def resolveBothUptoRow : OpenClaim := { program := "ytocmanmogfedoaa", sum := "0fefd0aeb5ef7cef47c3386574328197ec2125f865601fdbe919c375d88689bd", func := "nomenclator/nomenclatorlaw16.ResolveBoth", spec := "resolveBoth", apart := false, narrowed := true }
def ResolveBothUptoSaid : Prop := resolveBothUptoRow.holds Try.pinned (OpenSpec.upto resolveBothSpec)

/-- 'nomenclatorlaw16.ResolveStops', WHERE WHAT IT READS IS OF BULK AT MOST 1048576: true; the input reads as it did. -/
def resolveStopsUptoRow : OpenClaim := { program := "ytocmanmogfedoaa", sum := "0fefd0aeb5ef7cef47c3386574328197ec2125f865601fdbe919c375d88689bd", func := "nomenclator/nomenclatorlaw16.ResolveStops", spec := "resolveStops", apart := false, narrowed := true }
def ResolveStopsUptoSaid : Prop := resolveStopsUptoRow.holds Try.pinned (OpenSpec.upto resolveStopsSpec)

/-- 'nomenclatorlaw16.ResolveAsks', WHERE WHAT IT READS IS OF BULK AT MOST 1048576: true; the input reads as it did. -/
def resolveAsksUptoRow : OpenClaim := { program := "ytocmanmogfedoaa", sum := "0fefd0aeb5ef7cef47c3386574328197ec2125f865601fdbe919c375d88689bd", func := "nomenclator/nomenclatorlaw16.ResolveAsks", spec := "resolveAsks", apart := false, narrowed := true }
def ResolveAsksUptoSaid : Prop := resolveAsksUptoRow.holds Try.pinned (OpenSpec.upto resolveAsksSpec)

end Rows
end Go.Proofs.Ytocmanmogfedoaa
