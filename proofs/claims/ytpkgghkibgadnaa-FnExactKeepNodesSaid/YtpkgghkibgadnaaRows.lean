/-
  No cell of these rows narrows 'for every input' (looked for: loops, veiled, ifaces, maps, wideKeys, modest, calm, conditions, laid).
  DERIVED. THE GIVEN ROWS OF THIS SEAT. 4 by the template 'for every input the law returns true; each argument reads behind the call as it read before'; 0 by the template 'total and deterministic' (their statements: YtpkgghkibgadnaaTotals.lean).
  GIVEN WITH THE SEED: the statements are not yours to turn. If you find one false, say at which input.
  Laid BY PROGRAM, IN A SANDBOX (cutbox-rows.mjs): the forced cells as the released guide's own fill.sh prints them over the translation 79c116e5385808b3… (all of the seat's roots in one cut). By AI agents, Wed Nov 11 2026. No macro, syntax, notation, axiom, sorry.
-/
import Derived.Test.YtpkgghkibgadnaaChecked
import GoSem.Claim
import GoSem.ClaimJoined
import GoSem.ClaimMapViews
import Derived.JoinedTies
import Derived.KernelRfl
namespace Go.Proofs.Ytpkgghkibgadnaa
/- THE CELL 'sum', in the pinned program and in every row, IS THE sha256 OF THE DUMP (.gsa) THAT YtpkgghkibgadnaaProg.lean LOADS. Nothing in Lean hashes anything: it is a label: what it is worth is what the hold of that sum in a sandbox is worth. -/
noncomputable def Try.pinned : Pinned := { name := "ytpkgghkibgadnaa", sum := "79c116e5385808b34821c8ed3595aa425c88f9645da1ff7b3c97249e440e1af9", checked := Try.checked }
namespace Rows
def none {H : Type} : Left H := { results := [], args := [] }

/-- 'laws.FnExactKeepNodes': WHATEVER THE INPUT: true; the input reads as it did. -/
def fnExactKeepNodesSpec : ChangeSpec := { name := "fnExactKeepNodes", fn := fun _ => fun
  | [d1, d2] => { results := [.lit (.bool true)], args := [d1, d2] }
  | _ => none }
def fnExactKeepNodesRow : OpenClaim := { program := "ytpkgghkibgadnaa", sum := "79c116e5385808b34821c8ed3595aa425c88f9645da1ff7b3c97249e440e1af9", func := "loop.example/g01084/laws.FnExactKeepNodes", spec := "fnExactKeepNodes", apart := false }
def FnExactKeepNodesSaid : Prop := fnExactKeepNodesRow.holds Try.pinned (OpenSpec.ofChange fnExactKeepNodesSpec)

/-- ITS FALSE NEIGHBOUR: 'it returns false'. Refute it at one input. -/
def fnExactKeepNodesWrong : ChangeSpec := { name := "fnExactKeepNodes", fn := fun _ => fun
  | [d1, d2] => { results := [.lit (.bool false)], args := [d1, d2] }
  | _ => none }
def FnExactKeepNodesWrongFalsely : Prop := fnExactKeepNodesRow.holds Try.pinned (OpenSpec.ofChange fnExactKeepNodesWrong)

/-- 'laws.FnExactRegularTree': WHATEVER THE INPUT: true; the input reads as it did. -/
def fnExactRegularTreeSpec : ChangeSpec := { name := "fnExactRegularTree", fn := fun _ => fun
  | [d1, d2] => { results := [.lit (.bool true)], args := [d1, d2] }
  | _ => none }
def fnExactRegularTreeRow : OpenClaim := { program := "ytpkgghkibgadnaa", sum := "79c116e5385808b34821c8ed3595aa425c88f9645da1ff7b3c97249e440e1af9", func := "loop.example/g01084/laws.FnExactRegularTree", spec := "fnExactRegularTree", apart := false }
def FnExactRegularTreeSaid : Prop := fnExactRegularTreeRow.holds Try.pinned (OpenSpec.ofChange fnExactRegularTreeSpec)

/-- ITS FALSE NEIGHBOUR: 'it returns false'. Refute it at one input. -/
def fnExactRegularTreeWrong : ChangeSpec := { name := "fnExactRegularTree", fn := fun _ => fun
  | [d1, d2] => { results := [.lit (.bool false)], args := [d1, d2] }
  | _ => none }
def FnExactRegularTreeWrongFalsely : Prop := fnExactRegularTreeRow.holds Try.pinned (OpenSpec.ofChange fnExactRegularTreeWrong)

/-- 'laws.FnExactUnfoldNetwork': WHATEVER THE INPUT: true; the input reads as it did. -/
def fnExactUnfoldNetworkSpec : ChangeSpec := { name := "fnExactUnfoldNetwork", fn := fun _ => fun
  | [d1, d2, d3] => { results := [.lit (.bool true)], args := [d1, d2, d3] }
  | _ => none }
def fnExactUnfoldNetworkRow : OpenClaim := { program := "ytpkgghkibgadnaa", sum := "79c116e5385808b34821c8ed3595aa425c88f9645da1ff7b3c97249e440e1af9", func := "loop.example/g01084/laws.FnExactUnfoldNetwork", spec := "fnExactUnfoldNetwork", apart := false }
def FnExactUnfoldNetworkSaid : Prop := fnExactUnfoldNetworkRow.holds Try.pinned (OpenSpec.ofChange fnExactUnfoldNetworkSpec)

/-- ITS FALSE NEIGHBOUR: 'it returns false'. Refute it at one input. -/
def fnExactUnfoldNetworkWrong : ChangeSpec := { name := "fnExactUnfoldNetwork", fn := fun _ => fun
  | [d1, d2, d3] => { results := [.lit (.bool false)], args := [d1, d2, d3] }
  | _ => none }
def FnExactUnfoldNetworkWrongFalsely : Prop := fnExactUnfoldNetworkRow.holds Try.pinned (OpenSpec.ofChange fnExactUnfoldNetworkWrong)

/-- 'laws.FnExactAutomorphismCount': WHATEVER THE INPUT: true; the input reads as it did. -/
def fnExactAutomorphismCountSpec : ChangeSpec := { name := "fnExactAutomorphismCount", fn := fun _ => fun
  | [d] => { results := [.lit (.bool true)], args := [d] }
  | _ => none }
def fnExactAutomorphismCountRow : OpenClaim := { program := "ytpkgghkibgadnaa", sum := "79c116e5385808b34821c8ed3595aa425c88f9645da1ff7b3c97249e440e1af9", func := "loop.example/g01084/laws.FnExactAutomorphismCount", spec := "fnExactAutomorphismCount", apart := false }
def FnExactAutomorphismCountSaid : Prop := fnExactAutomorphismCountRow.holds Try.pinned (OpenSpec.ofChange fnExactAutomorphismCountSpec)

/-- ITS FALSE NEIGHBOUR: 'it returns false'. Refute it at one input. -/
def fnExactAutomorphismCountWrong : ChangeSpec := { name := "fnExactAutomorphismCount", fn := fun _ => fun
  | [d] => { results := [.lit (.bool false)], args := [d] }
  | _ => none }
def FnExactAutomorphismCountWrongFalsely : Prop := fnExactAutomorphismCountRow.holds Try.pinned (OpenSpec.ofChange fnExactAutomorphismCountWrong)

/- THE SECOND FORM. 'bulk': how many values and letters a reading holds, each counted each time it is reached (what is shared counts as often as it is met; a slice's spare places count too). A statement '..UptoSaid' is the law's where the arguments, and the package variables that the reading takes, are together of bulk at most 1048576: NARROWER than '..Said'. Prove '..Said' where nothing that the law and all that it calls make is longer than what came in: it says more and counts as full. Else prove '..UptoSaid'. A law counts once. -/
mutual
def uptoBulk {H : Type} : DataW H → Nat
  | .lit (.string bytes) => bytes.length + 1
  | .lit _ => 1
  | .nil => 1
  | .ptr d => uptoBulk d + 1
  | .slice elems spare => uptoBulkAll elems + uptoBulkAll spare + 1
  | .agg parts => uptoBulkAll parts + 1
  | .iface _ d => uptoBulk d + 1
  | .map entries => uptoBulkEntries entries + 1
  | .held _ => 1
def uptoBulkAll {H : Type} : List (DataW H) → Nat
  | [] => 0
  | d :: r => uptoBulk d + uptoBulkAll r
def uptoBulkEntries {H : Type} : List (Lit × DataW H) → Nat
  | [] => 0
  | x :: r => uptoBulkEntry x + uptoBulkEntries r
def uptoBulkEntry {H : Type} : Lit × DataW H → Nat
  | (.string bytes, d) => bytes.length + uptoBulk d + 1
  | (_, d) => uptoBulk d + 1
 end
def uptoSmall : (H : Type) → List (DataW H) → Bool := fun _ ds => decide (uptoBulkAll ds ≤ 1048576)
def OpenSpec.upto (s : _root_.Go.ChangeSpec) : _root_.Go.OpenSpec := { _root_.Go.OpenSpec.ofChange s with cond := some uptoSmall }

/-- 'laws.FnExactKeepNodes', WHERE WHAT IT READS IS OF BULK AT MOST 1048576: true; the input reads as it did. -/
def fnExactKeepNodesUptoRow : OpenClaim := { program := "ytpkgghkibgadnaa", sum := "79c116e5385808b34821c8ed3595aa425c88f9645da1ff7b3c97249e440e1af9", func := "loop.example/g01084/laws.FnExactKeepNodes", spec := "fnExactKeepNodes", apart := false, narrowed := true }
def FnExactKeepNodesUptoSaid : Prop := fnExactKeepNodesUptoRow.holds Try.pinned (OpenSpec.upto fnExactKeepNodesSpec)

/-- 'laws.FnExactRegularTree', WHERE WHAT IT READS IS OF BULK AT MOST 1048576: true; the input reads as it did. -/
def fnExactRegularTreeUptoRow : OpenClaim := { program := "ytpkgghkibgadnaa", sum := "79c116e5385808b34821c8ed3595aa425c88f9645da1ff7b3c97249e440e1af9", func := "loop.example/g01084/laws.FnExactRegularTree", spec := "fnExactRegularTree", apart := false, narrowed := true }
def FnExactRegularTreeUptoSaid : Prop := fnExactRegularTreeUptoRow.holds Try.pinned (OpenSpec.upto fnExactRegularTreeSpec)

/-- 'laws.FnExactUnfoldNetwork', WHERE WHAT IT READS IS OF BULK AT MOST 1048576: true; the input reads as it did. -/
def fnExactUnfoldNetworkUptoRow : OpenClaim := { program := "ytpkgghkibgadnaa", sum := "79c116e5385808b34821c8ed3595aa425c88f9645da1ff7b3c97249e440e1af9", func := "loop.example/g01084/laws.FnExactUnfoldNetwork", spec := "fnExactUnfoldNetwork", apart := false, narrowed := true }
def FnExactUnfoldNetworkUptoSaid : Prop := fnExactUnfoldNetworkUptoRow.holds Try.pinned (OpenSpec.upto fnExactUnfoldNetworkSpec)

/-- 'laws.FnExactAutomorphismCount', WHERE WHAT IT READS IS OF BULK AT MOST 1048576: true; the input reads as it did. -/
def fnExactAutomorphismCountUptoRow : OpenClaim := { program := "ytpkgghkibgadnaa", sum := "79c116e5385808b34821c8ed3595aa425c88f9645da1ff7b3c97249e440e1af9", func := "loop.example/g01084/laws.FnExactAutomorphismCount", spec := "fnExactAutomorphismCount", apart := false, narrowed := true }
def FnExactAutomorphismCountUptoSaid : Prop := fnExactAutomorphismCountUptoRow.holds Try.pinned (OpenSpec.upto fnExactAutomorphismCountSpec)

end Rows
end Go.Proofs.Ytpkgghkibgadnaa
