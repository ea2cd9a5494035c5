/-
  No cell of these rows narrows 'for every input' (looked for: loops, veiled, ifaces, maps, wideKeys, modest, calm, conditions, laid).
  DERIVED. THE GIVEN ROWS OF THIS SEAT. 4 by the template 'for every input the law returns true; each argument reads behind the call as it read before'; 0 by the template 'total and deterministic' (their statements: YtimgmpannlgfnaaTotals.lean).
  GIVEN WITH THE SEED: the statements are not yours to turn. If you find one false, say at which input.
  Laid BY PROGRAM, IN A SANDBOX (cutbox-rows.mjs): the forced cells as the released guide's own fill.sh prints them over the translation 2497e2f9133b8189… (all of the seat's roots in one cut). By AI agents, Wed Nov 11 2026. No macro, syntax, notation, axiom, sorry.
-/
import Derived.Test.YtimgmpannlgfnaaChecked
import GoSem.Claim
import GoSem.ClaimJoined
import GoSem.ClaimMapViews
import Derived.JoinedTies
import Derived.KernelRfl
namespace Go.Proofs.Ytimgmpannlgfnaa
/- THE CELL 'sum', in the pinned program and in every row, IS THE sha256 OF THE DUMP (.gsa) THAT YtimgmpannlgfnaaProg.lean LOADS. Nothing in Lean hashes anything: it is a label: what it is worth is what the hold of that sum in a sandbox is worth. -/
noncomputable def Try.pinned : Pinned := { name := "ytimgmpannlgfnaa", sum := "2497e2f9133b8189dade9ba1cb9cd02515d8e487784e307d933b8741401d11e6", checked := Try.checked }
namespace Rows
def none {H : Type} : Left H := { results := [], args := [] }

/-- 'laws.FnExactRemoveEdge': WHATEVER THE INPUT: true; the input reads as it did. -/
def fnExactRemoveEdgeSpec : ChangeSpec := { name := "fnExactRemoveEdge", fn := fun _ => fun
  | [d1, d2, d3] => { results := [.lit (.bool true)], args := [d1, d2, d3] }
  | _ => none }
def fnExactRemoveEdgeRow : OpenClaim := { program := "ytimgmpannlgfnaa", sum := "2497e2f9133b8189dade9ba1cb9cd02515d8e487784e307d933b8741401d11e6", func := "loop.example/g01084/laws.FnExactRemoveEdge", spec := "fnExactRemoveEdge", apart := false }
def FnExactRemoveEdgeSaid : Prop := fnExactRemoveEdgeRow.holds Try.pinned (OpenSpec.ofChange fnExactRemoveEdgeSpec)

/-- ITS FALSE NEIGHBOUR: 'it returns false'. Refute it at one input. -/
def fnExactRemoveEdgeWrong : ChangeSpec := { name := "fnExactRemoveEdge", fn := fun _ => fun
  | [d1, d2, d3] => { results := [.lit (.bool false)], args := [d1, d2, d3] }
  | _ => none }
def FnExactRemoveEdgeWrongFalsely : Prop := fnExactRemoveEdgeRow.holds Try.pinned (OpenSpec.ofChange fnExactRemoveEdgeWrong)

/-- 'laws.FnExactPermutePorts': WHATEVER THE INPUT: true; the input reads as it did. -/
def fnExactPermutePortsSpec : ChangeSpec := { name := "fnExactPermutePorts", fn := fun _ => fun
  | [d1, d2, d3] => { results := [.lit (.bool true)], args := [d1, d2, d3] }
  | _ => none }
def fnExactPermutePortsRow : OpenClaim := { program := "ytimgmpannlgfnaa", sum := "2497e2f9133b8189dade9ba1cb9cd02515d8e487784e307d933b8741401d11e6", func := "loop.example/g01084/laws.FnExactPermutePorts", spec := "fnExactPermutePorts", apart := false }
def FnExactPermutePortsSaid : Prop := fnExactPermutePortsRow.holds Try.pinned (OpenSpec.ofChange fnExactPermutePortsSpec)

/-- ITS FALSE NEIGHBOUR: 'it returns false'. Refute it at one input. -/
def fnExactPermutePortsWrong : ChangeSpec := { name := "fnExactPermutePorts", fn := fun _ => fun
  | [d1, d2, d3] => { results := [.lit (.bool false)], args := [d1, d2, d3] }
  | _ => none }
def FnExactPermutePortsWrongFalsely : Prop := fnExactPermutePortsRow.holds Try.pinned (OpenSpec.ofChange fnExactPermutePortsWrong)

/-- 'laws.FnExactRenumberNodes': WHATEVER THE INPUT: true; the input reads as it did. -/
def fnExactRenumberNodesSpec : ChangeSpec := { name := "fnExactRenumberNodes", fn := fun _ => fun
  | [d1, d2] => { results := [.lit (.bool true)], args := [d1, d2] }
  | _ => none }
def fnExactRenumberNodesRow : OpenClaim := { program := "ytimgmpannlgfnaa", sum := "2497e2f9133b8189dade9ba1cb9cd02515d8e487784e307d933b8741401d11e6", func := "loop.example/g01084/laws.FnExactRenumberNodes", spec := "fnExactRenumberNodes", apart := false }
def FnExactRenumberNodesSaid : Prop := fnExactRenumberNodesRow.holds Try.pinned (OpenSpec.ofChange fnExactRenumberNodesSpec)

/-- ITS FALSE NEIGHBOUR: 'it returns false'. Refute it at one input. -/
def fnExactRenumberNodesWrong : ChangeSpec := { name := "fnExactRenumberNodes", fn := fun _ => fun
  | [d1, d2] => { results := [.lit (.bool false)], args := [d1, d2] }
  | _ => none }
def FnExactRenumberNodesWrongFalsely : Prop := fnExactRenumberNodesRow.holds Try.pinned (OpenSpec.ofChange fnExactRenumberNodesWrong)

/-- 'laws.FnExactKeepNodes': WHATEVER THE INPUT: true; the input reads as it did. -/
def fnExactKeepNodesSpec : ChangeSpec := { name := "fnExactKeepNodes", fn := fun _ => fun
  | [d1, d2] => { results := [.lit (.bool true)], args := [d1, d2] }
  | _ => none }
def fnExactKeepNodesRow : OpenClaim := { program := "ytimgmpannlgfnaa", sum := "2497e2f9133b8189dade9ba1cb9cd02515d8e487784e307d933b8741401d11e6", func := "loop.example/g01084/laws.FnExactKeepNodes", spec := "fnExactKeepNodes", apart := false }
def FnExactKeepNodesSaid : Prop := fnExactKeepNodesRow.holds Try.pinned (OpenSpec.ofChange fnExactKeepNodesSpec)

/-- ITS FALSE NEIGHBOUR: 'it returns false'. Refute it at one input. -/
def fnExactKeepNodesWrong : ChangeSpec := { name := "fnExactKeepNodes", fn := fun _ => fun
  | [d1, d2] => { results := [.lit (.bool false)], args := [d1, d2] }
  | _ => none }
def FnExactKeepNodesWrongFalsely : Prop := fnExactKeepNodesRow.holds Try.pinned (OpenSpec.ofChange fnExactKeepNodesWrong)

/- THE SECOND FORM. 'bulk': how many values and letters a reading holds, each counted each time it is reached (what is shared counts as often as it is met; a slice's spare places count too). A statement '..UptoSaid' is the law's where the arguments, and the package variables that the reading takes, are together of bulk at most 1048576: NARROWER than '..Said'. Prove '..Said' where nothing that the law and all that it calls make is longer than what came in: it says more and counts as full. Else prove '..UptoSaid'. A law counts once. -/
mutual
def uptoBulk {H : Type} : DataW H → Nat
  | .lit (.string bytes) => bytes.length + 1
  | .lit _ => 1
  | .nil => 1
  | .ptr d => uptoBulk d + 1
  | .slice elems spare => uptoBulkAll elems + uptoBulkAll spare + 1
  | .agg parts => uptoBulkAll parts + 1
  | .iface _ d => uptoBulk d + 1
  | .map entries => uptoBulkEntries entries + 1
  | .held _ => 1
def uptoBulkAll {H : Type} : List (DataW H) → Nat
  | [] => 0
  | d :: r => uptoBulk d + uptoBulkAll r
def uptoBulkEntries {H : Type} : List (Lit × DataW H) → Nat
  | [] => 0
  | x :: r => uptoBulkEntry x + uptoBulkEntries r
def uptoBulkEntry {H : Type} : Lit × DataW H → Nat
  | (.string bytes, d) => bytes.length + uptoBulk d + 1
  | (_, d) => uptoBulk d + 1
 end
def uptoSmall : (H : Type) → List (DataW H) → Bool := fun _ ds => decide (uptoBulkAll ds ≤ 1048576)
def OpenSpec.upto (s : _root_.Go.ChangeSpec) : _root_.Go.OpenSpec := { _root_.Go.OpenSpec.ofChange s with cond := some uptoSmall }

/-- 'laws.FnExactRemoveEdge', WHERE WHAT IT READS IS OF BULK AT MOST 1048576: true; the input reads as it did. -/
def fnExactRemoveEdgeUptoRow : OpenClaim := { program := "ytimgmpannlgfnaa", sum := "2497e2f9133b8189dade9ba1cb9cd02515d8e487784e307d933b8741401d11e6", func := "loop.example/g01084/laws.FnExactRemoveEdge", spec := "fnExactRemoveEdge", apart := false, narrowed := true }
def FnExactRemoveEdgeUptoSaid : Prop := fnExactRemoveEdgeUptoRow.holds Try.pinned (OpenSpec.upto fnExactRemoveEdgeSpec)

/-- 'laws.FnExactPermutePorts', WHERE WHAT IT READS IS OF BULK AT MOST 1048576: true; the input reads as it did. -/
def fnExactPermutePortsUptoRow : OpenClaim := { program := "ytimgmpannlgfnaa", sum := "2497e2f9133b8189dade9ba1cb9cd02515d8e487784e307d933b8741401d11e6", func := "loop.example/g01084/laws.FnExactPermutePorts", spec := "fnExactPermutePorts", apart := false, narrowed := true }
def FnExactPermutePortsUptoSaid : Prop := fnExactPermutePortsUptoRow.holds Try.pinned (OpenSpec.upto fnExactPermutePortsSpec)

/-- 'laws.FnExactRenumberNodes', WHERE WHAT IT READS IS OF BULK AT MOST 1048576: true; the input reads as it did. -/
def fnExactRenumberNodesUptoRow : OpenClaim := { program := "ytimgmpannlgfnaa", sum := "2497e2f9133b8189dade9ba1cb9cd02515d8e487784e307d933b8741401d11e6", func := "loop.example/g01084/laws.FnExactRenumberNodes", spec := "fnExactRenumberNodes", apart := false, narrowed := true }
def FnExactRenumberNodesUptoSaid : Prop := fnExactRenumberNodesUptoRow.holds Try.pinned (OpenSpec.upto fnExactRenumberNodesSpec)

/-- 'laws.FnExactKeepNodes', WHERE WHAT IT READS IS OF BULK AT MOST 1048576: true; the input reads as it did. -/
def fnExactKeepNodesUptoRow : OpenClaim := { program := "ytimgmpannlgfnaa", sum := "2497e2f9133b8189dade9ba1cb9cd02515d8e487784e307d933b8741401d11e6", func := "loop.example/g01084/laws.FnExactKeepNodes", spec := "fnExactKeepNodes", apart := false, narrowed := true }
def FnExactKeepNodesUptoSaid : Prop := fnExactKeepNodesUptoRow.holds Try.pinned (OpenSpec.upto fnExactKeepNodesSpec)

end Rows
end Go.Proofs.Ytimgmpannlgfnaa
