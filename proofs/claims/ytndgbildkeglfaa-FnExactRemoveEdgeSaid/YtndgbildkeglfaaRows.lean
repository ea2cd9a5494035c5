/-
  No cell of these rows narrows 'for every input' (looked for: loops, veiled, ifaces, maps, wideKeys, modest, calm, conditions, laid).
  DERIVED. THE GIVEN ROWS OF THIS SEAT. 16 by the template 'for every input the law returns true; each argument reads behind the call as it read before'; 0 by the template 'total and deterministic' (their statements: YtndgbildkeglfaaTotals.lean).
  GIVEN WITH THE SEED: the statements are not yours to turn. If you find one false, say at which input.
  Laid BY PROGRAM, IN A SANDBOX (cutbox-rows.mjs): the forced cells as the released guide's own fill.sh prints them over the translation 4c019d9696081b65… (all of the seat's roots in one cut). By AI agents, Wed Nov 11 2026. No macro, syntax, notation, axiom, sorry.
-/
import Derived.Test.YtndgbildkeglfaaChecked
import GoSem.Claim
import GoSem.ClaimJoined
import GoSem.ClaimMapViews
import Derived.JoinedTies
import Derived.KernelRfl
namespace Go.Proofs.Ytndgbildkeglfaa
/- THE CELL 'sum', in the pinned program and in every row, IS THE sha256 OF THE DUMP (.gsa) THAT YtndgbildkeglfaaProg.lean LOADS. Nothing in Lean hashes anything: it is a label: what it is worth is what the hold of that sum in a sandbox is worth. -/
noncomputable def Try.pinned : Pinned := { name := "ytndgbildkeglfaa", sum := "4c019d9696081b658d6f1bbf66e76dd0cb0ed7f1a4ccf50759becbbb045be340", checked := Try.checked }
namespace Rows
def none {H : Type} : Left H := { results := [], args := [] }

/-- 'laws.FnExactIsNetwork': WHATEVER THE INPUT: true; the input reads as it did. -/
def fnExactIsNetworkSpec : ChangeSpec := { name := "fnExactIsNetwork", fn := fun _ => fun
  | [d] => { results := [.lit (.bool true)], args := [d] }
  | _ => none }
def fnExactIsNetworkRow : OpenClaim := { program := "ytndgbildkeglfaa", sum := "4c019d9696081b658d6f1bbf66e76dd0cb0ed7f1a4ccf50759becbbb045be340", func := "loop.example/g01084/laws.FnExactIsNetwork", spec := "fnExactIsNetwork", apart := false }
def FnExactIsNetworkSaid : Prop := fnExactIsNetworkRow.holds Try.pinned (OpenSpec.ofChange fnExactIsNetworkSpec)

/-- ITS FALSE NEIGHBOUR: 'it returns false'. Refute it at one input. -/
def fnExactIsNetworkWrong : ChangeSpec := { name := "fnExactIsNetwork", fn := fun _ => fun
  | [d] => { results := [.lit (.bool false)], args := [d] }
  | _ => none }
def FnExactIsNetworkWrongFalsely : Prop := fnExactIsNetworkRow.holds Try.pinned (OpenSpec.ofChange fnExactIsNetworkWrong)

/-- 'laws.FnExactIsSimple': WHATEVER THE INPUT: true; the input reads as it did. -/
def fnExactIsSimpleSpec : ChangeSpec := { name := "fnExactIsSimple", fn := fun _ => fun
  | [d] => { results := [.lit (.bool true)], args := [d] }
  | _ => none }
def fnExactIsSimpleRow : OpenClaim := { program := "ytndgbildkeglfaa", sum := "4c019d9696081b658d6f1bbf66e76dd0cb0ed7f1a4ccf50759becbbb045be340", func := "loop.example/g01084/laws.FnExactIsSimple", spec := "fnExactIsSimple", apart := false }
def FnExactIsSimpleSaid : Prop := fnExactIsSimpleRow.holds Try.pinned (OpenSpec.ofChange fnExactIsSimpleSpec)

/-- ITS FALSE NEIGHBOUR: 'it returns false'. Refute it at one input. -/
def fnExactIsSimpleWrong : ChangeSpec := { name := "fnExactIsSimple", fn := fun _ => fun
  | [d] => { results := [.lit (.bool false)], args := [d] }
  | _ => none }
def FnExactIsSimpleWrongFalsely : Prop := fnExactIsSimpleRow.holds Try.pinned (OpenSpec.ofChange fnExactIsSimpleWrong)

/-- 'laws.FnExactIsRegular': WHATEVER THE INPUT: true; the input reads as it did. -/
def fnExactIsRegularSpec : ChangeSpec := { name := "fnExactIsRegular", fn := fun _ => fun
  | [d1, d2] => { results := [.lit (.bool true)], args := [d1, d2] }
  | _ => none }
def fnExactIsRegularRow : OpenClaim := { program := "ytndgbildkeglfaa", sum := "4c019d9696081b658d6f1bbf66e76dd0cb0ed7f1a4ccf50759becbbb045be340", func := "loop.example/g01084/laws.FnExactIsRegular", spec := "fnExactIsRegular", apart := false }
def FnExactIsRegularSaid : Prop := fnExactIsRegularRow.holds Try.pinned (OpenSpec.ofChange fnExactIsRegularSpec)

/-- ITS FALSE NEIGHBOUR: 'it returns false'. Refute it at one input. -/
def fnExactIsRegularWrong : ChangeSpec := { name := "fnExactIsRegular", fn := fun _ => fun
  | [d1, d2] => { results := [.lit (.bool false)], args := [d1, d2] }
  | _ => none }
def FnExactIsRegularWrongFalsely : Prop := fnExactIsRegularRow.holds Try.pinned (OpenSpec.ofChange fnExactIsRegularWrong)

/-- 'laws.FnExactDegreesOf': WHATEVER THE INPUT: true; the input reads as it did. -/
def fnExactDegreesOfSpec : ChangeSpec := { name := "fnExactDegreesOf", fn := fun _ => fun
  | [d] => { results := [.lit (.bool true)], args := [d] }
  | _ => none }
def fnExactDegreesOfRow : OpenClaim := { program := "ytndgbildkeglfaa", sum := "4c019d9696081b658d6f1bbf66e76dd0cb0ed7f1a4ccf50759becbbb045be340", func := "loop.example/g01084/laws.FnExactDegreesOf", spec := "fnExactDegreesOf", apart := false }
def FnExactDegreesOfSaid : Prop := fnExactDegreesOfRow.holds Try.pinned (OpenSpec.ofChange fnExactDegreesOfSpec)

/-- ITS FALSE NEIGHBOUR: 'it returns false'. Refute it at one input. -/
def fnExactDegreesOfWrong : ChangeSpec := { name := "fnExactDegreesOf", fn := fun _ => fun
  | [d] => { results := [.lit (.bool false)], args := [d] }
  | _ => none }
def FnExactDegreesOfWrongFalsely : Prop := fnExactDegreesOfRow.holds Try.pinned (OpenSpec.ofChange fnExactDegreesOfWrong)

/-- 'laws.FnExactOtherEnd': WHATEVER THE INPUT: true; the input reads as it did. -/
def fnExactOtherEndSpec : ChangeSpec := { name := "fnExactOtherEnd", fn := fun _ => fun
  | [d1, d2, d3] => { results := [.lit (.bool true)], args := [d1, d2, d3] }
  | _ => none }
def fnExactOtherEndRow : OpenClaim := { program := "ytndgbildkeglfaa", sum := "4c019d9696081b658d6f1bbf66e76dd0cb0ed7f1a4ccf50759becbbb045be340", func := "loop.example/g01084/laws.FnExactOtherEnd", spec := "fnExactOtherEnd", apart := false }
def FnExactOtherEndSaid : Prop := fnExactOtherEndRow.holds Try.pinned (OpenSpec.ofChange fnExactOtherEndSpec)

/-- ITS FALSE NEIGHBOUR: 'it returns false'. Refute it at one input. -/
def fnExactOtherEndWrong : ChangeSpec := { name := "fnExactOtherEnd", fn := fun _ => fun
  | [d1, d2, d3] => { results := [.lit (.bool false)], args := [d1, d2, d3] }
  | _ => none }
def FnExactOtherEndWrongFalsely : Prop := fnExactOtherEndRow.holds Try.pinned (OpenSpec.ofChange fnExactOtherEndWrong)

/-- 'laws.FnExactNeighboursOf': WHATEVER THE INPUT: true; the input reads as it did. -/
def fnExactNeighboursOfSpec : ChangeSpec := { name := "fnExactNeighboursOf", fn := fun _ => fun
  | [d1, d2] => { results := [.lit (.bool true)], args := [d1, d2] }
  | _ => none }
def fnExactNeighboursOfRow : OpenClaim := { program := "ytndgbildkeglfaa", sum := "4c019d9696081b658d6f1bbf66e76dd0cb0ed7f1a4ccf50759becbbb045be340", func := "loop.example/g01084/laws.FnExactNeighboursOf", spec := "fnExactNeighboursOf", apart := false }
def FnExactNeighboursOfSaid : Prop := fnExactNeighboursOfRow.holds Try.pinned (OpenSpec.ofChange fnExactNeighboursOfSpec)

/-- ITS FALSE NEIGHBOUR: 'it returns false'. Refute it at one input. -/
def fnExactNeighboursOfWrong : ChangeSpec := { name := "fnExactNeighboursOf", fn := fun _ => fun
  | [d1, d2] => { results := [.lit (.bool false)], args := [d1, d2] }
  | _ => none }
def FnExactNeighboursOfWrongFalsely : Prop := fnExactNeighboursOfRow.holds Try.pinned (OpenSpec.ofChange fnExactNeighboursOfWrong)

/-- 'laws.FnExactEdgesOf': WHATEVER THE INPUT: true; the input reads as it did. -/
def fnExactEdgesOfSpec : ChangeSpec := { name := "fnExactEdgesOf", fn := fun _ => fun
  | [d] => { results := [.lit (.bool true)], args := [d] }
  | _ => none }
def fnExactEdgesOfRow : OpenClaim := { program := "ytndgbildkeglfaa", sum := "4c019d9696081b658d6f1bbf66e76dd0cb0ed7f1a4ccf50759becbbb045be340", func := "loop.example/g01084/laws.FnExactEdgesOf", spec := "fnExactEdgesOf", apart := false }
def FnExactEdgesOfSaid : Prop := fnExactEdgesOfRow.holds Try.pinned (OpenSpec.ofChange fnExactEdgesOfSpec)

/-- ITS FALSE NEIGHBOUR: 'it returns false'. Refute it at one input. -/
def fnExactEdgesOfWrong : ChangeSpec := { name := "fnExactEdgesOf", fn := fun _ => fun
  | [d] => { results := [.lit (.bool false)], args := [d] }
  | _ => none }
def FnExactEdgesOfWrongFalsely : Prop := fnExactEdgesOfRow.holds Try.pinned (OpenSpec.ofChange fnExactEdgesOfWrong)

/-- 'laws.FnExactUnionOf': WHATEVER THE INPUT: true; the input reads as it did. -/
def fnExactUnionOfSpec : ChangeSpec := { name := "fnExactUnionOf", fn := fun _ => fun
  | [d1, d2] => { results := [.lit (.bool true)], args := [d1, d2] }
  | _ => none }
def fnExactUnionOfRow : OpenClaim := { program := "ytndgbildkeglfaa", sum := "4c019d9696081b658d6f1bbf66e76dd0cb0ed7f1a4ccf50759becbbb045be340", func := "loop.example/g01084/laws.FnExactUnionOf", spec := "fnExactUnionOf", apart := false }
def FnExactUnionOfSaid : Prop := fnExactUnionOfRow.holds Try.pinned (OpenSpec.ofChange fnExactUnionOfSpec)

/-- ITS FALSE NEIGHBOUR: 'it returns false'. Refute it at one input. -/
def fnExactUnionOfWrong : ChangeSpec := { name := "fnExactUnionOf", fn := fun _ => fun
  | [d1, d2] => { results := [.lit (.bool false)], args := [d1, d2] }
  | _ => none }
def FnExactUnionOfWrongFalsely : Prop := fnExactUnionOfRow.holds Try.pinned (OpenSpec.ofChange fnExactUnionOfWrong)

/-- 'laws.FnExactAddEdge': WHATEVER THE INPUT: true; the input reads as it did. -/
def fnExactAddEdgeSpec : ChangeSpec := { name := "fnExactAddEdge", fn := fun _ => fun
  | [d1, d2, d3] => { results := [.lit (.bool true)], args := [d1, d2, d3] }
  | _ => none }
def fnExactAddEdgeRow : OpenClaim := { program := "ytndgbildkeglfaa", sum := "4c019d9696081b658d6f1bbf66e76dd0cb0ed7f1a4ccf50759becbbb045be340", func := "loop.example/g01084/laws.FnExactAddEdge", spec := "fnExactAddEdge", apart := false }
def FnExactAddEdgeSaid : Prop := fnExactAddEdgeRow.holds Try.pinned (OpenSpec.ofChange fnExactAddEdgeSpec)

/-- ITS FALSE NEIGHBOUR: 'it returns false'. Refute it at one input. -/
def fnExactAddEdgeWrong : ChangeSpec := { name := "fnExactAddEdge", fn := fun _ => fun
  | [d1, d2, d3] => { results := [.lit (.bool false)], args := [d1, d2, d3] }
  | _ => none }
def FnExactAddEdgeWrongFalsely : Prop := fnExactAddEdgeRow.holds Try.pinned (OpenSpec.ofChange fnExactAddEdgeWrong)

/-- 'laws.FnExactAddStub': WHATEVER THE INPUT: true; the input reads as it did. -/
def fnExactAddStubSpec : ChangeSpec := { name := "fnExactAddStub", fn := fun _ => fun
  | [d1, d2] => { results := [.lit (.bool true)], args := [d1, d2] }
  | _ => none }
def fnExactAddStubRow : OpenClaim := { program := "ytndgbildkeglfaa", sum := "4c019d9696081b658d6f1bbf66e76dd0cb0ed7f1a4ccf50759becbbb045be340", func := "loop.example/g01084/laws.FnExactAddStub", spec := "fnExactAddStub", apart := false }
def FnExactAddStubSaid : Prop := fnExactAddStubRow.holds Try.pinned (OpenSpec.ofChange fnExactAddStubSpec)

/-- ITS FALSE NEIGHBOUR: 'it returns false'. Refute it at one input. -/
def fnExactAddStubWrong : ChangeSpec := { name := "fnExactAddStub", fn := fun _ => fun
  | [d1, d2] => { results := [.lit (.bool false)], args := [d1, d2] }
  | _ => none }
def FnExactAddStubWrongFalsely : Prop := fnExactAddStubRow.holds Try.pinned (OpenSpec.ofChange fnExactAddStubWrong)

/-- 'laws.FnExactRemoveEdge': WHATEVER THE INPUT: true; the input reads as it did. -/
def fnExactRemoveEdgeSpec : ChangeSpec := { name := "fnExactRemoveEdge", fn := fun _ => fun
  | [d1, d2, d3] => { results := [.lit (.bool true)], args := [d1, d2, d3] }
  | _ => none }
def fnExactRemoveEdgeRow : OpenClaim := { program := "ytndgbildkeglfaa", sum := "4c019d9696081b658d6f1bbf66e76dd0cb0ed7f1a4ccf50759becbbb045be340", func := "loop.example/g01084/laws.FnExactRemoveEdge", spec := "fnExactRemoveEdge", apart := false }
def FnExactRemoveEdgeSaid : Prop := fnExactRemoveEdgeRow.holds Try.pinned (OpenSpec.ofChange fnExactRemoveEdgeSpec)

/-- ITS FALSE NEIGHBOUR: 'it returns false'. Refute it at one input. -/
def fnExactRemoveEdgeWrong : ChangeSpec := { name := "fnExactRemoveEdge", fn := fun _ => fun
  | [d1, d2, d3] => { results := [.lit (.bool false)], args := [d1, d2, d3] }
  | _ => none }
def FnExactRemoveEdgeWrongFalsely : Prop := fnExactRemoveEdgeRow.holds Try.pinned (OpenSpec.ofChange fnExactRemoveEdgeWrong)

/-- 'laws.FnExactPermutePorts': WHATEVER THE INPUT: true; the input reads as it did. -/
def fnExactPermutePortsSpec : ChangeSpec := { name := "fnExactPermutePorts", fn := fun _ => fun
  | [d1, d2, d3] => { results := [.lit (.bool true)], args := [d1, d2, d3] }
  | _ => none }
def fnExactPermutePortsRow : OpenClaim := { program := "ytndgbildkeglfaa", sum := "4c019d9696081b658d6f1bbf66e76dd0cb0ed7f1a4ccf50759becbbb045be340", func := "loop.example/g01084/laws.FnExactPermutePorts", spec := "fnExactPermutePorts", apart := false }
def FnExactPermutePortsSaid : Prop := fnExactPermutePortsRow.holds Try.pinned (OpenSpec.ofChange fnExactPermutePortsSpec)

/-- ITS FALSE NEIGHBOUR: 'it returns false'. Refute it at one input. -/
def fnExactPermutePortsWrong : ChangeSpec := { name := "fnExactPermutePorts", fn := fun _ => fun
  | [d1, d2, d3] => { results := [.lit (.bool false)], args := [d1, d2, d3] }
  | _ => none }
def FnExactPermutePortsWrongFalsely : Prop := fnExactPermutePortsRow.holds Try.pinned (OpenSpec.ofChange fnExactPermutePortsWrong)

/-- 'laws.FnExactRenumberNodes': WHATEVER THE INPUT: true; the input reads as it did. -/
def fnExactRenumberNodesSpec : ChangeSpec := { name := "fnExactRenumberNodes", fn := fun _ => fun
  | [d1, d2] => { results := [.lit (.bool true)], args := [d1, d2] }
  | _ => none }
def fnExactRenumberNodesRow : OpenClaim := { program := "ytndgbildkeglfaa", sum := "4c019d9696081b658d6f1bbf66e76dd0cb0ed7f1a4ccf50759becbbb045be340", func := "loop.example/g01084/laws.FnExactRenumberNodes", spec := "fnExactRenumberNodes", apart := false }
def FnExactRenumberNodesSaid : Prop := fnExactRenumberNodesRow.holds Try.pinned (OpenSpec.ofChange fnExactRenumberNodesSpec)

/-- ITS FALSE NEIGHBOUR: 'it returns false'. Refute it at one input. -/
def fnExactRenumberNodesWrong : ChangeSpec := { name := "fnExactRenumberNodes", fn := fun _ => fun
  | [d1, d2] => { results := [.lit (.bool false)], args := [d1, d2] }
  | _ => none }
def FnExactRenumberNodesWrongFalsely : Prop := fnExactRenumberNodesRow.holds Try.pinned (OpenSpec.ofChange fnExactRenumberNodesWrong)

/-- 'laws.FnExactKeepNodes': WHATEVER THE INPUT: true; the input reads as it did. -/
def fnExactKeepNodesSpec : ChangeSpec := { name := "fnExactKeepNodes", fn := fun _ => fun
  | [d1, d2] => { results := [.lit (.bool true)], args := [d1, d2] }
  | _ => none }
def fnExactKeepNodesRow : OpenClaim := { program := "ytndgbildkeglfaa", sum := "4c019d9696081b658d6f1bbf66e76dd0cb0ed7f1a4ccf50759becbbb045be340", func := "loop.example/g01084/laws.FnExactKeepNodes", spec := "fnExactKeepNodes", apart := false }
def FnExactKeepNodesSaid : Prop := fnExactKeepNodesRow.holds Try.pinned (OpenSpec.ofChange fnExactKeepNodesSpec)

/-- ITS FALSE NEIGHBOUR: 'it returns false'. Refute it at one input. -/
def fnExactKeepNodesWrong : ChangeSpec := { name := "fnExactKeepNodes", fn := fun _ => fun
  | [d1, d2] => { results := [.lit (.bool false)], args := [d1, d2] }
  | _ => none }
def FnExactKeepNodesWrongFalsely : Prop := fnExactKeepNodesRow.holds Try.pinned (OpenSpec.ofChange fnExactKeepNodesWrong)

/-- 'laws.FnExactWithIds': WHATEVER THE INPUT: true; the input reads as it did. -/
def fnExactWithIdsSpec : ChangeSpec := { name := "fnExactWithIds", fn := fun _ => fun
  | [d1, d2] => { results := [.lit (.bool true)], args := [d1, d2] }
  | _ => none }
def fnExactWithIdsRow : OpenClaim := { program := "ytndgbildkeglfaa", sum := "4c019d9696081b658d6f1bbf66e76dd0cb0ed7f1a4ccf50759becbbb045be340", func := "loop.example/g01084/laws.FnExactWithIds", spec := "fnExactWithIds", apart := false }
def FnExactWithIdsSaid : Prop := fnExactWithIdsRow.holds Try.pinned (OpenSpec.ofChange fnExactWithIdsSpec)

/-- ITS FALSE NEIGHBOUR: 'it returns false'. Refute it at one input. -/
def fnExactWithIdsWrong : ChangeSpec := { name := "fnExactWithIds", fn := fun _ => fun
  | [d1, d2] => { results := [.lit (.bool false)], args := [d1, d2] }
  | _ => none }
def FnExactWithIdsWrongFalsely : Prop := fnExactWithIdsRow.holds Try.pinned (OpenSpec.ofChange fnExactWithIdsWrong)

/-- 'laws.FnExactWithInputs': WHATEVER THE INPUT: true; the input reads as it did. -/
def fnExactWithInputsSpec : ChangeSpec := { name := "fnExactWithInputs", fn := fun _ => fun
  | [d1, d2] => { results := [.lit (.bool true)], args := [d1, d2] }
  | _ => none }
def fnExactWithInputsRow : OpenClaim := { program := "ytndgbildkeglfaa", sum := "4c019d9696081b658d6f1bbf66e76dd0cb0ed7f1a4ccf50759becbbb045be340", func := "loop.example/g01084/laws.FnExactWithInputs", spec := "fnExactWithInputs", apart := false }
def FnExactWithInputsSaid : Prop := fnExactWithInputsRow.holds Try.pinned (OpenSpec.ofChange fnExactWithInputsSpec)

/-- ITS FALSE NEIGHBOUR: 'it returns false'. Refute it at one input. -/
def fnExactWithInputsWrong : ChangeSpec := { name := "fnExactWithInputs", fn := fun _ => fun
  | [d1, d2] => { results := [.lit (.bool false)], args := [d1, d2] }
  | _ => none }
def FnExactWithInputsWrongFalsely : Prop := fnExactWithInputsRow.holds Try.pinned (OpenSpec.ofChange fnExactWithInputsWrong)

/- THE SECOND FORM. 'bulk': how many values and letters a reading holds, each counted each time it is reached (what is shared counts as often as it is met; a slice's spare places count too). A statement '..UptoSaid' is the law's where the arguments, and the package variables that the reading takes, are together of bulk at most 1048576: NARROWER than '..Said'. Prove '..Said' where nothing that the law and all that it calls make is longer than what came in: it says more and counts as full. Else prove '..UptoSaid'. A law counts once. -/
mutual
def uptoBulk {H : Type} : DataW H → Nat
  | .lit (.string bytes) => bytes.length + 1
  | .lit _ => 1
  | .nil => 1
  | .ptr d => uptoBulk d + 1
  | .slice elems spare => uptoBulkAll elems + uptoBulkAll spare + 1
  | .agg parts => uptoBulkAll parts + 1
  | .iface _ d => uptoBulk d + 1
  | .map entries => uptoBulkEntries entries + 1
  | .held _ => 1
def uptoBulkAll {H : Type} : List (DataW H) → Nat
  | [] => 0
  | d :: r => uptoBulk d + uptoBulkAll r
def uptoBulkEntries {H : Type} : List (Lit × DataW H) → Nat
  | [] => 0
  | x :: r => uptoBulkEntry x + uptoBulkEntries r
def uptoBulkEntry {H : Type} : Lit × DataW H → Nat
  | (.string bytes, d) => bytes.length + uptoBulk d + 1
  | (_, d) => uptoBulk d + 1
 end
def uptoSmall : (H : Type) → List (DataW H) → Bool := fun _ ds => decide (uptoBulkAll ds ≤ 1048576)
def OpenSpec.upto (s : _root_.Go.ChangeSpec) : _root_.Go.OpenSpec := { _root_.Go.OpenSpec.ofChange s with cond := some uptoSmall }

/-- 'laws.FnExactIsNetwork', WHERE WHAT IT READS IS OF BULK AT MOST 1048576: true; the input reads as it did. -/
def fnExactIsNetworkUptoRow : OpenClaim := { program := "ytndgbildkeglfaa", sum := "4c019d9696081b658d6f1bbf66e76dd0cb0ed7f1a4ccf50759becbbb045be340", func := "loop.example/g01084/laws.FnExactIsNetwork", spec := "fnExactIsNetwork", apart := false, narrowed := true }
def FnExactIsNetworkUptoSaid : Prop := fnExactIsNetworkUptoRow.holds Try.pinned (OpenSpec.upto fnExactIsNetworkSpec)

/-- 'laws.FnExactIsSimple', WHERE WHAT IT READS IS OF BULK AT MOST 1048576: true; the input reads as it did. -/
def fnExactIsSimpleUptoRow : OpenClaim := { program := "ytndgbildkeglfaa", sum := "4c019d9696081b658d6f1bbf66e76dd0cb0ed7f1a4ccf50759becbbb045be340", func := "loop.example/g01084/laws.FnExactIsSimple", spec := "fnExactIsSimple", apart := false, narrowed := true }
def FnExactIsSimpleUptoSaid : Prop := fnExactIsSimpleUptoRow.holds Try.pinned (OpenSpec.upto fnExactIsSimpleSpec)

/-- 'laws.FnExactIsRegular', WHERE WHAT IT READS IS OF BULK AT MOST 1048576: true; the input reads as it did. -/
def fnExactIsRegularUptoRow : OpenClaim := { program := "ytndgbildkeglfaa", sum := "4c019d9696081b658d6f1bbf66e76dd0cb0ed7f1a4ccf50759becbbb045be340", func := "loop.example/g01084/laws.FnExactIsRegular", spec := "fnExactIsRegular", apart := false, narrowed := true }
def FnExactIsRegularUptoSaid : Prop := fnExactIsRegularUptoRow.holds Try.pinned (OpenSpec.upto fnExactIsRegularSpec)

/-- 'laws.FnExactDegreesOf', WHERE WHAT IT READS IS OF BULK AT MOST 1048576: true; the input reads as it did. -/
def fnExactDegreesOfUptoRow : OpenClaim := { program := "ytndgbildkeglfaa", sum := "4c019d9696081b658d6f1bbf66e76dd0cb0ed7f1a4ccf50759becbbb045be340", func := "loop.example/g01084/laws.FnExactDegreesOf", spec := "fnExactDegreesOf", apart := false, narrowed := true }
def FnExactDegreesOfUptoSaid : Prop := fnExactDegreesOfUptoRow.holds Try.pinned (OpenSpec.upto fnExactDegreesOfSpec)

/-- 'laws.FnExactOtherEnd', WHERE WHAT IT READS IS OF BULK AT MOST 1048576: true; the input reads as it did. -/
def fnExactOtherEndUptoRow : OpenClaim := { program := "ytndgbildkeglfaa", sum := "4c019d9696081b658d6f1bbf66e76dd0cb0ed7f1a4ccf50759becbbb045be340", func := "loop.example/g01084/laws.FnExactOtherEnd", spec := "fnExactOtherEnd", apart := false, narrowed := true }
def FnExactOtherEndUptoSaid : Prop := fnExactOtherEndUptoRow.holds Try.pinned (OpenSpec.upto fnExactOtherEndSpec)

/-- 'laws.FnExactNeighboursOf', WHERE WHAT IT READS IS OF BULK AT MOST 1048576: true; the input reads as it did. -/
def fnExactNeighboursOfUptoRow : OpenClaim := { program := "ytndgbildkeglfaa", sum := "4c019d9696081b658d6f1bbf66e76dd0cb0ed7f1a4ccf50759becbbb045be340", func := "loop.example/g01084/laws.FnExactNeighboursOf", spec := "fnExactNeighboursOf", apart := false, narrowed := true }
def FnExactNeighboursOfUptoSaid : Prop := fnExactNeighboursOfUptoRow.holds Try.pinned (OpenSpec.upto fnExactNeighboursOfSpec)

/-- 'laws.FnExactEdgesOf', WHERE WHAT IT READS IS OF BULK AT MOST 1048576: true; the input reads as it did. -/
def fnExactEdgesOfUptoRow : OpenClaim := { program := "ytndgbildkeglfaa", sum := "4c019d9696081b658d6f1bbf66e76dd0cb0ed7f1a4ccf50759becbbb045be340", func := "loop.example/g01084/laws.FnExactEdgesOf", spec := "fnExactEdgesOf", apart := false, narrowed := true }
def FnExactEdgesOfUptoSaid : Prop := fnExactEdgesOfUptoRow.holds Try.pinned (OpenSpec.upto fnExactEdgesOfSpec)

/-- 'laws.FnExactUnionOf', WHERE WHAT IT READS IS OF BULK AT MOST 1048576: true; the input reads as it did. -/
def fnExactUnionOfUptoRow : OpenClaim := { program := "ytndgbildkeglfaa", sum := "4c019d9696081b658d6f1bbf66e76dd0cb0ed7f1a4ccf50759becbbb045be340", func := "loop.example/g01084/laws.FnExactUnionOf", spec := "fnExactUnionOf", apart := false, narrowed := true }
def FnExactUnionOfUptoSaid : Prop := fnExactUnionOfUptoRow.holds Try.pinned (OpenSpec.upto fnExactUnionOfSpec)

/-- 'laws.FnExactAddEdge', WHERE WHAT IT READS IS OF BULK AT MOST 1048576: true; the input reads as it did. -/
def fnExactAddEdgeUptoRow : OpenClaim := { program := "ytndgbildkeglfaa", sum := "4c019d9696081b658d6f1bbf66e76dd0cb0ed7f1a4ccf50759becbbb045be340", func := "loop.example/g01084/laws.FnExactAddEdge", spec := "fnExactAddEdge", apart := false, narrowed := true }
def FnExactAddEdgeUptoSaid : Prop := fnExactAddEdgeUptoRow.holds Try.pinned (OpenSpec.upto fnExactAddEdgeSpec)

/-- 'laws.FnExactAddStub', WHERE WHAT IT READS IS OF BULK AT MOST 1048576: true; the input reads as it did. -/
def fnExactAddStubUptoRow : OpenClaim := { program := "ytndgbildkeglfaa", sum := "4c019d9696081b658d6f1bbf66e76dd0cb0ed7f1a4ccf50759becbbb045be340", func := "loop.example/g01084/laws.FnExactAddStub", spec := "fnExactAddStub", apart := false, narrowed := true }
def FnExactAddStubUptoSaid : Prop := fnExactAddStubUptoRow.holds Try.pinned (OpenSpec.upto fnExactAddStubSpec)

/-- 'laws.FnExactRemoveEdge', WHERE WHAT IT READS IS OF BULK AT MOST 1048576: true; the input reads as it did. -/
def fnExactRemoveEdgeUptoRow : OpenClaim := { program := "ytndgbildkeglfaa", sum := "4c019d9696081b658d6f1bbf66e76dd0cb0ed7f1a4ccf50759becbbb045be340", func := "loop.example/g01084/laws.FnExactRemoveEdge", spec := "fnExactRemoveEdge", apart := false, narrowed := true }
def FnExactRemoveEdgeUptoSaid : Prop := fnExactRemoveEdgeUptoRow.holds Try.pinned (OpenSpec.upto fnExactRemoveEdgeSpec)

/-- 'laws.FnExactPermutePorts', WHERE WHAT IT READS IS OF BULK AT MOST 1048576: true; the input reads as it did. -/
def fnExactPermutePortsUptoRow : OpenClaim := { program := "ytndgbildkeglfaa", sum := "4c019d9696081b658d6f1bbf66e76dd0cb0ed7f1a4ccf50759becbbb045be340", func := "loop.example/g01084/laws.FnExactPermutePorts", spec := "fnExactPermutePorts", apart := false, narrowed := true }
def FnExactPermutePortsUptoSaid : Prop := fnExactPermutePortsUptoRow.holds Try.pinned (OpenSpec.upto fnExactPermutePortsSpec)

/-- 'laws.FnExactRenumberNodes', WHERE WHAT IT READS IS OF BULK AT MOST 1048576: true; the input reads as it did. -/
def fnExactRenumberNodesUptoRow : OpenClaim := { program := "ytndgbildkeglfaa", sum := "4c019d9696081b658d6f1bbf66e76dd0cb0ed7f1a4ccf50759becbbb045be340", func := "loop.example/g01084/laws.FnExactRenumberNodes", spec := "fnExactRenumberNodes", apart := false, narrowed := true }
def FnExactRenumberNodesUptoSaid : Prop := fnExactRenumberNodesUptoRow.holds Try.pinned (OpenSpec.upto fnExactRenumberNodesSpec)

/-- 'laws.FnExactKeepNodes', WHERE WHAT IT READS IS OF BULK AT MOST 1048576: true; the input reads as it did. -/
def fnExactKeepNodesUptoRow : OpenClaim := { program := "ytndgbildkeglfaa", sum := "4c019d9696081b658d6f1bbf66e76dd0cb0ed7f1a4ccf50759becbbb045be340", func := "loop.example/g01084/laws.FnExactKeepNodes", spec := "fnExactKeepNodes", apart := false, narrowed := true }
def FnExactKeepNodesUptoSaid : Prop := fnExactKeepNodesUptoRow.holds Try.pinned (OpenSpec.upto fnExactKeepNodesSpec)

/-- 'laws.FnExactWithIds', WHERE WHAT IT READS IS OF BULK AT MOST 1048576: true; the input reads as it did. -/
def fnExactWithIdsUptoRow : OpenClaim := { program := "ytndgbildkeglfaa", sum := "4c019d9696081b658d6f1bbf66e76dd0cb0ed7f1a4ccf50759becbbb045be340", func := "loop.example/g01084/laws.FnExactWithIds", spec := "fnExactWithIds", apart := false, narrowed := true }
def FnExactWithIdsUptoSaid : Prop := fnExactWithIdsUptoRow.holds Try.pinned (OpenSpec.upto fnExactWithIdsSpec)

/-- 'laws.FnExactWithInputs', WHERE WHAT IT READS IS OF BULK AT MOST 1048576: true; the input reads as it did. -/
def fnExactWithInputsUptoRow : OpenClaim := { program := "ytndgbildkeglfaa", sum := "4c019d9696081b658d6f1bbf66e76dd0cb0ed7f1a4ccf50759becbbb045be340", func := "loop.example/g01084/laws.FnExactWithInputs", spec := "fnExactWithInputs", apart := false, narrowed := true }
def FnExactWithInputsUptoSaid : Prop := fnExactWithInputsUptoRow.holds Try.pinned (OpenSpec.upto fnExactWithInputsSpec)

end Rows
end Go.Proofs.Ytndgbildkeglfaa
