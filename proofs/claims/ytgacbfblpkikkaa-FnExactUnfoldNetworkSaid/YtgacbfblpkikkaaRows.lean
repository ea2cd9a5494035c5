/-
  No cell of these rows narrows 'for every input' (looked for: loops, veiled, ifaces, maps, wideKeys, modest, calm, conditions, laid).
  DERIVED. THE GIVEN ROWS OF THIS SEAT. 15 by the template 'for every input the law returns true; each argument reads behind the call as it read before'; 0 by the template 'total and deterministic' (their statements: YtgacbfblpkikkaaTotals.lean).
  GIVEN WITH THE SEED: the statements are not yours to turn. If you find one false, say at which input.
  Laid BY PROGRAM, IN A SANDBOX (cutbox-rows.mjs): the forced cells as the released guide's own fill.sh prints them over the translation 44a6ab1a08229841… (all of the seat's roots in one cut). By AI agents, Wed Nov 11 2026. No macro, syntax, notation, axiom, sorry.
-/
import Derived.Test.YtgacbfblpkikkaaChecked
import GoSem.Claim
import GoSem.ClaimJoined
import GoSem.ClaimMapViews
import Derived.JoinedTies
import Derived.KernelRfl
namespace Go.Proofs.Ytgacbfblpkikkaa
/- THE CELL 'sum', in the pinned program and in every row, IS THE sha256 OF THE DUMP (.gsa) THAT YtgacbfblpkikkaaProg.lean LOADS. Nothing in Lean hashes anything: it is a label: what it is worth is what the hold of that sum in a sandbox is worth. -/
noncomputable def Try.pinned : Pinned := { name := "ytgacbfblpkikkaa", sum := "44a6ab1a082298416650d88ca459d6f3e7f641895ef88df687bd1452262c46ee", checked := Try.checked }
namespace Rows
def none {H : Type} : Left H := { results := [], args := [] }

/-- 'laws.FnExactUnfoldNetwork': WHATEVER THE INPUT: true; the input reads as it did. -/
def fnExactUnfoldNetworkSpec : ChangeSpec := { name := "fnExactUnfoldNetwork", fn := fun _ => fun
  | [d1, d2, d3] => { results := [.lit (.bool true)], args := [d1, d2, d3] }
  | _ => none }
def fnExactUnfoldNetworkRow : OpenClaim := { program := "ytgacbfblpkikkaa", sum := "44a6ab1a082298416650d88ca459d6f3e7f641895ef88df687bd1452262c46ee", func := "loop.example/g01084/laws.FnExactUnfoldNetwork", spec := "fnExactUnfoldNetwork", plainKeys := false, apart := false }
def FnExactUnfoldNetworkSaid : Prop := fnExactUnfoldNetworkRow.holds Try.pinned (OpenSpec.ofChange fnExactUnfoldNetworkSpec)

/-- ITS FALSE NEIGHBOUR: 'it returns false'. Refute it at one input. -/
def fnExactUnfoldNetworkWrong : ChangeSpec := { name := "fnExactUnfoldNetwork", fn := fun _ => fun
  | [d1, d2, d3] => { results := [.lit (.bool false)], args := [d1, d2, d3] }
  | _ => none }
def FnExactUnfoldNetworkWrongFalsely : Prop := fnExactUnfoldNetworkRow.holds Try.pinned (OpenSpec.ofChange fnExactUnfoldNetworkWrong)

/-- 'laws.FnExactIsPortMap': WHATEVER THE INPUT: true; the input reads as it did. -/
def fnExactIsPortMapSpec : ChangeSpec := { name := "fnExactIsPortMap", fn := fun _ => fun
  | [d1, d2, d3] => { results := [.lit (.bool true)], args := [d1, d2, d3] }
  | _ => none }
def fnExactIsPortMapRow : OpenClaim := { program := "ytgacbfblpkikkaa", sum := "44a6ab1a082298416650d88ca459d6f3e7f641895ef88df687bd1452262c46ee", func := "loop.example/g01084/laws.FnExactIsPortMap", spec := "fnExactIsPortMap", plainKeys := false, apart := false }
def FnExactIsPortMapSaid : Prop := fnExactIsPortMapRow.holds Try.pinned (OpenSpec.ofChange fnExactIsPortMapSpec)

/-- ITS FALSE NEIGHBOUR: 'it returns false'. Refute it at one input. -/
def fnExactIsPortMapWrong : ChangeSpec := { name := "fnExactIsPortMap", fn := fun _ => fun
  | [d1, d2, d3] => { results := [.lit (.bool false)], args := [d1, d2, d3] }
  | _ => none }
def FnExactIsPortMapWrongFalsely : Prop := fnExactIsPortMapRow.holds Try.pinned (OpenSpec.ofChange fnExactIsPortMapWrong)

/-- 'laws.FnExactIsCovering': WHATEVER THE INPUT: true; the input reads as it did. -/
def fnExactIsCoveringSpec : ChangeSpec := { name := "fnExactIsCovering", fn := fun _ => fun
  | [d1, d2, d3] => { results := [.lit (.bool true)], args := [d1, d2, d3] }
  | _ => none }
def fnExactIsCoveringRow : OpenClaim := { program := "ytgacbfblpkikkaa", sum := "44a6ab1a082298416650d88ca459d6f3e7f641895ef88df687bd1452262c46ee", func := "loop.example/g01084/laws.FnExactIsCovering", spec := "fnExactIsCovering", plainKeys := false, apart := false }
def FnExactIsCoveringSaid : Prop := fnExactIsCoveringRow.holds Try.pinned (OpenSpec.ofChange fnExactIsCoveringSpec)

/-- ITS FALSE NEIGHBOUR: 'it returns false'. Refute it at one input. -/
def fnExactIsCoveringWrong : ChangeSpec := { name := "fnExactIsCovering", fn := fun _ => fun
  | [d1, d2, d3] => { results := [.lit (.bool false)], args := [d1, d2, d3] }
  | _ => none }
def FnExactIsCoveringWrongFalsely : Prop := fnExactIsCoveringRow.holds Try.pinned (OpenSpec.ofChange fnExactIsCoveringWrong)

/-- 'laws.FnExactFibresOf': WHATEVER THE INPUT: true; the input reads as it did. -/
def fnExactFibresOfSpec : ChangeSpec := { name := "fnExactFibresOf", fn := fun _ => fun
  | [d1, d2, d3] => { results := [.lit (.bool true)], args := [d1, d2, d3] }
  | _ => none }
def fnExactFibresOfRow : OpenClaim := { program := "ytgacbfblpkikkaa", sum := "44a6ab1a082298416650d88ca459d6f3e7f641895ef88df687bd1452262c46ee", func := "loop.example/g01084/laws.FnExactFibresOf", spec := "fnExactFibresOf", plainKeys := false, apart := false }
def FnExactFibresOfSaid : Prop := fnExactFibresOfRow.holds Try.pinned (OpenSpec.ofChange fnExactFibresOfSpec)

/-- ITS FALSE NEIGHBOUR: 'it returns false'. Refute it at one input. -/
def fnExactFibresOfWrong : ChangeSpec := { name := "fnExactFibresOf", fn := fun _ => fun
  | [d1, d2, d3] => { results := [.lit (.bool false)], args := [d1, d2, d3] }
  | _ => none }
def FnExactFibresOfWrongFalsely : Prop := fnExactFibresOfRow.holds Try.pinned (OpenSpec.ofChange fnExactFibresOfWrong)

/-- 'laws.FnExactSheetsOf': WHATEVER THE INPUT: true; the input reads as it did. -/
def fnExactSheetsOfSpec : ChangeSpec := { name := "fnExactSheetsOf", fn := fun _ => fun
  | [d1, d2, d3] => { results := [.lit (.bool true)], args := [d1, d2, d3] }
  | _ => none }
def fnExactSheetsOfRow : OpenClaim := { program := "ytgacbfblpkikkaa", sum := "44a6ab1a082298416650d88ca459d6f3e7f641895ef88df687bd1452262c46ee", func := "loop.example/g01084/laws.FnExactSheetsOf", spec := "fnExactSheetsOf", plainKeys := false, apart := false }
def FnExactSheetsOfSaid : Prop := fnExactSheetsOfRow.holds Try.pinned (OpenSpec.ofChange fnExactSheetsOfSpec)

/-- ITS FALSE NEIGHBOUR: 'it returns false'. Refute it at one input. -/
def fnExactSheetsOfWrong : ChangeSpec := { name := "fnExactSheetsOf", fn := fun _ => fun
  | [d1, d2, d3] => { results := [.lit (.bool false)], args := [d1, d2, d3] }
  | _ => none }
def FnExactSheetsOfWrongFalsely : Prop := fnExactSheetsOfRow.holds Try.pinned (OpenSpec.ofChange fnExactSheetsOfWrong)

/-- 'laws.FnExactExtendMap': WHATEVER THE INPUT: true; the input reads as it did. -/
def fnExactExtendMapSpec : ChangeSpec := { name := "fnExactExtendMap", fn := fun _ => fun
  | [d1, d2, d3] => { results := [.lit (.bool true)], args := [d1, d2, d3] }
  | _ => none }
def fnExactExtendMapRow : OpenClaim := { program := "ytgacbfblpkikkaa", sum := "44a6ab1a082298416650d88ca459d6f3e7f641895ef88df687bd1452262c46ee", func := "loop.example/g01084/laws.FnExactExtendMap", spec := "fnExactExtendMap", plainKeys := false, apart := false }
def FnExactExtendMapSaid : Prop := fnExactExtendMapRow.holds Try.pinned (OpenSpec.ofChange fnExactExtendMapSpec)

/-- ITS FALSE NEIGHBOUR: 'it returns false'. Refute it at one input. -/
def fnExactExtendMapWrong : ChangeSpec := { name := "fnExactExtendMap", fn := fun _ => fun
  | [d1, d2, d3] => { results := [.lit (.bool false)], args := [d1, d2, d3] }
  | _ => none }
def FnExactExtendMapWrongFalsely : Prop := fnExactExtendMapRow.holds Try.pinned (OpenSpec.ofChange fnExactExtendMapWrong)

/-- 'laws.FnExactPortMapsBetween': WHATEVER THE INPUT: true; the input reads as it did. -/
def fnExactPortMapsBetweenSpec : ChangeSpec := { name := "fnExactPortMapsBetween", fn := fun _ => fun
  | [d1, d2] => { results := [.lit (.bool true)], args := [d1, d2] }
  | _ => none }
def fnExactPortMapsBetweenRow : OpenClaim := { program := "ytgacbfblpkikkaa", sum := "44a6ab1a082298416650d88ca459d6f3e7f641895ef88df687bd1452262c46ee", func := "loop.example/g01084/laws.FnExactPortMapsBetween", spec := "fnExactPortMapsBetween", plainKeys := false, apart := false }
def FnExactPortMapsBetweenSaid : Prop := fnExactPortMapsBetweenRow.holds Try.pinned (OpenSpec.ofChange fnExactPortMapsBetweenSpec)

/-- ITS FALSE NEIGHBOUR: 'it returns false'. Refute it at one input. -/
def fnExactPortMapsBetweenWrong : ChangeSpec := { name := "fnExactPortMapsBetween", fn := fun _ => fun
  | [d1, d2] => { results := [.lit (.bool false)], args := [d1, d2] }
  | _ => none }
def FnExactPortMapsBetweenWrongFalsely : Prop := fnExactPortMapsBetweenRow.holds Try.pinned (OpenSpec.ofChange fnExactPortMapsBetweenWrong)

/-- 'laws.FnExactComposeMaps': WHATEVER THE INPUT: true; the input reads as it did. -/
def fnExactComposeMapsSpec : ChangeSpec := { name := "fnExactComposeMaps", fn := fun _ => fun
  | [d1, d2, d3, d4, d5] => { results := [.lit (.bool true)], args := [d1, d2, d3, d4, d5] }
  | _ => none }
def fnExactComposeMapsRow : OpenClaim := { program := "ytgacbfblpkikkaa", sum := "44a6ab1a082298416650d88ca459d6f3e7f641895ef88df687bd1452262c46ee", func := "loop.example/g01084/laws.FnExactComposeMaps", spec := "fnExactComposeMaps", plainKeys := false, apart := false }
def FnExactComposeMapsSaid : Prop := fnExactComposeMapsRow.holds Try.pinned (OpenSpec.ofChange fnExactComposeMapsSpec)

/-- ITS FALSE NEIGHBOUR: 'it returns false'. Refute it at one input. -/
def fnExactComposeMapsWrong : ChangeSpec := { name := "fnExactComposeMaps", fn := fun _ => fun
  | [d1, d2, d3, d4, d5] => { results := [.lit (.bool false)], args := [d1, d2, d3, d4, d5] }
  | _ => none }
def FnExactComposeMapsWrongFalsely : Prop := fnExactComposeMapsRow.holds Try.pinned (OpenSpec.ofChange fnExactComposeMapsWrong)

/-- 'laws.FnExactQuotientOf': WHATEVER THE INPUT: true; the input reads as it did. -/
def fnExactQuotientOfSpec : ChangeSpec := { name := "fnExactQuotientOf", fn := fun _ => fun
  | [d1, d2] => { results := [.lit (.bool true)], args := [d1, d2] }
  | _ => none }
def fnExactQuotientOfRow : OpenClaim := { program := "ytgacbfblpkikkaa", sum := "44a6ab1a082298416650d88ca459d6f3e7f641895ef88df687bd1452262c46ee", func := "loop.example/g01084/laws.FnExactQuotientOf", spec := "fnExactQuotientOf", plainKeys := false, apart := false }
def FnExactQuotientOfSaid : Prop := fnExactQuotientOfRow.holds Try.pinned (OpenSpec.ofChange fnExactQuotientOfSpec)

/-- ITS FALSE NEIGHBOUR: 'it returns false'. Refute it at one input. -/
def fnExactQuotientOfWrong : ChangeSpec := { name := "fnExactQuotientOf", fn := fun _ => fun
  | [d1, d2] => { results := [.lit (.bool false)], args := [d1, d2] }
  | _ => none }
def FnExactQuotientOfWrongFalsely : Prop := fnExactQuotientOfRow.holds Try.pinned (OpenSpec.ofChange fnExactQuotientOfWrong)

/-- 'laws.FnExactMinimalBase': WHATEVER THE INPUT: true; the input reads as it did. -/
def fnExactMinimalBaseSpec : ChangeSpec := { name := "fnExactMinimalBase", fn := fun _ => fun
  | [d] => { results := [.lit (.bool true)], args := [d] }
  | _ => none }
def fnExactMinimalBaseRow : OpenClaim := { program := "ytgacbfblpkikkaa", sum := "44a6ab1a082298416650d88ca459d6f3e7f641895ef88df687bd1452262c46ee", func := "loop.example/g01084/laws.FnExactMinimalBase", spec := "fnExactMinimalBase", unfollowed := true, recurses := true, plainKeys := false, apart := false }
def FnExactMinimalBaseSaid : Prop := fnExactMinimalBaseRow.holds Try.pinned (OpenSpec.ofChange fnExactMinimalBaseSpec)

/-- ITS FALSE NEIGHBOUR: 'it returns false'. Refute it at one input. -/
def fnExactMinimalBaseWrong : ChangeSpec := { name := "fnExactMinimalBase", fn := fun _ => fun
  | [d] => { results := [.lit (.bool false)], args := [d] }
  | _ => none }
def FnExactMinimalBaseWrongFalsely : Prop := fnExactMinimalBaseRow.holds Try.pinned (OpenSpec.ofChange fnExactMinimalBaseWrong)

/-- 'laws.FnExactLiftOf': WHATEVER THE INPUT: true; the input reads as it did. -/
def fnExactLiftOfSpec : ChangeSpec := { name := "fnExactLiftOf", fn := fun _ => fun
  | [d1, d2, d3] => { results := [.lit (.bool true)], args := [d1, d2, d3] }
  | _ => none }
def fnExactLiftOfRow : OpenClaim := { program := "ytgacbfblpkikkaa", sum := "44a6ab1a082298416650d88ca459d6f3e7f641895ef88df687bd1452262c46ee", func := "loop.example/g01084/laws.FnExactLiftOf", spec := "fnExactLiftOf", plainKeys := false, apart := false }
def FnExactLiftOfSaid : Prop := fnExactLiftOfRow.holds Try.pinned (OpenSpec.ofChange fnExactLiftOfSpec)

/-- ITS FALSE NEIGHBOUR: 'it returns false'. Refute it at one input. -/
def fnExactLiftOfWrong : ChangeSpec := { name := "fnExactLiftOf", fn := fun _ => fun
  | [d1, d2, d3] => { results := [.lit (.bool false)], args := [d1, d2, d3] }
  | _ => none }
def FnExactLiftOfWrongFalsely : Prop := fnExactLiftOfRow.holds Try.pinned (OpenSpec.ofChange fnExactLiftOfWrong)

/-- 'laws.FnExactFibreProduct': WHATEVER THE INPUT: true; the input reads as it did. -/
def fnExactFibreProductSpec : ChangeSpec := { name := "fnExactFibreProduct", fn := fun _ => fun
  | [d1, d2, d3, d4, d5] => { results := [.lit (.bool true)], args := [d1, d2, d3, d4, d5] }
  | _ => none }
def fnExactFibreProductRow : OpenClaim := { program := "ytgacbfblpkikkaa", sum := "44a6ab1a082298416650d88ca459d6f3e7f641895ef88df687bd1452262c46ee", func := "loop.example/g01084/laws.FnExactFibreProduct", spec := "fnExactFibreProduct", plainKeys := false, apart := false }
def FnExactFibreProductSaid : Prop := fnExactFibreProductRow.holds Try.pinned (OpenSpec.ofChange fnExactFibreProductSpec)

/-- ITS FALSE NEIGHBOUR: 'it returns false'. Refute it at one input. -/
def fnExactFibreProductWrong : ChangeSpec := { name := "fnExactFibreProduct", fn := fun _ => fun
  | [d1, d2, d3, d4, d5] => { results := [.lit (.bool false)], args := [d1, d2, d3, d4, d5] }
  | _ => none }
def FnExactFibreProductWrongFalsely : Prop := fnExactFibreProductRow.holds Try.pinned (OpenSpec.ofChange fnExactFibreProductWrong)

/-- 'laws.FnExactPullNodes': WHATEVER THE INPUT: true; the input reads as it did. -/
def fnExactPullNodesSpec : ChangeSpec := { name := "fnExactPullNodes", fn := fun _ => fun
  | [d1, d2, d3, d4] => { results := [.lit (.bool true)], args := [d1, d2, d3, d4] }
  | _ => none }
def fnExactPullNodesRow : OpenClaim := { program := "ytgacbfblpkikkaa", sum := "44a6ab1a082298416650d88ca459d6f3e7f641895ef88df687bd1452262c46ee", func := "loop.example/g01084/laws.FnExactPullNodes", spec := "fnExactPullNodes", plainKeys := false, apart := false }
def FnExactPullNodesSaid : Prop := fnExactPullNodesRow.holds Try.pinned (OpenSpec.ofChange fnExactPullNodesSpec)

/-- ITS FALSE NEIGHBOUR: 'it returns false'. Refute it at one input. -/
def fnExactPullNodesWrong : ChangeSpec := { name := "fnExactPullNodes", fn := fun _ => fun
  | [d1, d2, d3, d4] => { results := [.lit (.bool false)], args := [d1, d2, d3, d4] }
  | _ => none }
def FnExactPullNodesWrongFalsely : Prop := fnExactPullNodesRow.holds Try.pinned (OpenSpec.ofChange fnExactPullNodesWrong)

/-- 'laws.FnExactPullPorts': WHATEVER THE INPUT: true; the input reads as it did. -/
def fnExactPullPortsSpec : ChangeSpec := { name := "fnExactPullPorts", fn := fun _ => fun
  | [d1, d2, d3, d4] => { results := [.lit (.bool true)], args := [d1, d2, d3, d4] }
  | _ => none }
def fnExactPullPortsRow : OpenClaim := { program := "ytgacbfblpkikkaa", sum := "44a6ab1a082298416650d88ca459d6f3e7f641895ef88df687bd1452262c46ee", func := "loop.example/g01084/laws.FnExactPullPorts", spec := "fnExactPullPorts", plainKeys := false, apart := false }
def FnExactPullPortsSaid : Prop := fnExactPullPortsRow.holds Try.pinned (OpenSpec.ofChange fnExactPullPortsSpec)

/-- ITS FALSE NEIGHBOUR: 'it returns false'. Refute it at one input. -/
def fnExactPullPortsWrong : ChangeSpec := { name := "fnExactPullPorts", fn := fun _ => fun
  | [d1, d2, d3, d4] => { results := [.lit (.bool false)], args := [d1, d2, d3, d4] }
  | _ => none }
def FnExactPullPortsWrongFalsely : Prop := fnExactPullPortsRow.holds Try.pinned (OpenSpec.ofChange fnExactPullPortsWrong)

/-- 'laws.FnExactPushNodes': WHATEVER THE INPUT: true; the input reads as it did. -/
def fnExactPushNodesSpec : ChangeSpec := { name := "fnExactPushNodes", fn := fun _ => fun
  | [d1, d2, d3, d4] => { results := [.lit (.bool true)], args := [d1, d2, d3, d4] }
  | _ => none }
def fnExactPushNodesRow : OpenClaim := { program := "ytgacbfblpkikkaa", sum := "44a6ab1a082298416650d88ca459d6f3e7f641895ef88df687bd1452262c46ee", func := "loop.example/g01084/laws.FnExactPushNodes", spec := "fnExactPushNodes", plainKeys := false, apart := false }
def FnExactPushNodesSaid : Prop := fnExactPushNodesRow.holds Try.pinned (OpenSpec.ofChange fnExactPushNodesSpec)

/-- ITS FALSE NEIGHBOUR: 'it returns false'. Refute it at one input. -/
def fnExactPushNodesWrong : ChangeSpec := { name := "fnExactPushNodes", fn := fun _ => fun
  | [d1, d2, d3, d4] => { results := [.lit (.bool false)], args := [d1, d2, d3, d4] }
  | _ => none }
def FnExactPushNodesWrongFalsely : Prop := fnExactPushNodesRow.holds Try.pinned (OpenSpec.ofChange fnExactPushNodesWrong)

/- THE SECOND FORM. 'bulk': how many values and letters a reading holds, each counted each time it is reached (what is shared counts as often as it is met; a slice's spare places count too). A statement '..UptoSaid' is the law's where the arguments, and the package variables that the reading takes, are together of bulk at most 1048576: NARROWER than '..Said'. Prove '..Said' where nothing that the law and all that it calls make is longer than what came in: it says more and counts as full. Else prove '..UptoSaid'. A law counts once. -/
mutual
def uptoBulk {H : Type} : DataW H → Nat
  | .lit (.string bytes) => bytes.length + 1
  | .lit _ => 1
  | .nil => 1
  | .ptr d => uptoBulk d + 1
  | .slice elems spare => uptoBulkAll elems + uptoBulkAll spare + 1
  | .agg parts => uptoBulkAll parts + 1
  | .iface _ d => uptoBulk d + 1
  | .map entries => uptoBulkEntries entries + 1
  | .held _ => 1
def uptoBulkAll {H : Type} : List (DataW H) → Nat
  | [] => 0
  | d :: r => uptoBulk d + uptoBulkAll r
def uptoBulkEntries {H : Type} : List (Lit × DataW H) → Nat
  | [] => 0
  | x :: r => uptoBulkEntry x + uptoBulkEntries r
def uptoBulkEntry {H : Type} : Lit × DataW H → Nat
  | (.string bytes, d) => bytes.length + uptoBulk d + 1
  | (_, d) => uptoBulk d + 1
 end
def uptoSmall : (H : Type) → List (DataW H) → Bool := fun _ ds => decide (uptoBulkAll ds ≤ 1048576)
def OpenSpec.upto (s : _root_.Go.ChangeSpec) : _root_.Go.OpenSpec := { _root_.Go.OpenSpec.ofChange s with cond := some uptoSmall }

/-- 'laws.FnExactUnfoldNetwork', WHERE WHAT IT READS IS OF BULK AT MOST 1048576: true; the input reads as it did. -/
def fnExactUnfoldNetworkUptoRow : OpenClaim := { program := "ytgacbfblpkikkaa", sum := "44a6ab1a082298416650d88ca459d6f3e7f641895ef88df687bd1452262c46ee", func := "loop.example/g01084/laws.FnExactUnfoldNetwork", spec := "fnExactUnfoldNetwork", plainKeys := false, apart := false, narrowed := true }
def FnExactUnfoldNetworkUptoSaid : Prop := fnExactUnfoldNetworkUptoRow.holds Try.pinned (OpenSpec.upto fnExactUnfoldNetworkSpec)

/-- 'laws.FnExactIsPortMap', WHERE WHAT IT READS IS OF BULK AT MOST 1048576: true; the input reads as it did. -/
def fnExactIsPortMapUptoRow : OpenClaim := { program := "ytgacbfblpkikkaa", sum := "44a6ab1a082298416650d88ca459d6f3e7f641895ef88df687bd1452262c46ee", func := "loop.example/g01084/laws.FnExactIsPortMap", spec := "fnExactIsPortMap", plainKeys := false, apart := false, narrowed := true }
def FnExactIsPortMapUptoSaid : Prop := fnExactIsPortMapUptoRow.holds Try.pinned (OpenSpec.upto fnExactIsPortMapSpec)

/-- 'laws.FnExactIsCovering', WHERE WHAT IT READS IS OF BULK AT MOST 1048576: true; the input reads as it did. -/
def fnExactIsCoveringUptoRow : OpenClaim := { program := "ytgacbfblpkikkaa", sum := "44a6ab1a082298416650d88ca459d6f3e7f641895ef88df687bd1452262c46ee", func := "loop.example/g01084/laws.FnExactIsCovering", spec := "fnExactIsCovering", plainKeys := false, apart := false, narrowed := true }
def FnExactIsCoveringUptoSaid : Prop := fnExactIsCoveringUptoRow.holds Try.pinned (OpenSpec.upto fnExactIsCoveringSpec)

/-- 'laws.FnExactFibresOf', WHERE WHAT IT READS IS OF BULK AT MOST 1048576: true; the input reads as it did. -/
def fnExactFibresOfUptoRow : OpenClaim := { program := "ytgacbfblpkikkaa", sum := "44a6ab1a082298416650d88ca459d6f3e7f641895ef88df687bd1452262c46ee", func := "loop.example/g01084/laws.FnExactFibresOf", spec := "fnExactFibresOf", plainKeys := false, apart := false, narrowed := true }
def FnExactFibresOfUptoSaid : Prop := fnExactFibresOfUptoRow.holds Try.pinned (OpenSpec.upto fnExactFibresOfSpec)

/-- 'laws.FnExactSheetsOf', WHERE WHAT IT READS IS OF BULK AT MOST 1048576: true; the input reads as it did. -/
def fnExactSheetsOfUptoRow : OpenClaim := { program := "ytgacbfblpkikkaa", sum := "44a6ab1a082298416650d88ca459d6f3e7f641895ef88df687bd1452262c46ee", func := "loop.example/g01084/laws.FnExactSheetsOf", spec := "fnExactSheetsOf", plainKeys := false, apart := false, narrowed := true }
def FnExactSheetsOfUptoSaid : Prop := fnExactSheetsOfUptoRow.holds Try.pinned (OpenSpec.upto fnExactSheetsOfSpec)

/-- 'laws.FnExactExtendMap', WHERE WHAT IT READS IS OF BULK AT MOST 1048576: true; the input reads as it did. -/
def fnExactExtendMapUptoRow : OpenClaim := { program := "ytgacbfblpkikkaa", sum := "44a6ab1a082298416650d88ca459d6f3e7f641895ef88df687bd1452262c46ee", func := "loop.example/g01084/laws.FnExactExtendMap", spec := "fnExactExtendMap", plainKeys := false, apart := false, narrowed := true }
def FnExactExtendMapUptoSaid : Prop := fnExactExtendMapUptoRow.holds Try.pinned (OpenSpec.upto fnExactExtendMapSpec)

/-- 'laws.FnExactPortMapsBetween', WHERE WHAT IT READS IS OF BULK AT MOST 1048576: true; the input reads as it did. -/
def fnExactPortMapsBetweenUptoRow : OpenClaim := { program := "ytgacbfblpkikkaa", sum := "44a6ab1a082298416650d88ca459d6f3e7f641895ef88df687bd1452262c46ee", func := "loop.example/g01084/laws.FnExactPortMapsBetween", spec := "fnExactPortMapsBetween", plainKeys := false, apart := false, narrowed := true }
def FnExactPortMapsBetweenUptoSaid : Prop := fnExactPortMapsBetweenUptoRow.holds Try.pinned (OpenSpec.upto fnExactPortMapsBetweenSpec)

/-- 'laws.FnExactComposeMaps', WHERE WHAT IT READS IS OF BULK AT MOST 1048576: true; the input reads as it did. -/
def fnExactComposeMapsUptoRow : OpenClaim := { program := "ytgacbfblpkikkaa", sum := "44a6ab1a082298416650d88ca459d6f3e7f641895ef88df687bd1452262c46ee", func := "loop.example/g01084/laws.FnExactComposeMaps", spec := "fnExactComposeMaps", plainKeys := false, apart := false, narrowed := true }
def FnExactComposeMapsUptoSaid : Prop := fnExactComposeMapsUptoRow.holds Try.pinned (OpenSpec.upto fnExactComposeMapsSpec)

/-- 'laws.FnExactQuotientOf', WHERE WHAT IT READS IS OF BULK AT MOST 1048576: true; the input reads as it did. -/
def fnExactQuotientOfUptoRow : OpenClaim := { program := "ytgacbfblpkikkaa", sum := "44a6ab1a082298416650d88ca459d6f3e7f641895ef88df687bd1452262c46ee", func := "loop.example/g01084/laws.FnExactQuotientOf", spec := "fnExactQuotientOf", plainKeys := false, apart := false, narrowed := true }
def FnExactQuotientOfUptoSaid : Prop := fnExactQuotientOfUptoRow.holds Try.pinned (OpenSpec.upto fnExactQuotientOfSpec)

/-- 'laws.FnExactMinimalBase', WHERE WHAT IT READS IS OF BULK AT MOST 1048576: true; the input reads as it did. -/
def fnExactMinimalBaseUptoRow : OpenClaim := { program := "ytgacbfblpkikkaa", sum := "44a6ab1a082298416650d88ca459d6f3e7f641895ef88df687bd1452262c46ee", func := "loop.example/g01084/laws.FnExactMinimalBase", spec := "fnExactMinimalBase", unfollowed := true, recurses := true, plainKeys := false, apart := false, narrowed := true }
def FnExactMinimalBaseUptoSaid : Prop := fnExactMinimalBaseUptoRow.holds Try.pinned (OpenSpec.upto fnExactMinimalBaseSpec)

/-- 'laws.FnExactLiftOf', WHERE WHAT IT READS IS OF BULK AT MOST 1048576: true; the input reads as it did. -/
def fnExactLiftOfUptoRow : OpenClaim := { program := "ytgacbfblpkikkaa", sum := "44a6ab1a082298416650d88ca459d6f3e7f641895ef88df687bd1452262c46ee", func := "loop.example/g01084/laws.FnExactLiftOf", spec := "fnExactLiftOf", plainKeys := false, apart := false, narrowed := true }
def FnExactLiftOfUptoSaid : Prop := fnExactLiftOfUptoRow.holds Try.pinned (OpenSpec.upto fnExactLiftOfSpec)

/-- 'laws.FnExactFibreProduct', WHERE WHAT IT READS IS OF BULK AT MOST 1048576: true; the input reads as it did. -/
def fnExactFibreProductUptoRow : OpenClaim := { program := "ytgacbfblpkikkaa", sum := "44a6ab1a082298416650d88ca459d6f3e7f641895ef88df687bd1452262c46ee", func := "loop.example/g01084/laws.FnExactFibreProduct", spec := "fnExactFibreProduct", plainKeys := false, apart := false, narrowed := true }
def FnExactFibreProductUptoSaid : Prop := fnExactFibreProductUptoRow.holds Try.pinned (OpenSpec.upto fnExactFibreProductSpec)

/-- 'laws.FnExactPullNodes', WHERE WHAT IT READS IS OF BULK AT MOST 1048576: true; the input reads as it did. -/
def fnExactPullNodesUptoRow : OpenClaim := { program := "ytgacbfblpkikkaa", sum := "44a6ab1a082298416650d88ca459d6f3e7f641895ef88df687bd1452262c46ee", func := "loop.example/g01084/laws.FnExactPullNodes", spec := "fnExactPullNodes", plainKeys := false, apart := false, narrowed := true }
def FnExactPullNodesUptoSaid : Prop := fnExactPullNodesUptoRow.holds Try.pinned (OpenSpec.upto fnExactPullNodesSpec)

/-- 'laws.FnExactPullPorts', WHERE WHAT IT READS IS OF BULK AT MOST 1048576: true; the input reads as it did. -/
def fnExactPullPortsUptoRow : OpenClaim := { program := "ytgacbfblpkikkaa", sum := "44a6ab1a082298416650d88ca459d6f3e7f641895ef88df687bd1452262c46ee", func := "loop.example/g01084/laws.FnExactPullPorts", spec := "fnExactPullPorts", plainKeys := false, apart := false, narrowed := true }
def FnExactPullPortsUptoSaid : Prop := fnExactPullPortsUptoRow.holds Try.pinned (OpenSpec.upto fnExactPullPortsSpec)

/-- 'laws.FnExactPushNodes', WHERE WHAT IT READS IS OF BULK AT MOST 1048576: true; the input reads as it did. -/
def fnExactPushNodesUptoRow : OpenClaim := { program := "ytgacbfblpkikkaa", sum := "44a6ab1a082298416650d88ca459d6f3e7f641895ef88df687bd1452262c46ee", func := "loop.example/g01084/laws.FnExactPushNodes", spec := "fnExactPushNodes", plainKeys := false, apart := false, narrowed := true }
def FnExactPushNodesUptoSaid : Prop := fnExactPushNodesUptoRow.holds Try.pinned (OpenSpec.upto fnExactPushNodesSpec)

end Rows
end Go.Proofs.Ytgacbfblpkikkaa
