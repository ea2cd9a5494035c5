/-
  No cell of these rows narrows 'for every input' (looked for: loops, veiled, ifaces, maps, wideKeys, modest, calm, conditions, laid).
  DERIVED. THE GIVEN ROWS OF THIS SEAT. 17 by the template 'for every input the law returns true; each argument reads behind the call as it read before'; 0 by the template 'total and deterministic' (their statements: YtkeiaahlifdbiaaTotals.lean).
  GIVEN WITH THE SEED: the statements are not yours to turn. If you find one false, say at which input.
  Laid BY PROGRAM, IN A SANDBOX (cutbox-rows.mjs): the forced cells as the released guide's own fill.sh prints them over the translation c4f8875d3aba9055… (all of the seat's roots in one cut). By AI agents, Wed Nov 11 2026. No macro, syntax, notation, axiom, sorry.
-/
import Derived.Test.YtkeiaahlifdbiaaChecked
import GoSem.Claim
import GoSem.ClaimJoined
import GoSem.ClaimMapViews
import Derived.JoinedTies
import Derived.KernelRfl
namespace Go.Proofs.Ytkeiaahlifdbiaa
/- THE CELL 'sum', in the pinned program and in every row, IS THE sha256 OF THE DUMP (.gsa) THAT YtkeiaahlifdbiaaProg.lean LOADS. Nothing in Lean hashes anything: it is a label: what it is worth is what the hold of that sum in a sandbox is worth. -/
noncomputable def Try.pinned : Pinned := { name := "ytkeiaahlifdbiaa", sum := "c4f8875d3aba9055a99a7443dccfe42d845c41e85a4a6c413e2a361734c251f8", checked := Try.checked }
namespace Rows
def none {H : Type} : Left H := { results := [], args := [] }

/-- 'laws.FnExactDoubleCover': WHATEVER THE INPUT: true; the input reads as it did. -/
def fnExactDoubleCoverSpec : ChangeSpec := { name := "fnExactDoubleCover", fn := fun _ => fun
  | [d] => { results := [.lit (.bool true)], args := [d] }
  | _ => none }
def fnExactDoubleCoverRow : OpenClaim := { program := "ytkeiaahlifdbiaa", sum := "c4f8875d3aba9055a99a7443dccfe42d845c41e85a4a6c413e2a361734c251f8", func := "loop.example/g01084/laws.FnExactDoubleCover", spec := "fnExactDoubleCover", plainKeys := false, apart := false }
def FnExactDoubleCoverSaid : Prop := fnExactDoubleCoverRow.holds Try.pinned (OpenSpec.ofChange fnExactDoubleCoverSpec)

/-- ITS FALSE NEIGHBOUR: 'it returns false'. Refute it at one input. -/
def fnExactDoubleCoverWrong : ChangeSpec := { name := "fnExactDoubleCover", fn := fun _ => fun
  | [d] => { results := [.lit (.bool false)], args := [d] }
  | _ => none }
def FnExactDoubleCoverWrongFalsely : Prop := fnExactDoubleCoverRow.holds Try.pinned (OpenSpec.ofChange fnExactDoubleCoverWrong)

/-- 'laws.FnExactSubdivideEdges': WHATEVER THE INPUT: true; the input reads as it did. -/
def fnExactSubdivideEdgesSpec : ChangeSpec := { name := "fnExactSubdivideEdges", fn := fun _ => fun
  | [d] => { results := [.lit (.bool true)], args := [d] }
  | _ => none }
def fnExactSubdivideEdgesRow : OpenClaim := { program := "ytkeiaahlifdbiaa", sum := "c4f8875d3aba9055a99a7443dccfe42d845c41e85a4a6c413e2a361734c251f8", func := "loop.example/g01084/laws.FnExactSubdivideEdges", spec := "fnExactSubdivideEdges", plainKeys := false, apart := false }
def FnExactSubdivideEdgesSaid : Prop := fnExactSubdivideEdgesRow.holds Try.pinned (OpenSpec.ofChange fnExactSubdivideEdgesSpec)

/-- ITS FALSE NEIGHBOUR: 'it returns false'. Refute it at one input. -/
def fnExactSubdivideEdgesWrong : ChangeSpec := { name := "fnExactSubdivideEdges", fn := fun _ => fun
  | [d] => { results := [.lit (.bool false)], args := [d] }
  | _ => none }
def FnExactSubdivideEdgesWrongFalsely : Prop := fnExactSubdivideEdgesRow.holds Try.pinned (OpenSpec.ofChange fnExactSubdivideEdgesWrong)

/-- 'laws.FnExactLiftOf': WHATEVER THE INPUT: true; the input reads as it did. -/
def fnExactLiftOfSpec : ChangeSpec := { name := "fnExactLiftOf", fn := fun _ => fun
  | [d1, d2, d3] => { results := [.lit (.bool true)], args := [d1, d2, d3] }
  | _ => none }
def fnExactLiftOfRow : OpenClaim := { program := "ytkeiaahlifdbiaa", sum := "c4f8875d3aba9055a99a7443dccfe42d845c41e85a4a6c413e2a361734c251f8", func := "loop.example/g01084/laws.FnExactLiftOf", spec := "fnExactLiftOf", plainKeys := false, apart := false }
def FnExactLiftOfSaid : Prop := fnExactLiftOfRow.holds Try.pinned (OpenSpec.ofChange fnExactLiftOfSpec)

/-- ITS FALSE NEIGHBOUR: 'it returns false'. Refute it at one input. -/
def fnExactLiftOfWrong : ChangeSpec := { name := "fnExactLiftOf", fn := fun _ => fun
  | [d1, d2, d3] => { results := [.lit (.bool false)], args := [d1, d2, d3] }
  | _ => none }
def FnExactLiftOfWrongFalsely : Prop := fnExactLiftOfRow.holds Try.pinned (OpenSpec.ofChange fnExactLiftOfWrong)

/-- 'laws.FnExactFibreProduct': WHATEVER THE INPUT: true; the input reads as it did. -/
def fnExactFibreProductSpec : ChangeSpec := { name := "fnExactFibreProduct", fn := fun _ => fun
  | [d1, d2, d3, d4, d5] => { results := [.lit (.bool true)], args := [d1, d2, d3, d4, d5] }
  | _ => none }
def fnExactFibreProductRow : OpenClaim := { program := "ytkeiaahlifdbiaa", sum := "c4f8875d3aba9055a99a7443dccfe42d845c41e85a4a6c413e2a361734c251f8", func := "loop.example/g01084/laws.FnExactFibreProduct", spec := "fnExactFibreProduct", plainKeys := false, apart := false }
def FnExactFibreProductSaid : Prop := fnExactFibreProductRow.holds Try.pinned (OpenSpec.ofChange fnExactFibreProductSpec)

/-- ITS FALSE NEIGHBOUR: 'it returns false'. Refute it at one input. -/
def fnExactFibreProductWrong : ChangeSpec := { name := "fnExactFibreProduct", fn := fun _ => fun
  | [d1, d2, d3, d4, d5] => { results := [.lit (.bool false)], args := [d1, d2, d3, d4, d5] }
  | _ => none }
def FnExactFibreProductWrongFalsely : Prop := fnExactFibreProductRow.holds Try.pinned (OpenSpec.ofChange fnExactFibreProductWrong)

/-- 'laws.FnExactDistancesFrom': WHATEVER THE INPUT: true; the input reads as it did. -/
def fnExactDistancesFromSpec : ChangeSpec := { name := "fnExactDistancesFrom", fn := fun _ => fun
  | [d1, d2] => { results := [.lit (.bool true)], args := [d1, d2] }
  | _ => none }
def fnExactDistancesFromRow : OpenClaim := { program := "ytkeiaahlifdbiaa", sum := "c4f8875d3aba9055a99a7443dccfe42d845c41e85a4a6c413e2a361734c251f8", func := "loop.example/g01084/laws.FnExactDistancesFrom", spec := "fnExactDistancesFrom", plainKeys := false, apart := false }
def FnExactDistancesFromSaid : Prop := fnExactDistancesFromRow.holds Try.pinned (OpenSpec.ofChange fnExactDistancesFromSpec)

/-- ITS FALSE NEIGHBOUR: 'it returns false'. Refute it at one input. -/
def fnExactDistancesFromWrong : ChangeSpec := { name := "fnExactDistancesFrom", fn := fun _ => fun
  | [d1, d2] => { results := [.lit (.bool false)], args := [d1, d2] }
  | _ => none }
def FnExactDistancesFromWrongFalsely : Prop := fnExactDistancesFromRow.holds Try.pinned (OpenSpec.ofChange fnExactDistancesFromWrong)

/-- 'laws.FnExactBallOf': WHATEVER THE INPUT: true; the input reads as it did. -/
def fnExactBallOfSpec : ChangeSpec := { name := "fnExactBallOf", fn := fun _ => fun
  | [d1, d2, d3] => { results := [.lit (.bool true)], args := [d1, d2, d3] }
  | _ => none }
def fnExactBallOfRow : OpenClaim := { program := "ytkeiaahlifdbiaa", sum := "c4f8875d3aba9055a99a7443dccfe42d845c41e85a4a6c413e2a361734c251f8", func := "loop.example/g01084/laws.FnExactBallOf", spec := "fnExactBallOf", plainKeys := false, apart := false }
def FnExactBallOfSaid : Prop := fnExactBallOfRow.holds Try.pinned (OpenSpec.ofChange fnExactBallOfSpec)

/-- ITS FALSE NEIGHBOUR: 'it returns false'. Refute it at one input. -/
def fnExactBallOfWrong : ChangeSpec := { name := "fnExactBallOf", fn := fun _ => fun
  | [d1, d2, d3] => { results := [.lit (.bool false)], args := [d1, d2, d3] }
  | _ => none }
def FnExactBallOfWrongFalsely : Prop := fnExactBallOfRow.holds Try.pinned (OpenSpec.ofChange fnExactBallOfWrong)

/-- 'laws.FnExactShellSizes': WHATEVER THE INPUT: true; the input reads as it did. -/
def fnExactShellSizesSpec : ChangeSpec := { name := "fnExactShellSizes", fn := fun _ => fun
  | [d1, d2] => { results := [.lit (.bool true)], args := [d1, d2] }
  | _ => none }
def fnExactShellSizesRow : OpenClaim := { program := "ytkeiaahlifdbiaa", sum := "c4f8875d3aba9055a99a7443dccfe42d845c41e85a4a6c413e2a361734c251f8", func := "loop.example/g01084/laws.FnExactShellSizes", spec := "fnExactShellSizes", plainKeys := false, apart := false }
def FnExactShellSizesSaid : Prop := fnExactShellSizesRow.holds Try.pinned (OpenSpec.ofChange fnExactShellSizesSpec)

/-- ITS FALSE NEIGHBOUR: 'it returns false'. Refute it at one input. -/
def fnExactShellSizesWrong : ChangeSpec := { name := "fnExactShellSizes", fn := fun _ => fun
  | [d1, d2] => { results := [.lit (.bool false)], args := [d1, d2] }
  | _ => none }
def FnExactShellSizesWrongFalsely : Prop := fnExactShellSizesRow.holds Try.pinned (OpenSpec.ofChange fnExactShellSizesWrong)

/-- 'laws.FnExactComponentsOf': WHATEVER THE INPUT: true; the input reads as it did. -/
def fnExactComponentsOfSpec : ChangeSpec := { name := "fnExactComponentsOf", fn := fun _ => fun
  | [d] => { results := [.lit (.bool true)], args := [d] }
  | _ => none }
def fnExactComponentsOfRow : OpenClaim := { program := "ytkeiaahlifdbiaa", sum := "c4f8875d3aba9055a99a7443dccfe42d845c41e85a4a6c413e2a361734c251f8", func := "loop.example/g01084/laws.FnExactComponentsOf", spec := "fnExactComponentsOf", plainKeys := false, apart := false }
def FnExactComponentsOfSaid : Prop := fnExactComponentsOfRow.holds Try.pinned (OpenSpec.ofChange fnExactComponentsOfSpec)

/-- ITS FALSE NEIGHBOUR: 'it returns false'. Refute it at one input. -/
def fnExactComponentsOfWrong : ChangeSpec := { name := "fnExactComponentsOf", fn := fun _ => fun
  | [d] => { results := [.lit (.bool false)], args := [d] }
  | _ => none }
def FnExactComponentsOfWrongFalsely : Prop := fnExactComponentsOfRow.holds Try.pinned (OpenSpec.ofChange fnExactComponentsOfWrong)

/-- 'laws.FnExactIsConnected': WHATEVER THE INPUT: true; the input reads as it did. -/
def fnExactIsConnectedSpec : ChangeSpec := { name := "fnExactIsConnected", fn := fun _ => fun
  | [d] => { results := [.lit (.bool true)], args := [d] }
  | _ => none }
def fnExactIsConnectedRow : OpenClaim := { program := "ytkeiaahlifdbiaa", sum := "c4f8875d3aba9055a99a7443dccfe42d845c41e85a4a6c413e2a361734c251f8", func := "loop.example/g01084/laws.FnExactIsConnected", spec := "fnExactIsConnected", plainKeys := false, apart := false }
def FnExactIsConnectedSaid : Prop := fnExactIsConnectedRow.holds Try.pinned (OpenSpec.ofChange fnExactIsConnectedSpec)

/-- ITS FALSE NEIGHBOUR: 'it returns false'. Refute it at one input. -/
def fnExactIsConnectedWrong : ChangeSpec := { name := "fnExactIsConnected", fn := fun _ => fun
  | [d] => { results := [.lit (.bool false)], args := [d] }
  | _ => none }
def FnExactIsConnectedWrongFalsely : Prop := fnExactIsConnectedRow.holds Try.pinned (OpenSpec.ofChange fnExactIsConnectedWrong)

/-- 'laws.FnExactDiameterOf': WHATEVER THE INPUT: true; the input reads as it did. -/
def fnExactDiameterOfSpec : ChangeSpec := { name := "fnExactDiameterOf", fn := fun _ => fun
  | [d] => { results := [.lit (.bool true)], args := [d] }
  | _ => none }
def fnExactDiameterOfRow : OpenClaim := { program := "ytkeiaahlifdbiaa", sum := "c4f8875d3aba9055a99a7443dccfe42d845c41e85a4a6c413e2a361734c251f8", func := "loop.example/g01084/laws.FnExactDiameterOf", spec := "fnExactDiameterOf", plainKeys := false, apart := false }
def FnExactDiameterOfSaid : Prop := fnExactDiameterOfRow.holds Try.pinned (OpenSpec.ofChange fnExactDiameterOfSpec)

/-- ITS FALSE NEIGHBOUR: 'it returns false'. Refute it at one input. -/
def fnExactDiameterOfWrong : ChangeSpec := { name := "fnExactDiameterOf", fn := fun _ => fun
  | [d] => { results := [.lit (.bool false)], args := [d] }
  | _ => none }
def FnExactDiameterOfWrongFalsely : Prop := fnExactDiameterOfRow.holds Try.pinned (OpenSpec.ofChange fnExactDiameterOfWrong)

/-- 'laws.FnExactCentresOf': WHATEVER THE INPUT: true; the input reads as it did. -/
def fnExactCentresOfSpec : ChangeSpec := { name := "fnExactCentresOf", fn := fun _ => fun
  | [d] => { results := [.lit (.bool true)], args := [d] }
  | _ => none }
def fnExactCentresOfRow : OpenClaim := { program := "ytkeiaahlifdbiaa", sum := "c4f8875d3aba9055a99a7443dccfe42d845c41e85a4a6c413e2a361734c251f8", func := "loop.example/g01084/laws.FnExactCentresOf", spec := "fnExactCentresOf", plainKeys := false, apart := false }
def FnExactCentresOfSaid : Prop := fnExactCentresOfRow.holds Try.pinned (OpenSpec.ofChange fnExactCentresOfSpec)

/-- ITS FALSE NEIGHBOUR: 'it returns false'. Refute it at one input. -/
def fnExactCentresOfWrong : ChangeSpec := { name := "fnExactCentresOf", fn := fun _ => fun
  | [d] => { results := [.lit (.bool false)], args := [d] }
  | _ => none }
def FnExactCentresOfWrongFalsely : Prop := fnExactCentresOfRow.holds Try.pinned (OpenSpec.ofChange fnExactCentresOfWrong)

/-- 'laws.FnExactGirthOf': WHATEVER THE INPUT: true; the input reads as it did. -/
def fnExactGirthOfSpec : ChangeSpec := { name := "fnExactGirthOf", fn := fun _ => fun
  | [d] => { results := [.lit (.bool true)], args := [d] }
  | _ => none }
def fnExactGirthOfRow : OpenClaim := { program := "ytkeiaahlifdbiaa", sum := "c4f8875d3aba9055a99a7443dccfe42d845c41e85a4a6c413e2a361734c251f8", func := "loop.example/g01084/laws.FnExactGirthOf", spec := "fnExactGirthOf", plainKeys := false, apart := false }
def FnExactGirthOfSaid : Prop := fnExactGirthOfRow.holds Try.pinned (OpenSpec.ofChange fnExactGirthOfSpec)

/-- ITS FALSE NEIGHBOUR: 'it returns false'. Refute it at one input. -/
def fnExactGirthOfWrong : ChangeSpec := { name := "fnExactGirthOf", fn := fun _ => fun
  | [d] => { results := [.lit (.bool false)], args := [d] }
  | _ => none }
def FnExactGirthOfWrongFalsely : Prop := fnExactGirthOfRow.holds Try.pinned (OpenSpec.ofChange fnExactGirthOfWrong)

/-- 'laws.FnExactIsForest': WHATEVER THE INPUT: true; the input reads as it did. -/
def fnExactIsForestSpec : ChangeSpec := { name := "fnExactIsForest", fn := fun _ => fun
  | [d] => { results := [.lit (.bool true)], args := [d] }
  | _ => none }
def fnExactIsForestRow : OpenClaim := { program := "ytkeiaahlifdbiaa", sum := "c4f8875d3aba9055a99a7443dccfe42d845c41e85a4a6c413e2a361734c251f8", func := "loop.example/g01084/laws.FnExactIsForest", spec := "fnExactIsForest", plainKeys := false, apart := false }
def FnExactIsForestSaid : Prop := fnExactIsForestRow.holds Try.pinned (OpenSpec.ofChange fnExactIsForestSpec)

/-- ITS FALSE NEIGHBOUR: 'it returns false'. Refute it at one input. -/
def fnExactIsForestWrong : ChangeSpec := { name := "fnExactIsForest", fn := fun _ => fun
  | [d] => { results := [.lit (.bool false)], args := [d] }
  | _ => none }
def FnExactIsForestWrongFalsely : Prop := fnExactIsForestRow.holds Try.pinned (OpenSpec.ofChange fnExactIsForestWrong)

/-- 'laws.FnExactIsTree': WHATEVER THE INPUT: true; the input reads as it did. -/
def fnExactIsTreeSpec : ChangeSpec := { name := "fnExactIsTree", fn := fun _ => fun
  | [d] => { results := [.lit (.bool true)], args := [d] }
  | _ => none }
def fnExactIsTreeRow : OpenClaim := { program := "ytkeiaahlifdbiaa", sum := "c4f8875d3aba9055a99a7443dccfe42d845c41e85a4a6c413e2a361734c251f8", func := "loop.example/g01084/laws.FnExactIsTree", spec := "fnExactIsTree", plainKeys := false, apart := false }
def FnExactIsTreeSaid : Prop := fnExactIsTreeRow.holds Try.pinned (OpenSpec.ofChange fnExactIsTreeSpec)

/-- ITS FALSE NEIGHBOUR: 'it returns false'. Refute it at one input. -/
def fnExactIsTreeWrong : ChangeSpec := { name := "fnExactIsTree", fn := fun _ => fun
  | [d] => { results := [.lit (.bool false)], args := [d] }
  | _ => none }
def FnExactIsTreeWrongFalsely : Prop := fnExactIsTreeRow.holds Try.pinned (OpenSpec.ofChange fnExactIsTreeWrong)

/-- 'laws.FnExactTwoColouring': WHATEVER THE INPUT: true; the input reads as it did. -/
def fnExactTwoColouringSpec : ChangeSpec := { name := "fnExactTwoColouring", fn := fun _ => fun
  | [d] => { results := [.lit (.bool true)], args := [d] }
  | _ => none }
def fnExactTwoColouringRow : OpenClaim := { program := "ytkeiaahlifdbiaa", sum := "c4f8875d3aba9055a99a7443dccfe42d845c41e85a4a6c413e2a361734c251f8", func := "loop.example/g01084/laws.FnExactTwoColouring", spec := "fnExactTwoColouring", plainKeys := false, apart := false }
def FnExactTwoColouringSaid : Prop := fnExactTwoColouringRow.holds Try.pinned (OpenSpec.ofChange fnExactTwoColouringSpec)

/-- ITS FALSE NEIGHBOUR: 'it returns false'. Refute it at one input. -/
def fnExactTwoColouringWrong : ChangeSpec := { name := "fnExactTwoColouring", fn := fun _ => fun
  | [d] => { results := [.lit (.bool false)], args := [d] }
  | _ => none }
def FnExactTwoColouringWrongFalsely : Prop := fnExactTwoColouringRow.holds Try.pinned (OpenSpec.ofChange fnExactTwoColouringWrong)

/-- 'laws.FnExactSpanningTree': WHATEVER THE INPUT: true; the input reads as it did. -/
def fnExactSpanningTreeSpec : ChangeSpec := { name := "fnExactSpanningTree", fn := fun _ => fun
  | [d1, d2] => { results := [.lit (.bool true)], args := [d1, d2] }
  | _ => none }
def fnExactSpanningTreeRow : OpenClaim := { program := "ytkeiaahlifdbiaa", sum := "c4f8875d3aba9055a99a7443dccfe42d845c41e85a4a6c413e2a361734c251f8", func := "loop.example/g01084/laws.FnExactSpanningTree", spec := "fnExactSpanningTree", unfollowed := true, recurses := true, plainKeys := false, apart := false }
def FnExactSpanningTreeSaid : Prop := fnExactSpanningTreeRow.holds Try.pinned (OpenSpec.ofChange fnExactSpanningTreeSpec)

/-- ITS FALSE NEIGHBOUR: 'it returns false'. Refute it at one input. -/
def fnExactSpanningTreeWrong : ChangeSpec := { name := "fnExactSpanningTree", fn := fun _ => fun
  | [d1, d2] => { results := [.lit (.bool false)], args := [d1, d2] }
  | _ => none }
def FnExactSpanningTreeWrongFalsely : Prop := fnExactSpanningTreeRow.holds Try.pinned (OpenSpec.ofChange fnExactSpanningTreeWrong)

/-- 'laws.FnExactPowerOf': WHATEVER THE INPUT: true; the input reads as it did. -/
def fnExactPowerOfSpec : ChangeSpec := { name := "fnExactPowerOf", fn := fun _ => fun
  | [d1, d2] => { results := [.lit (.bool true)], args := [d1, d2] }
  | _ => none }
def fnExactPowerOfRow : OpenClaim := { program := "ytkeiaahlifdbiaa", sum := "c4f8875d3aba9055a99a7443dccfe42d845c41e85a4a6c413e2a361734c251f8", func := "loop.example/g01084/laws.FnExactPowerOf", spec := "fnExactPowerOf", plainKeys := false, apart := false }
def FnExactPowerOfSaid : Prop := fnExactPowerOfRow.holds Try.pinned (OpenSpec.ofChange fnExactPowerOfSpec)

/-- ITS FALSE NEIGHBOUR: 'it returns false'. Refute it at one input. -/
def fnExactPowerOfWrong : ChangeSpec := { name := "fnExactPowerOf", fn := fun _ => fun
  | [d1, d2] => { results := [.lit (.bool false)], args := [d1, d2] }
  | _ => none }
def FnExactPowerOfWrongFalsely : Prop := fnExactPowerOfRow.holds Try.pinned (OpenSpec.ofChange fnExactPowerOfWrong)

/- THE SECOND FORM. 'bulk': how many values and letters a reading holds, each counted each time it is reached (what is shared counts as often as it is met; a slice's spare places count too). A statement '..UptoSaid' is the law's where the arguments, and the package variables that the reading takes, are together of bulk at most 1048576: NARROWER than '..Said'. Prove '..Said' where nothing that the law and all that it calls make is longer than what came in: it says more and counts as full. Else prove '..UptoSaid'. A law counts once. -/
mutual
def uptoBulk {H : Type} : DataW H → Nat
  | .lit (.string bytes) => bytes.length + 1
  | .lit _ => 1
  | .nil => 1
  | .ptr d => uptoBulk d + 1
  | .slice elems spare => uptoBulkAll elems + uptoBulkAll spare + 1
  | .agg parts => uptoBulkAll parts + 1
  | .iface _ d => uptoBulk d + 1
  | .map entries => uptoBulkEntries entries + 1
  | .held _ => 1
def uptoBulkAll {H : Type} : List (DataW H) → Nat
  | [] => 0
  | d :: r => uptoBulk d + uptoBulkAll r
def uptoBulkEntries {H : Type} : List (Lit × DataW H) → Nat
  | [] => 0
  | x :: r => uptoBulkEntry x + uptoBulkEntries r
def uptoBulkEntry {H : Type} : Lit × DataW H → Nat
  | (.string bytes, d) => bytes.length + uptoBulk d + 1
  | (_, d) => uptoBulk d + 1
 end
def uptoSmall : (H : Type) → List (DataW H) → Bool := fun _ ds => decide (uptoBulkAll ds ≤ 1048576)
def OpenSpec.upto (s : _root_.Go.ChangeSpec) : _root_.Go.OpenSpec := { _root_.Go.OpenSpec.ofChange s with cond := some uptoSmall }

/-- 'laws.FnExactDoubleCover', WHERE WHAT IT READS IS OF BULK AT MOST 1048576: true; the input reads as it did. -/
def fnExactDoubleCoverUptoRow : OpenClaim := { program := "ytkeiaahlifdbiaa", sum := "c4f8875d3aba9055a99a7443dccfe42d845c41e85a4a6c413e2a361734c251f8", func := "loop.example/g01084/laws.FnExactDoubleCover", spec := "fnExactDoubleCover", plainKeys := false, apart := false, narrowed := true }
def FnExactDoubleCoverUptoSaid : Prop := fnExactDoubleCoverUptoRow.holds Try.pinned (OpenSpec.upto fnExactDoubleCoverSpec)

/-- 'laws.FnExactSubdivideEdges', WHERE WHAT IT READS IS OF BULK AT MOST 1048576: true; the input reads as it did. -/
def fnExactSubdivideEdgesUptoRow : OpenClaim := { program := "ytkeiaahlifdbiaa", sum := "c4f8875d3aba9055a99a7443dccfe42d845c41e85a4a6c413e2a361734c251f8", func := "loop.example/g01084/laws.FnExactSubdivideEdges", spec := "fnExactSubdivideEdges", plainKeys := false, apart := false, narrowed := true }
def FnExactSubdivideEdgesUptoSaid : Prop := fnExactSubdivideEdgesUptoRow.holds Try.pinned (OpenSpec.upto fnExactSubdivideEdgesSpec)

/-- 'laws.FnExactLiftOf', WHERE WHAT IT READS IS OF BULK AT MOST 1048576: true; the input reads as it did. -/
def fnExactLiftOfUptoRow : OpenClaim := { program := "ytkeiaahlifdbiaa", sum := "c4f8875d3aba9055a99a7443dccfe42d845c41e85a4a6c413e2a361734c251f8", func := "loop.example/g01084/laws.FnExactLiftOf", spec := "fnExactLiftOf", plainKeys := false, apart := false, narrowed := true }
def FnExactLiftOfUptoSaid : Prop := fnExactLiftOfUptoRow.holds Try.pinned (OpenSpec.upto fnExactLiftOfSpec)

/-- 'laws.FnExactFibreProduct', WHERE WHAT IT READS IS OF BULK AT MOST 1048576: true; the input reads as it did. -/
def fnExactFibreProductUptoRow : OpenClaim := { program := "ytkeiaahlifdbiaa", sum := "c4f8875d3aba9055a99a7443dccfe42d845c41e85a4a6c413e2a361734c251f8", func := "loop.example/g01084/laws.FnExactFibreProduct", spec := "fnExactFibreProduct", plainKeys := false, apart := false, narrowed := true }
def FnExactFibreProductUptoSaid : Prop := fnExactFibreProductUptoRow.holds Try.pinned (OpenSpec.upto fnExactFibreProductSpec)

/-- 'laws.FnExactDistancesFrom', WHERE WHAT IT READS IS OF BULK AT MOST 1048576: true; the input reads as it did. -/
def fnExactDistancesFromUptoRow : OpenClaim := { program := "ytkeiaahlifdbiaa", sum := "c4f8875d3aba9055a99a7443dccfe42d845c41e85a4a6c413e2a361734c251f8", func := "loop.example/g01084/laws.FnExactDistancesFrom", spec := "fnExactDistancesFrom", plainKeys := false, apart := false, narrowed := true }
def FnExactDistancesFromUptoSaid : Prop := fnExactDistancesFromUptoRow.holds Try.pinned (OpenSpec.upto fnExactDistancesFromSpec)

/-- 'laws.FnExactBallOf', WHERE WHAT IT READS IS OF BULK AT MOST 1048576: true; the input reads as it did. -/
def fnExactBallOfUptoRow : OpenClaim := { program := "ytkeiaahlifdbiaa", sum := "c4f8875d3aba9055a99a7443dccfe42d845c41e85a4a6c413e2a361734c251f8", func := "loop.example/g01084/laws.FnExactBallOf", spec := "fnExactBallOf", plainKeys := false, apart := false, narrowed := true }
def FnExactBallOfUptoSaid : Prop := fnExactBallOfUptoRow.holds Try.pinned (OpenSpec.upto fnExactBallOfSpec)

/-- 'laws.FnExactShellSizes', WHERE WHAT IT READS IS OF BULK AT MOST 1048576: true; the input reads as it did. -/
def fnExactShellSizesUptoRow : OpenClaim := { program := "ytkeiaahlifdbiaa", sum := "c4f8875d3aba9055a99a7443dccfe42d845c41e85a4a6c413e2a361734c251f8", func := "loop.example/g01084/laws.FnExactShellSizes", spec := "fnExactShellSizes", plainKeys := false, apart := false, narrowed := true }
def FnExactShellSizesUptoSaid : Prop := fnExactShellSizesUptoRow.holds Try.pinned (OpenSpec.upto fnExactShellSizesSpec)

/-- 'laws.FnExactComponentsOf', WHERE WHAT IT READS IS OF BULK AT MOST 1048576: true; the input reads as it did. -/
def fnExactComponentsOfUptoRow : OpenClaim := { program := "ytkeiaahlifdbiaa", sum := "c4f8875d3aba9055a99a7443dccfe42d845c41e85a4a6c413e2a361734c251f8", func := "loop.example/g01084/laws.FnExactComponentsOf", spec := "fnExactComponentsOf", plainKeys := false, apart := false, narrowed := true }
def FnExactComponentsOfUptoSaid : Prop := fnExactComponentsOfUptoRow.holds Try.pinned (OpenSpec.upto fnExactComponentsOfSpec)

/-- 'laws.FnExactIsConnected', WHERE WHAT IT READS IS OF BULK AT MOST 1048576: true; the input reads as it did. -/
def fnExactIsConnectedUptoRow : OpenClaim := { program := "ytkeiaahlifdbiaa", sum := "c4f8875d3aba9055a99a7443dccfe42d845c41e85a4a6c413e2a361734c251f8", func := "loop.example/g01084/laws.FnExactIsConnected", spec := "fnExactIsConnected", plainKeys := false, apart := false, narrowed := true }
def FnExactIsConnectedUptoSaid : Prop := fnExactIsConnectedUptoRow.holds Try.pinned (OpenSpec.upto fnExactIsConnectedSpec)

/-- 'laws.FnExactDiameterOf', WHERE WHAT IT READS IS OF BULK AT MOST 1048576: true; the input reads as it did. -/
def fnExactDiameterOfUptoRow : OpenClaim := { program := "ytkeiaahlifdbiaa", sum := "c4f8875d3aba9055a99a7443dccfe42d845c41e85a4a6c413e2a361734c251f8", func := "loop.example/g01084/laws.FnExactDiameterOf", spec := "fnExactDiameterOf", plainKeys := false, apart := false, narrowed := true }
def FnExactDiameterOfUptoSaid : Prop := fnExactDiameterOfUptoRow.holds Try.pinned (OpenSpec.upto fnExactDiameterOfSpec)

/-- 'laws.FnExactCentresOf', WHERE WHAT IT READS IS OF BULK AT MOST 1048576: true; the input reads as it did. -/
def fnExactCentresOfUptoRow : OpenClaim := { program := "ytkeiaahlifdbiaa", sum := "c4f8875d3aba9055a99a7443dccfe42d845c41e85a4a6c413e2a361734c251f8", func := "loop.example/g01084/laws.FnExactCentresOf", spec := "fnExactCentresOf", plainKeys := false, apart := false, narrowed := true }
def FnExactCentresOfUptoSaid : Prop := fnExactCentresOfUptoRow.holds Try.pinned (OpenSpec.upto fnExactCentresOfSpec)

/-- 'laws.FnExactGirthOf', WHERE WHAT IT READS IS OF BULK AT MOST 1048576: true; the input reads as it did. -/
def fnExactGirthOfUptoRow : OpenClaim := { program := "ytkeiaahlifdbiaa", sum := "c4f8875d3aba9055a99a7443dccfe42d845c41e85a4a6c413e2a361734c251f8", func := "loop.example/g01084/laws.FnExactGirthOf", spec := "fnExactGirthOf", plainKeys := false, apart := false, narrowed := true }
def FnExactGirthOfUptoSaid : Prop := fnExactGirthOfUptoRow.holds Try.pinned (OpenSpec.upto fnExactGirthOfSpec)

/-- 'laws.FnExactIsForest', WHERE WHAT IT READS IS OF BULK AT MOST 1048576: true; the input reads as it did. -/
def fnExactIsForestUptoRow : OpenClaim := { program := "ytkeiaahlifdbiaa", sum := "c4f8875d3aba9055a99a7443dccfe42d845c41e85a4a6c413e2a361734c251f8", func := "loop.example/g01084/laws.FnExactIsForest", spec := "fnExactIsForest", plainKeys := false, apart := false, narrowed := true }
def FnExactIsForestUptoSaid : Prop := fnExactIsForestUptoRow.holds Try.pinned (OpenSpec.upto fnExactIsForestSpec)

/-- 'laws.FnExactIsTree', WHERE WHAT IT READS IS OF BULK AT MOST 1048576: true; the input reads as it did. -/
def fnExactIsTreeUptoRow : OpenClaim := { program := "ytkeiaahlifdbiaa", sum := "c4f8875d3aba9055a99a7443dccfe42d845c41e85a4a6c413e2a361734c251f8", func := "loop.example/g01084/laws.FnExactIsTree", spec := "fnExactIsTree", plainKeys := false, apart := false, narrowed := true }
def FnExactIsTreeUptoSaid : Prop := fnExactIsTreeUptoRow.holds Try.pinned (OpenSpec.upto fnExactIsTreeSpec)

/-- 'laws.FnExactTwoColouring', WHERE WHAT IT READS IS OF BULK AT MOST 1048576: true; the input reads as it did. -/
def fnExactTwoColouringUptoRow : OpenClaim := { program := "ytkeiaahlifdbiaa", sum := "c4f8875d3aba9055a99a7443dccfe42d845c41e85a4a6c413e2a361734c251f8", func := "loop.example/g01084/laws.FnExactTwoColouring", spec := "fnExactTwoColouring", plainKeys := false, apart := false, narrowed := true }
def FnExactTwoColouringUptoSaid : Prop := fnExactTwoColouringUptoRow.holds Try.pinned (OpenSpec.upto fnExactTwoColouringSpec)

/-- 'laws.FnExactSpanningTree', WHERE WHAT IT READS IS OF BULK AT MOST 1048576: true; the input reads as it did. -/
def fnExactSpanningTreeUptoRow : OpenClaim := { program := "ytkeiaahlifdbiaa", sum := "c4f8875d3aba9055a99a7443dccfe42d845c41e85a4a6c413e2a361734c251f8", func := "loop.example/g01084/laws.FnExactSpanningTree", spec := "fnExactSpanningTree", unfollowed := true, recurses := true, plainKeys := false, apart := false, narrowed := true }
def FnExactSpanningTreeUptoSaid : Prop := fnExactSpanningTreeUptoRow.holds Try.pinned (OpenSpec.upto fnExactSpanningTreeSpec)

/-- 'laws.FnExactPowerOf', WHERE WHAT IT READS IS OF BULK AT MOST 1048576: true; the input reads as it did. -/
def fnExactPowerOfUptoRow : OpenClaim := { program := "ytkeiaahlifdbiaa", sum := "c4f8875d3aba9055a99a7443dccfe42d845c41e85a4a6c413e2a361734c251f8", func := "loop.example/g01084/laws.FnExactPowerOf", spec := "fnExactPowerOf", plainKeys := false, apart := false, narrowed := true }
def FnExactPowerOfUptoSaid : Prop := fnExactPowerOfUptoRow.holds Try.pinned (OpenSpec.upto fnExactPowerOfSpec)

end Rows
end Go.Proofs.Ytkeiaahlifdbiaa
