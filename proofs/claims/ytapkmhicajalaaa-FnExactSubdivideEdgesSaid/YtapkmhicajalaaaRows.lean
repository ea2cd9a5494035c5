/-
  No cell of these rows narrows 'for every input' (looked for: loops, veiled, ifaces, maps, wideKeys, modest, calm, conditions, laid).
  DERIVED. THE GIVEN ROWS OF THIS SEAT. 15 by the template 'for every input the law returns true; each argument reads behind the call as it read before'; 0 by the template 'total and deterministic' (their statements: YtapkmhicajalaaaTotals.lean).
  GIVEN WITH THE SEED: the statements are not yours to turn. If you find one false, say at which input.
  Laid BY PROGRAM, IN A SANDBOX (cutbox-rows.mjs): the forced cells as the released guide's own fill.sh prints them over the translation d1e1687d189ca703… (all of the seat's roots in one cut). By AI agents, Wed Nov 11 2026. No macro, syntax, notation, axiom, sorry.
-/
import Derived.Test.YtapkmhicajalaaaChecked
import GoSem.Claim
import GoSem.ClaimJoined
import GoSem.ClaimMapViews
import Derived.JoinedTies
import Derived.KernelRfl
namespace Go.Proofs.Ytapkmhicajalaaa
/- THE CELL 'sum', in the pinned program and in every row, IS THE sha256 OF THE DUMP (.gsa) THAT YtapkmhicajalaaaProg.lean LOADS. Nothing in Lean hashes anything: it is a label: what it is worth is what the hold of that sum in a sandbox is worth. -/
noncomputable def Try.pinned : Pinned := { name := "ytapkmhicajalaaa", sum := "d1e1687d189ca703d0f75a97fb0bcf26966a4b66e398b9c0e6022ce06b701ece", checked := Try.checked }
namespace Rows
def none {H : Type} : Left H := { results := [], args := [] }

/-- 'laws.FnExactViewClasses': WHATEVER THE INPUT: true; the input reads as it did. -/
def fnExactViewClassesSpec : ChangeSpec := { name := "fnExactViewClasses", fn := fun _ => fun
  | [d1, d2] => { results := [.lit (.bool true)], args := [d1, d2] }
  | _ => none }
def fnExactViewClassesRow : OpenClaim := { program := "ytapkmhicajalaaa", sum := "d1e1687d189ca703d0f75a97fb0bcf26966a4b66e398b9c0e6022ce06b701ece", func := "loop.example/g01084/laws.FnExactViewClasses", spec := "fnExactViewClasses", unfollowed := true, recurses := true, apart := false }
def FnExactViewClassesSaid : Prop := fnExactViewClassesRow.holds Try.pinned (OpenSpec.ofChange fnExactViewClassesSpec)

/-- ITS FALSE NEIGHBOUR: 'it returns false'. Refute it at one input. -/
def fnExactViewClassesWrong : ChangeSpec := { name := "fnExactViewClasses", fn := fun _ => fun
  | [d1, d2] => { results := [.lit (.bool false)], args := [d1, d2] }
  | _ => none }
def FnExactViewClassesWrongFalsely : Prop := fnExactViewClassesRow.holds Try.pinned (OpenSpec.ofChange fnExactViewClassesWrong)

/-- 'laws.FnExactStableDepth': WHATEVER THE INPUT: true; the input reads as it did. -/
def fnExactStableDepthSpec : ChangeSpec := { name := "fnExactStableDepth", fn := fun _ => fun
  | [d] => { results := [.lit (.bool true)], args := [d] }
  | _ => none }
def fnExactStableDepthRow : OpenClaim := { program := "ytapkmhicajalaaa", sum := "d1e1687d189ca703d0f75a97fb0bcf26966a4b66e398b9c0e6022ce06b701ece", func := "loop.example/g01084/laws.FnExactStableDepth", spec := "fnExactStableDepth", unfollowed := true, recurses := true, apart := false }
def FnExactStableDepthSaid : Prop := fnExactStableDepthRow.holds Try.pinned (OpenSpec.ofChange fnExactStableDepthSpec)

/-- ITS FALSE NEIGHBOUR: 'it returns false'. Refute it at one input. -/
def fnExactStableDepthWrong : ChangeSpec := { name := "fnExactStableDepth", fn := fun _ => fun
  | [d] => { results := [.lit (.bool false)], args := [d] }
  | _ => none }
def FnExactStableDepthWrongFalsely : Prop := fnExactStableDepthRow.holds Try.pinned (OpenSpec.ofChange fnExactStableDepthWrong)

/-- 'laws.FnExactTwinClasses': WHATEVER THE INPUT: true; the input reads as it did. -/
def fnExactTwinClassesSpec : ChangeSpec := { name := "fnExactTwinClasses", fn := fun _ => fun
  | [d] => { results := [.lit (.bool true)], args := [d] }
  | _ => none }
def fnExactTwinClassesRow : OpenClaim := { program := "ytapkmhicajalaaa", sum := "d1e1687d189ca703d0f75a97fb0bcf26966a4b66e398b9c0e6022ce06b701ece", func := "loop.example/g01084/laws.FnExactTwinClasses", spec := "fnExactTwinClasses", unfollowed := true, recurses := true, apart := false }
def FnExactTwinClassesSaid : Prop := fnExactTwinClassesRow.holds Try.pinned (OpenSpec.ofChange fnExactTwinClassesSpec)

/-- ITS FALSE NEIGHBOUR: 'it returns false'. Refute it at one input. -/
def fnExactTwinClassesWrong : ChangeSpec := { name := "fnExactTwinClasses", fn := fun _ => fun
  | [d] => { results := [.lit (.bool false)], args := [d] }
  | _ => none }
def FnExactTwinClassesWrongFalsely : Prop := fnExactTwinClassesRow.holds Try.pinned (OpenSpec.ofChange fnExactTwinClassesWrong)

/-- 'laws.FnExactIsSymmetric': WHATEVER THE INPUT: true; the input reads as it did. -/
def fnExactIsSymmetricSpec : ChangeSpec := { name := "fnExactIsSymmetric", fn := fun _ => fun
  | [d] => { results := [.lit (.bool true)], args := [d] }
  | _ => none }
def fnExactIsSymmetricRow : OpenClaim := { program := "ytapkmhicajalaaa", sum := "d1e1687d189ca703d0f75a97fb0bcf26966a4b66e398b9c0e6022ce06b701ece", func := "loop.example/g01084/laws.FnExactIsSymmetric", spec := "fnExactIsSymmetric", unfollowed := true, recurses := true, apart := false }
def FnExactIsSymmetricSaid : Prop := fnExactIsSymmetricRow.holds Try.pinned (OpenSpec.ofChange fnExactIsSymmetricSpec)

/-- ITS FALSE NEIGHBOUR: 'it returns false'. Refute it at one input. -/
def fnExactIsSymmetricWrong : ChangeSpec := { name := "fnExactIsSymmetric", fn := fun _ => fun
  | [d] => { results := [.lit (.bool false)], args := [d] }
  | _ => none }
def FnExactIsSymmetricWrongFalsely : Prop := fnExactIsSymmetricRow.holds Try.pinned (OpenSpec.ofChange fnExactIsSymmetricWrong)

/-- 'laws.FnExactSameView': WHATEVER THE INPUT: true; the input reads as it did. -/
def fnExactSameViewSpec : ChangeSpec := { name := "fnExactSameView", fn := fun _ => fun
  | [d1, d2, d3, d4, d5] => { results := [.lit (.bool true)], args := [d1, d2, d3, d4, d5] }
  | _ => none }
def fnExactSameViewRow : OpenClaim := { program := "ytapkmhicajalaaa", sum := "d1e1687d189ca703d0f75a97fb0bcf26966a4b66e398b9c0e6022ce06b701ece", func := "loop.example/g01084/laws.FnExactSameView", spec := "fnExactSameView", unfollowed := true, recurses := true, apart := false }
def FnExactSameViewSaid : Prop := fnExactSameViewRow.holds Try.pinned (OpenSpec.ofChange fnExactSameViewSpec)

/-- ITS FALSE NEIGHBOUR: 'it returns false'. Refute it at one input. -/
def fnExactSameViewWrong : ChangeSpec := { name := "fnExactSameView", fn := fun _ => fun
  | [d1, d2, d3, d4, d5] => { results := [.lit (.bool false)], args := [d1, d2, d3, d4, d5] }
  | _ => none }
def FnExactSameViewWrongFalsely : Prop := fnExactSameViewRow.holds Try.pinned (OpenSpec.ofChange fnExactSameViewWrong)

/-- 'laws.FnExactAreTwins': WHATEVER THE INPUT: true; the input reads as it did. -/
def fnExactAreTwinsSpec : ChangeSpec := { name := "fnExactAreTwins", fn := fun _ => fun
  | [d1, d2, d3, d4] => { results := [.lit (.bool true)], args := [d1, d2, d3, d4] }
  | _ => none }
def fnExactAreTwinsRow : OpenClaim := { program := "ytapkmhicajalaaa", sum := "d1e1687d189ca703d0f75a97fb0bcf26966a4b66e398b9c0e6022ce06b701ece", func := "loop.example/g01084/laws.FnExactAreTwins", spec := "fnExactAreTwins", unfollowed := true, recurses := true, apart := false }
def FnExactAreTwinsSaid : Prop := fnExactAreTwinsRow.holds Try.pinned (OpenSpec.ofChange fnExactAreTwinsSpec)

/-- ITS FALSE NEIGHBOUR: 'it returns false'. Refute it at one input. -/
def fnExactAreTwinsWrong : ChangeSpec := { name := "fnExactAreTwins", fn := fun _ => fun
  | [d1, d2, d3, d4] => { results := [.lit (.bool false)], args := [d1, d2, d3, d4] }
  | _ => none }
def FnExactAreTwinsWrongFalsely : Prop := fnExactAreTwinsRow.holds Try.pinned (OpenSpec.ofChange fnExactAreTwinsWrong)

/-- 'laws.FnExactSeparatingDepth': WHATEVER THE INPUT: true; the input reads as it did. -/
def fnExactSeparatingDepthSpec : ChangeSpec := { name := "fnExactSeparatingDepth", fn := fun _ => fun
  | [d1, d2, d3, d4] => { results := [.lit (.bool true)], args := [d1, d2, d3, d4] }
  | _ => none }
def fnExactSeparatingDepthRow : OpenClaim := { program := "ytapkmhicajalaaa", sum := "d1e1687d189ca703d0f75a97fb0bcf26966a4b66e398b9c0e6022ce06b701ece", func := "loop.example/g01084/laws.FnExactSeparatingDepth", spec := "fnExactSeparatingDepth", unfollowed := true, recurses := true, apart := false }
def FnExactSeparatingDepthSaid : Prop := fnExactSeparatingDepthRow.holds Try.pinned (OpenSpec.ofChange fnExactSeparatingDepthSpec)

/-- ITS FALSE NEIGHBOUR: 'it returns false'. Refute it at one input. -/
def fnExactSeparatingDepthWrong : ChangeSpec := { name := "fnExactSeparatingDepth", fn := fun _ => fun
  | [d1, d2, d3, d4] => { results := [.lit (.bool false)], args := [d1, d2, d3, d4] }
  | _ => none }
def FnExactSeparatingDepthWrongFalsely : Prop := fnExactSeparatingDepthRow.holds Try.pinned (OpenSpec.ofChange fnExactSeparatingDepthWrong)

/-- 'laws.FnExactViewSize': WHATEVER THE INPUT: true; the input reads as it did. -/
def fnExactViewSizeSpec : ChangeSpec := { name := "fnExactViewSize", fn := fun _ => fun
  | [d1, d2, d3] => { results := [.lit (.bool true)], args := [d1, d2, d3] }
  | _ => none }
def fnExactViewSizeRow : OpenClaim := { program := "ytapkmhicajalaaa", sum := "d1e1687d189ca703d0f75a97fb0bcf26966a4b66e398b9c0e6022ce06b701ece", func := "loop.example/g01084/laws.FnExactViewSize", spec := "fnExactViewSize", apart := false }
def FnExactViewSizeSaid : Prop := fnExactViewSizeRow.holds Try.pinned (OpenSpec.ofChange fnExactViewSizeSpec)

/-- ITS FALSE NEIGHBOUR: 'it returns false'. Refute it at one input. -/
def fnExactViewSizeWrong : ChangeSpec := { name := "fnExactViewSize", fn := fun _ => fun
  | [d1, d2, d3] => { results := [.lit (.bool false)], args := [d1, d2, d3] }
  | _ => none }
def FnExactViewSizeWrongFalsely : Prop := fnExactViewSizeRow.holds Try.pinned (OpenSpec.ofChange fnExactViewSizeWrong)

/-- 'laws.FnExactUnfoldNetwork': WHATEVER THE INPUT: true; the input reads as it did. -/
def fnExactUnfoldNetworkSpec : ChangeSpec := { name := "fnExactUnfoldNetwork", fn := fun _ => fun
  | [d1, d2, d3] => { results := [.lit (.bool true)], args := [d1, d2, d3] }
  | _ => none }
def fnExactUnfoldNetworkRow : OpenClaim := { program := "ytapkmhicajalaaa", sum := "d1e1687d189ca703d0f75a97fb0bcf26966a4b66e398b9c0e6022ce06b701ece", func := "loop.example/g01084/laws.FnExactUnfoldNetwork", spec := "fnExactUnfoldNetwork", apart := false }
def FnExactUnfoldNetworkSaid : Prop := fnExactUnfoldNetworkRow.holds Try.pinned (OpenSpec.ofChange fnExactUnfoldNetworkSpec)

/-- ITS FALSE NEIGHBOUR: 'it returns false'. Refute it at one input. -/
def fnExactUnfoldNetworkWrong : ChangeSpec := { name := "fnExactUnfoldNetwork", fn := fun _ => fun
  | [d1, d2, d3] => { results := [.lit (.bool false)], args := [d1, d2, d3] }
  | _ => none }
def FnExactUnfoldNetworkWrongFalsely : Prop := fnExactUnfoldNetworkRow.holds Try.pinned (OpenSpec.ofChange fnExactUnfoldNetworkWrong)

/-- 'laws.FnExactUnionOf': WHATEVER THE INPUT: true; the input reads as it did. -/
def fnExactUnionOfSpec : ChangeSpec := { name := "fnExactUnionOf", fn := fun _ => fun
  | [d1, d2] => { results := [.lit (.bool true)], args := [d1, d2] }
  | _ => none }
def fnExactUnionOfRow : OpenClaim := { program := "ytapkmhicajalaaa", sum := "d1e1687d189ca703d0f75a97fb0bcf26966a4b66e398b9c0e6022ce06b701ece", func := "loop.example/g01084/laws.FnExactUnionOf", spec := "fnExactUnionOf", apart := false }
def FnExactUnionOfSaid : Prop := fnExactUnionOfRow.holds Try.pinned (OpenSpec.ofChange fnExactUnionOfSpec)

/-- ITS FALSE NEIGHBOUR: 'it returns false'. Refute it at one input. -/
def fnExactUnionOfWrong : ChangeSpec := { name := "fnExactUnionOf", fn := fun _ => fun
  | [d1, d2] => { results := [.lit (.bool false)], args := [d1, d2] }
  | _ => none }
def FnExactUnionOfWrongFalsely : Prop := fnExactUnionOfRow.holds Try.pinned (OpenSpec.ofChange fnExactUnionOfWrong)

/-- 'laws.FnExactDoubleCover': WHATEVER THE INPUT: true; the input reads as it did. -/
def fnExactDoubleCoverSpec : ChangeSpec := { name := "fnExactDoubleCover", fn := fun _ => fun
  | [d] => { results := [.lit (.bool true)], args := [d] }
  | _ => none }
def fnExactDoubleCoverRow : OpenClaim := { program := "ytapkmhicajalaaa", sum := "d1e1687d189ca703d0f75a97fb0bcf26966a4b66e398b9c0e6022ce06b701ece", func := "loop.example/g01084/laws.FnExactDoubleCover", spec := "fnExactDoubleCover", apart := false }
def FnExactDoubleCoverSaid : Prop := fnExactDoubleCoverRow.holds Try.pinned (OpenSpec.ofChange fnExactDoubleCoverSpec)

/-- ITS FALSE NEIGHBOUR: 'it returns false'. Refute it at one input. -/
def fnExactDoubleCoverWrong : ChangeSpec := { name := "fnExactDoubleCover", fn := fun _ => fun
  | [d] => { results := [.lit (.bool false)], args := [d] }
  | _ => none }
def FnExactDoubleCoverWrongFalsely : Prop := fnExactDoubleCoverRow.holds Try.pinned (OpenSpec.ofChange fnExactDoubleCoverWrong)

/-- 'laws.FnExactSubdivideEdges': WHATEVER THE INPUT: true; the input reads as it did. -/
def fnExactSubdivideEdgesSpec : ChangeSpec := { name := "fnExactSubdivideEdges", fn := fun _ => fun
  | [d] => { results := [.lit (.bool true)], args := [d] }
  | _ => none }
def fnExactSubdivideEdgesRow : OpenClaim := { program := "ytapkmhicajalaaa", sum := "d1e1687d189ca703d0f75a97fb0bcf26966a4b66e398b9c0e6022ce06b701ece", func := "loop.example/g01084/laws.FnExactSubdivideEdges", spec := "fnExactSubdivideEdges", apart := false }
def FnExactSubdivideEdgesSaid : Prop := fnExactSubdivideEdgesRow.holds Try.pinned (OpenSpec.ofChange fnExactSubdivideEdgesSpec)

/-- ITS FALSE NEIGHBOUR: 'it returns false'. Refute it at one input. -/
def fnExactSubdivideEdgesWrong : ChangeSpec := { name := "fnExactSubdivideEdges", fn := fun _ => fun
  | [d] => { results := [.lit (.bool false)], args := [d] }
  | _ => none }
def FnExactSubdivideEdgesWrongFalsely : Prop := fnExactSubdivideEdgesRow.holds Try.pinned (OpenSpec.ofChange fnExactSubdivideEdgesWrong)

/-- 'laws.FnExactKeepNodes': WHATEVER THE INPUT: true; the input reads as it did. -/
def fnExactKeepNodesSpec : ChangeSpec := { name := "fnExactKeepNodes", fn := fun _ => fun
  | [d1, d2] => { results := [.lit (.bool true)], args := [d1, d2] }
  | _ => none }
def fnExactKeepNodesRow : OpenClaim := { program := "ytapkmhicajalaaa", sum := "d1e1687d189ca703d0f75a97fb0bcf26966a4b66e398b9c0e6022ce06b701ece", func := "loop.example/g01084/laws.FnExactKeepNodes", spec := "fnExactKeepNodes", apart := false }
def FnExactKeepNodesSaid : Prop := fnExactKeepNodesRow.holds Try.pinned (OpenSpec.ofChange fnExactKeepNodesSpec)

/-- ITS FALSE NEIGHBOUR: 'it returns false'. Refute it at one input. -/
def fnExactKeepNodesWrong : ChangeSpec := { name := "fnExactKeepNodes", fn := fun _ => fun
  | [d1, d2] => { results := [.lit (.bool false)], args := [d1, d2] }
  | _ => none }
def FnExactKeepNodesWrongFalsely : Prop := fnExactKeepNodesRow.holds Try.pinned (OpenSpec.ofChange fnExactKeepNodesWrong)

/-- 'laws.FnExactStarNetwork': WHATEVER THE INPUT: true; the input reads as it did. -/
def fnExactStarNetworkSpec : ChangeSpec := { name := "fnExactStarNetwork", fn := fun _ => fun
  | [d] => { results := [.lit (.bool true)], args := [d] }
  | _ => none }
def fnExactStarNetworkRow : OpenClaim := { program := "ytapkmhicajalaaa", sum := "d1e1687d189ca703d0f75a97fb0bcf26966a4b66e398b9c0e6022ce06b701ece", func := "loop.example/g01084/laws.FnExactStarNetwork", spec := "fnExactStarNetwork", apart := false }
def FnExactStarNetworkSaid : Prop := fnExactStarNetworkRow.holds Try.pinned (OpenSpec.ofChange fnExactStarNetworkSpec)

/-- ITS FALSE NEIGHBOUR: 'it returns false'. Refute it at one input. -/
def fnExactStarNetworkWrong : ChangeSpec := { name := "fnExactStarNetwork", fn := fun _ => fun
  | [d] => { results := [.lit (.bool false)], args := [d] }
  | _ => none }
def FnExactStarNetworkWrongFalsely : Prop := fnExactStarNetworkRow.holds Try.pinned (OpenSpec.ofChange fnExactStarNetworkWrong)

/-- 'laws.FnExactRegularTree': WHATEVER THE INPUT: true; the input reads as it did. -/
def fnExactRegularTreeSpec : ChangeSpec := { name := "fnExactRegularTree", fn := fun _ => fun
  | [d1, d2] => { results := [.lit (.bool true)], args := [d1, d2] }
  | _ => none }
def fnExactRegularTreeRow : OpenClaim := { program := "ytapkmhicajalaaa", sum := "d1e1687d189ca703d0f75a97fb0bcf26966a4b66e398b9c0e6022ce06b701ece", func := "loop.example/g01084/laws.FnExactRegularTree", spec := "fnExactRegularTree", apart := false }
def FnExactRegularTreeSaid : Prop := fnExactRegularTreeRow.holds Try.pinned (OpenSpec.ofChange fnExactRegularTreeSpec)

/-- ITS FALSE NEIGHBOUR: 'it returns false'. Refute it at one input. -/
def fnExactRegularTreeWrong : ChangeSpec := { name := "fnExactRegularTree", fn := fun _ => fun
  | [d1, d2] => { results := [.lit (.bool false)], args := [d1, d2] }
  | _ => none }
def FnExactRegularTreeWrongFalsely : Prop := fnExactRegularTreeRow.holds Try.pinned (OpenSpec.ofChange fnExactRegularTreeWrong)

/- THE SECOND FORM. 'bulk': how many values and letters a reading holds, each counted each time it is reached (what is shared counts as often as it is met; a slice's spare places count too). A statement '..UptoSaid' is the law's where the arguments, and the package variables that the reading takes, are together of bulk at most 1048576: NARROWER than '..Said'. Prove '..Said' where nothing that the law and all that it calls make is longer than what came in: it says more and counts as full. Else prove '..UptoSaid'. A law counts once. -/
mutual
def uptoBulk {H : Type} : DataW H → Nat
  | .lit (.string bytes) => bytes.length + 1
  | .lit _ => 1
  | .nil => 1
  | .ptr d => uptoBulk d + 1
  | .slice elems spare => uptoBulkAll elems + uptoBulkAll spare + 1
  | .agg parts => uptoBulkAll parts + 1
  | .iface _ d => uptoBulk d + 1
  | .map entries => uptoBulkEntries entries + 1
  | .held _ => 1
def uptoBulkAll {H : Type} : List (DataW H) → Nat
  | [] => 0
  | d :: r => uptoBulk d + uptoBulkAll r
def uptoBulkEntries {H : Type} : List (Lit × DataW H) → Nat
  | [] => 0
  | x :: r => uptoBulkEntry x + uptoBulkEntries r
def uptoBulkEntry {H : Type} : Lit × DataW H → Nat
  | (.string bytes, d) => bytes.length + uptoBulk d + 1
  | (_, d) => uptoBulk d + 1
 end
def uptoSmall : (H : Type) → List (DataW H) → Bool := fun _ ds => decide (uptoBulkAll ds ≤ 1048576)
def OpenSpec.upto (s : _root_.Go.ChangeSpec) : _root_.Go.OpenSpec := { _root_.Go.OpenSpec.ofChange s with cond := some uptoSmall }

/-- 'laws.FnExactViewClasses', WHERE WHAT IT READS IS OF BULK AT MOST 1048576: true; the input reads as it did. -/
def fnExactViewClassesUptoRow : OpenClaim := { program := "ytapkmhicajalaaa", sum := "d1e1687d189ca703d0f75a97fb0bcf26966a4b66e398b9c0e6022ce06b701ece", func := "loop.example/g01084/laws.FnExactViewClasses", spec := "fnExactViewClasses", unfollowed := true, recurses := true, apart := false, narrowed := true }
def FnExactViewClassesUptoSaid : Prop := fnExactViewClassesUptoRow.holds Try.pinned (OpenSpec.upto fnExactViewClassesSpec)

/-- 'laws.FnExactStableDepth', WHERE WHAT IT READS IS OF BULK AT MOST 1048576: true; the input reads as it did. -/
def fnExactStableDepthUptoRow : OpenClaim := { program := "ytapkmhicajalaaa", sum := "d1e1687d189ca703d0f75a97fb0bcf26966a4b66e398b9c0e6022ce06b701ece", func := "loop.example/g01084/laws.FnExactStableDepth", spec := "fnExactStableDepth", unfollowed := true, recurses := true, apart := false, narrowed := true }
def FnExactStableDepthUptoSaid : Prop := fnExactStableDepthUptoRow.holds Try.pinned (OpenSpec.upto fnExactStableDepthSpec)

/-- 'laws.FnExactTwinClasses', WHERE WHAT IT READS IS OF BULK AT MOST 1048576: true; the input reads as it did. -/
def fnExactTwinClassesUptoRow : OpenClaim := { program := "ytapkmhicajalaaa", sum := "d1e1687d189ca703d0f75a97fb0bcf26966a4b66e398b9c0e6022ce06b701ece", func := "loop.example/g01084/laws.FnExactTwinClasses", spec := "fnExactTwinClasses", unfollowed := true, recurses := true, apart := false, narrowed := true }
def FnExactTwinClassesUptoSaid : Prop := fnExactTwinClassesUptoRow.holds Try.pinned (OpenSpec.upto fnExactTwinClassesSpec)

/-- 'laws.FnExactIsSymmetric', WHERE WHAT IT READS IS OF BULK AT MOST 1048576: true; the input reads as it did. -/
def fnExactIsSymmetricUptoRow : OpenClaim := { program := "ytapkmhicajalaaa", sum := "d1e1687d189ca703d0f75a97fb0bcf26966a4b66e398b9c0e6022ce06b701ece", func := "loop.example/g01084/laws.FnExactIsSymmetric", spec := "fnExactIsSymmetric", unfollowed := true, recurses := true, apart := false, narrowed := true }
def FnExactIsSymmetricUptoSaid : Prop := fnExactIsSymmetricUptoRow.holds Try.pinned (OpenSpec.upto fnExactIsSymmetricSpec)

/-- 'laws.FnExactSameView', WHERE WHAT IT READS IS OF BULK AT MOST 1048576: true; the input reads as it did. -/
def fnExactSameViewUptoRow : OpenClaim := { program := "ytapkmhicajalaaa", sum := "d1e1687d189ca703d0f75a97fb0bcf26966a4b66e398b9c0e6022ce06b701ece", func := "loop.example/g01084/laws.FnExactSameView", spec := "fnExactSameView", unfollowed := true, recurses := true, apart := false, narrowed := true }
def FnExactSameViewUptoSaid : Prop := fnExactSameViewUptoRow.holds Try.pinned (OpenSpec.upto fnExactSameViewSpec)

/-- 'laws.FnExactAreTwins', WHERE WHAT IT READS IS OF BULK AT MOST 1048576: true; the input reads as it did. -/
def fnExactAreTwinsUptoRow : OpenClaim := { program := "ytapkmhicajalaaa", sum := "d1e1687d189ca703d0f75a97fb0bcf26966a4b66e398b9c0e6022ce06b701ece", func := "loop.example/g01084/laws.FnExactAreTwins", spec := "fnExactAreTwins", unfollowed := true, recurses := true, apart := false, narrowed := true }
def FnExactAreTwinsUptoSaid : Prop := fnExactAreTwinsUptoRow.holds Try.pinned (OpenSpec.upto fnExactAreTwinsSpec)

/-- 'laws.FnExactSeparatingDepth', WHERE WHAT IT READS IS OF BULK AT MOST 1048576: true; the input reads as it did. -/
def fnExactSeparatingDepthUptoRow : OpenClaim := { program := "ytapkmhicajalaaa", sum := "d1e1687d189ca703d0f75a97fb0bcf26966a4b66e398b9c0e6022ce06b701ece", func := "loop.example/g01084/laws.FnExactSeparatingDepth", spec := "fnExactSeparatingDepth", unfollowed := true, recurses := true, apart := false, narrowed := true }
def FnExactSeparatingDepthUptoSaid : Prop := fnExactSeparatingDepthUptoRow.holds Try.pinned (OpenSpec.upto fnExactSeparatingDepthSpec)

/-- 'laws.FnExactViewSize', WHERE WHAT IT READS IS OF BULK AT MOST 1048576: true; the input reads as it did. -/
def fnExactViewSizeUptoRow : OpenClaim := { program := "ytapkmhicajalaaa", sum := "d1e1687d189ca703d0f75a97fb0bcf26966a4b66e398b9c0e6022ce06b701ece", func := "loop.example/g01084/laws.FnExactViewSize", spec := "fnExactViewSize", apart := false, narrowed := true }
def FnExactViewSizeUptoSaid : Prop := fnExactViewSizeUptoRow.holds Try.pinned (OpenSpec.upto fnExactViewSizeSpec)

/-- 'laws.FnExactUnfoldNetwork', WHERE WHAT IT READS IS OF BULK AT MOST 1048576: true; the input reads as it did. -/
def fnExactUnfoldNetworkUptoRow : OpenClaim := { program := "ytapkmhicajalaaa", sum := "d1e1687d189ca703d0f75a97fb0bcf26966a4b66e398b9c0e6022ce06b701ece", func := "loop.example/g01084/laws.FnExactUnfoldNetwork", spec := "fnExactUnfoldNetwork", apart := false, narrowed := true }
def FnExactUnfoldNetworkUptoSaid : Prop := fnExactUnfoldNetworkUptoRow.holds Try.pinned (OpenSpec.upto fnExactUnfoldNetworkSpec)

/-- 'laws.FnExactUnionOf', WHERE WHAT IT READS IS OF BULK AT MOST 1048576: true; the input reads as it did. -/
def fnExactUnionOfUptoRow : OpenClaim := { program := "ytapkmhicajalaaa", sum := "d1e1687d189ca703d0f75a97fb0bcf26966a4b66e398b9c0e6022ce06b701ece", func := "loop.example/g01084/laws.FnExactUnionOf", spec := "fnExactUnionOf", apart := false, narrowed := true }
def FnExactUnionOfUptoSaid : Prop := fnExactUnionOfUptoRow.holds Try.pinned (OpenSpec.upto fnExactUnionOfSpec)

/-- 'laws.FnExactDoubleCover', WHERE WHAT IT READS IS OF BULK AT MOST 1048576: true; the input reads as it did. -/
def fnExactDoubleCoverUptoRow : OpenClaim := { program := "ytapkmhicajalaaa", sum := "d1e1687d189ca703d0f75a97fb0bcf26966a4b66e398b9c0e6022ce06b701ece", func := "loop.example/g01084/laws.FnExactDoubleCover", spec := "fnExactDoubleCover", apart := false, narrowed := true }
def FnExactDoubleCoverUptoSaid : Prop := fnExactDoubleCoverUptoRow.holds Try.pinned (OpenSpec.upto fnExactDoubleCoverSpec)

/-- 'laws.FnExactSubdivideEdges', WHERE WHAT IT READS IS OF BULK AT MOST 1048576: true; the input reads as it did. -/
def fnExactSubdivideEdgesUptoRow : OpenClaim := { program := "ytapkmhicajalaaa", sum := "d1e1687d189ca703d0f75a97fb0bcf26966a4b66e398b9c0e6022ce06b701ece", func := "loop.example/g01084/laws.FnExactSubdivideEdges", spec := "fnExactSubdivideEdges", apart := false, narrowed := true }
def FnExactSubdivideEdgesUptoSaid : Prop := fnExactSubdivideEdgesUptoRow.holds Try.pinned (OpenSpec.upto fnExactSubdivideEdgesSpec)

/-- 'laws.FnExactKeepNodes', WHERE WHAT IT READS IS OF BULK AT MOST 1048576: true; the input reads as it did. -/
def fnExactKeepNodesUptoRow : OpenClaim := { program := "ytapkmhicajalaaa", sum := "d1e1687d189ca703d0f75a97fb0bcf26966a4b66e398b9c0e6022ce06b701ece", func := "loop.example/g01084/laws.FnExactKeepNodes", spec := "fnExactKeepNodes", apart := false, narrowed := true }
def FnExactKeepNodesUptoSaid : Prop := fnExactKeepNodesUptoRow.holds Try.pinned (OpenSpec.upto fnExactKeepNodesSpec)

/-- 'laws.FnExactStarNetwork', WHERE WHAT IT READS IS OF BULK AT MOST 1048576: true; the input reads as it did. -/
def fnExactStarNetworkUptoRow : OpenClaim := { program := "ytapkmhicajalaaa", sum := "d1e1687d189ca703d0f75a97fb0bcf26966a4b66e398b9c0e6022ce06b701ece", func := "loop.example/g01084/laws.FnExactStarNetwork", spec := "fnExactStarNetwork", apart := false, narrowed := true }
def FnExactStarNetworkUptoSaid : Prop := fnExactStarNetworkUptoRow.holds Try.pinned (OpenSpec.upto fnExactStarNetworkSpec)

/-- 'laws.FnExactRegularTree', WHERE WHAT IT READS IS OF BULK AT MOST 1048576: true; the input reads as it did. -/
def fnExactRegularTreeUptoRow : OpenClaim := { program := "ytapkmhicajalaaa", sum := "d1e1687d189ca703d0f75a97fb0bcf26966a4b66e398b9c0e6022ce06b701ece", func := "loop.example/g01084/laws.FnExactRegularTree", spec := "fnExactRegularTree", apart := false, narrowed := true }
def FnExactRegularTreeUptoSaid : Prop := fnExactRegularTreeUptoRow.holds Try.pinned (OpenSpec.upto fnExactRegularTreeSpec)

end Rows
end Go.Proofs.Ytapkmhicajalaaa
