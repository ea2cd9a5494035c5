/-
  No cell of these rows narrows 'for every input' (looked for: loops, veiled, ifaces, maps, wideKeys, modest, calm, conditions, laid).
  DERIVED. THE GIVEN ROWS OF THIS SEAT. 12 by the template 'for every input the law returns true; each argument reads behind the call as it read before'; 0 by the template 'total and deterministic' (their statements: YtecdelmcnbgglaaTotals.lean).
  GIVEN WITH THE SEED: the statements are not yours to turn. If you find one false, say at which input.
  Laid BY PROGRAM, IN A SANDBOX (cutbox-rows.mjs): the forced cells as the released guide's own fill.sh prints them over the translation ff775121b19a4656… (all of the seat's roots in one cut). By AI agents, Wed Nov 11 2026. No macro, syntax, notation, axiom, sorry.
-/
import Derived.Test.YtecdelmcnbgglaaChecked
import GoSem.Claim
import GoSem.ClaimJoined
import GoSem.ClaimMapViews
import Derived.JoinedTies
import Derived.KernelRfl
namespace Go.Proofs.Ytecdelmcnbgglaa
/- THE CELL 'sum', in the pinned program and in every row, IS THE sha256 OF THE DUMP (.gsa) THAT YtecdelmcnbgglaaProg.lean LOADS. Nothing in Lean hashes anything: it is a label: what it is worth is what the hold of that sum in a sandbox is worth. -/
noncomputable def Try.pinned : Pinned := { name := "ytecdelmcnbgglaa", sum := "ff775121b19a46565500ee0f89336beb34a6147cf9fe817e5c9913296ca8c639", checked := Try.checked }
namespace Rows
def none {H : Type} : Left H := { results := [], args := [] }

/-- 'laws.FnExactPathNetwork': WHATEVER THE INPUT: true; the input reads as it did. -/
def fnExactPathNetworkSpec : ChangeSpec := { name := "fnExactPathNetwork", fn := fun _ => fun
  | [d] => { results := [.lit (.bool true)], args := [d] }
  | _ => none }
def fnExactPathNetworkRow : OpenClaim := { program := "ytecdelmcnbgglaa", sum := "ff775121b19a46565500ee0f89336beb34a6147cf9fe817e5c9913296ca8c639", func := "loop.example/g01084/laws.FnExactPathNetwork", spec := "fnExactPathNetwork", apart := false }
def FnExactPathNetworkSaid : Prop := fnExactPathNetworkRow.holds Try.pinned (OpenSpec.ofChange fnExactPathNetworkSpec)

/-- ITS FALSE NEIGHBOUR: 'it returns false'. Refute it at one input. -/
def fnExactPathNetworkWrong : ChangeSpec := { name := "fnExactPathNetwork", fn := fun _ => fun
  | [d] => { results := [.lit (.bool false)], args := [d] }
  | _ => none }
def FnExactPathNetworkWrongFalsely : Prop := fnExactPathNetworkRow.holds Try.pinned (OpenSpec.ofChange fnExactPathNetworkWrong)

/-- 'laws.FnExactCycleNetwork': WHATEVER THE INPUT: true; the input reads as it did. -/
def fnExactCycleNetworkSpec : ChangeSpec := { name := "fnExactCycleNetwork", fn := fun _ => fun
  | [d] => { results := [.lit (.bool true)], args := [d] }
  | _ => none }
def fnExactCycleNetworkRow : OpenClaim := { program := "ytecdelmcnbgglaa", sum := "ff775121b19a46565500ee0f89336beb34a6147cf9fe817e5c9913296ca8c639", func := "loop.example/g01084/laws.FnExactCycleNetwork", spec := "fnExactCycleNetwork", apart := false }
def FnExactCycleNetworkSaid : Prop := fnExactCycleNetworkRow.holds Try.pinned (OpenSpec.ofChange fnExactCycleNetworkSpec)

/-- ITS FALSE NEIGHBOUR: 'it returns false'. Refute it at one input. -/
def fnExactCycleNetworkWrong : ChangeSpec := { name := "fnExactCycleNetwork", fn := fun _ => fun
  | [d] => { results := [.lit (.bool false)], args := [d] }
  | _ => none }
def FnExactCycleNetworkWrongFalsely : Prop := fnExactCycleNetworkRow.holds Try.pinned (OpenSpec.ofChange fnExactCycleNetworkWrong)

/-- 'laws.FnExactCompleteNetwork': WHATEVER THE INPUT: true; the input reads as it did. -/
def fnExactCompleteNetworkSpec : ChangeSpec := { name := "fnExactCompleteNetwork", fn := fun _ => fun
  | [d] => { results := [.lit (.bool true)], args := [d] }
  | _ => none }
def fnExactCompleteNetworkRow : OpenClaim := { program := "ytecdelmcnbgglaa", sum := "ff775121b19a46565500ee0f89336beb34a6147cf9fe817e5c9913296ca8c639", func := "loop.example/g01084/laws.FnExactCompleteNetwork", spec := "fnExactCompleteNetwork", apart := false }
def FnExactCompleteNetworkSaid : Prop := fnExactCompleteNetworkRow.holds Try.pinned (OpenSpec.ofChange fnExactCompleteNetworkSpec)

/-- ITS FALSE NEIGHBOUR: 'it returns false'. Refute it at one input. -/
def fnExactCompleteNetworkWrong : ChangeSpec := { name := "fnExactCompleteNetwork", fn := fun _ => fun
  | [d] => { results := [.lit (.bool false)], args := [d] }
  | _ => none }
def FnExactCompleteNetworkWrongFalsely : Prop := fnExactCompleteNetworkRow.holds Try.pinned (OpenSpec.ofChange fnExactCompleteNetworkWrong)

/-- 'laws.FnExactStarNetwork': WHATEVER THE INPUT: true; the input reads as it did. -/
def fnExactStarNetworkSpec : ChangeSpec := { name := "fnExactStarNetwork", fn := fun _ => fun
  | [d] => { results := [.lit (.bool true)], args := [d] }
  | _ => none }
def fnExactStarNetworkRow : OpenClaim := { program := "ytecdelmcnbgglaa", sum := "ff775121b19a46565500ee0f89336beb34a6147cf9fe817e5c9913296ca8c639", func := "loop.example/g01084/laws.FnExactStarNetwork", spec := "fnExactStarNetwork", apart := false }
def FnExactStarNetworkSaid : Prop := fnExactStarNetworkRow.holds Try.pinned (OpenSpec.ofChange fnExactStarNetworkSpec)

/-- ITS FALSE NEIGHBOUR: 'it returns false'. Refute it at one input. -/
def fnExactStarNetworkWrong : ChangeSpec := { name := "fnExactStarNetwork", fn := fun _ => fun
  | [d] => { results := [.lit (.bool false)], args := [d] }
  | _ => none }
def FnExactStarNetworkWrongFalsely : Prop := fnExactStarNetworkRow.holds Try.pinned (OpenSpec.ofChange fnExactStarNetworkWrong)

/-- 'laws.FnExactGridNetwork': WHATEVER THE INPUT: true; the input reads as it did. -/
def fnExactGridNetworkSpec : ChangeSpec := { name := "fnExactGridNetwork", fn := fun _ => fun
  | [d1, d2] => { results := [.lit (.bool true)], args := [d1, d2] }
  | _ => none }
def fnExactGridNetworkRow : OpenClaim := { program := "ytecdelmcnbgglaa", sum := "ff775121b19a46565500ee0f89336beb34a6147cf9fe817e5c9913296ca8c639", func := "loop.example/g01084/laws.FnExactGridNetwork", spec := "fnExactGridNetwork", apart := false }
def FnExactGridNetworkSaid : Prop := fnExactGridNetworkRow.holds Try.pinned (OpenSpec.ofChange fnExactGridNetworkSpec)

/-- ITS FALSE NEIGHBOUR: 'it returns false'. Refute it at one input. -/
def fnExactGridNetworkWrong : ChangeSpec := { name := "fnExactGridNetwork", fn := fun _ => fun
  | [d1, d2] => { results := [.lit (.bool false)], args := [d1, d2] }
  | _ => none }
def FnExactGridNetworkWrongFalsely : Prop := fnExactGridNetworkRow.holds Try.pinned (OpenSpec.ofChange fnExactGridNetworkWrong)

/-- 'laws.FnExactTorusNetwork': WHATEVER THE INPUT: true; the input reads as it did. -/
def fnExactTorusNetworkSpec : ChangeSpec := { name := "fnExactTorusNetwork", fn := fun _ => fun
  | [d1, d2] => { results := [.lit (.bool true)], args := [d1, d2] }
  | _ => none }
def fnExactTorusNetworkRow : OpenClaim := { program := "ytecdelmcnbgglaa", sum := "ff775121b19a46565500ee0f89336beb34a6147cf9fe817e5c9913296ca8c639", func := "loop.example/g01084/laws.FnExactTorusNetwork", spec := "fnExactTorusNetwork", apart := false }
def FnExactTorusNetworkSaid : Prop := fnExactTorusNetworkRow.holds Try.pinned (OpenSpec.ofChange fnExactTorusNetworkSpec)

/-- ITS FALSE NEIGHBOUR: 'it returns false'. Refute it at one input. -/
def fnExactTorusNetworkWrong : ChangeSpec := { name := "fnExactTorusNetwork", fn := fun _ => fun
  | [d1, d2] => { results := [.lit (.bool false)], args := [d1, d2] }
  | _ => none }
def FnExactTorusNetworkWrongFalsely : Prop := fnExactTorusNetworkRow.holds Try.pinned (OpenSpec.ofChange fnExactTorusNetworkWrong)

/-- 'laws.FnExactHypercubeNetwork': WHATEVER THE INPUT: true; the input reads as it did. -/
def fnExactHypercubeNetworkSpec : ChangeSpec := { name := "fnExactHypercubeNetwork", fn := fun _ => fun
  | [d] => { results := [.lit (.bool true)], args := [d] }
  | _ => none }
def fnExactHypercubeNetworkRow : OpenClaim := { program := "ytecdelmcnbgglaa", sum := "ff775121b19a46565500ee0f89336beb34a6147cf9fe817e5c9913296ca8c639", func := "loop.example/g01084/laws.FnExactHypercubeNetwork", spec := "fnExactHypercubeNetwork", apart := false }
def FnExactHypercubeNetworkSaid : Prop := fnExactHypercubeNetworkRow.holds Try.pinned (OpenSpec.ofChange fnExactHypercubeNetworkSpec)

/-- ITS FALSE NEIGHBOUR: 'it returns false'. Refute it at one input. -/
def fnExactHypercubeNetworkWrong : ChangeSpec := { name := "fnExactHypercubeNetwork", fn := fun _ => fun
  | [d] => { results := [.lit (.bool false)], args := [d] }
  | _ => none }
def FnExactHypercubeNetworkWrongFalsely : Prop := fnExactHypercubeNetworkRow.holds Try.pinned (OpenSpec.ofChange fnExactHypercubeNetworkWrong)

/-- 'laws.FnExactRegularTree': WHATEVER THE INPUT: true; the input reads as it did. -/
def fnExactRegularTreeSpec : ChangeSpec := { name := "fnExactRegularTree", fn := fun _ => fun
  | [d1, d2] => { results := [.lit (.bool true)], args := [d1, d2] }
  | _ => none }
def fnExactRegularTreeRow : OpenClaim := { program := "ytecdelmcnbgglaa", sum := "ff775121b19a46565500ee0f89336beb34a6147cf9fe817e5c9913296ca8c639", func := "loop.example/g01084/laws.FnExactRegularTree", spec := "fnExactRegularTree", apart := false }
def FnExactRegularTreeSaid : Prop := fnExactRegularTreeRow.holds Try.pinned (OpenSpec.ofChange fnExactRegularTreeSpec)

/-- ITS FALSE NEIGHBOUR: 'it returns false'. Refute it at one input. -/
def fnExactRegularTreeWrong : ChangeSpec := { name := "fnExactRegularTree", fn := fun _ => fun
  | [d1, d2] => { results := [.lit (.bool false)], args := [d1, d2] }
  | _ => none }
def FnExactRegularTreeWrongFalsely : Prop := fnExactRegularTreeRow.holds Try.pinned (OpenSpec.ofChange fnExactRegularTreeWrong)

/-- 'laws.FnExactCirculantNetwork': WHATEVER THE INPUT: true; the input reads as it did. -/
def fnExactCirculantNetworkSpec : ChangeSpec := { name := "fnExactCirculantNetwork", fn := fun _ => fun
  | [d1, d2] => { results := [.lit (.bool true)], args := [d1, d2] }
  | _ => none }
def fnExactCirculantNetworkRow : OpenClaim := { program := "ytecdelmcnbgglaa", sum := "ff775121b19a46565500ee0f89336beb34a6147cf9fe817e5c9913296ca8c639", func := "loop.example/g01084/laws.FnExactCirculantNetwork", spec := "fnExactCirculantNetwork", apart := false }
def FnExactCirculantNetworkSaid : Prop := fnExactCirculantNetworkRow.holds Try.pinned (OpenSpec.ofChange fnExactCirculantNetworkSpec)

/-- ITS FALSE NEIGHBOUR: 'it returns false'. Refute it at one input. -/
def fnExactCirculantNetworkWrong : ChangeSpec := { name := "fnExactCirculantNetwork", fn := fun _ => fun
  | [d1, d2] => { results := [.lit (.bool false)], args := [d1, d2] }
  | _ => none }
def FnExactCirculantNetworkWrongFalsely : Prop := fnExactCirculantNetworkRow.holds Try.pinned (OpenSpec.ofChange fnExactCirculantNetworkWrong)

/-- 'laws.FnExactBouquetNetwork': WHATEVER THE INPUT: true; the input reads as it did. -/
def fnExactBouquetNetworkSpec : ChangeSpec := { name := "fnExactBouquetNetwork", fn := fun _ => fun
  | [d1, d2] => { results := [.lit (.bool true)], args := [d1, d2] }
  | _ => none }
def fnExactBouquetNetworkRow : OpenClaim := { program := "ytecdelmcnbgglaa", sum := "ff775121b19a46565500ee0f89336beb34a6147cf9fe817e5c9913296ca8c639", func := "loop.example/g01084/laws.FnExactBouquetNetwork", spec := "fnExactBouquetNetwork", apart := false }
def FnExactBouquetNetworkSaid : Prop := fnExactBouquetNetworkRow.holds Try.pinned (OpenSpec.ofChange fnExactBouquetNetworkSpec)

/-- ITS FALSE NEIGHBOUR: 'it returns false'. Refute it at one input. -/
def fnExactBouquetNetworkWrong : ChangeSpec := { name := "fnExactBouquetNetwork", fn := fun _ => fun
  | [d1, d2] => { results := [.lit (.bool false)], args := [d1, d2] }
  | _ => none }
def FnExactBouquetNetworkWrongFalsely : Prop := fnExactBouquetNetworkRow.holds Try.pinned (OpenSpec.ofChange fnExactBouquetNetworkWrong)

/-- 'laws.FnExactDoubleCover': WHATEVER THE INPUT: true; the input reads as it did. -/
def fnExactDoubleCoverSpec : ChangeSpec := { name := "fnExactDoubleCover", fn := fun _ => fun
  | [d] => { results := [.lit (.bool true)], args := [d] }
  | _ => none }
def fnExactDoubleCoverRow : OpenClaim := { program := "ytecdelmcnbgglaa", sum := "ff775121b19a46565500ee0f89336beb34a6147cf9fe817e5c9913296ca8c639", func := "loop.example/g01084/laws.FnExactDoubleCover", spec := "fnExactDoubleCover", apart := false }
def FnExactDoubleCoverSaid : Prop := fnExactDoubleCoverRow.holds Try.pinned (OpenSpec.ofChange fnExactDoubleCoverSpec)

/-- ITS FALSE NEIGHBOUR: 'it returns false'. Refute it at one input. -/
def fnExactDoubleCoverWrong : ChangeSpec := { name := "fnExactDoubleCover", fn := fun _ => fun
  | [d] => { results := [.lit (.bool false)], args := [d] }
  | _ => none }
def FnExactDoubleCoverWrongFalsely : Prop := fnExactDoubleCoverRow.holds Try.pinned (OpenSpec.ofChange fnExactDoubleCoverWrong)

/-- 'laws.FnExactSubdivideEdges': WHATEVER THE INPUT: true; the input reads as it did. -/
def fnExactSubdivideEdgesSpec : ChangeSpec := { name := "fnExactSubdivideEdges", fn := fun _ => fun
  | [d] => { results := [.lit (.bool true)], args := [d] }
  | _ => none }
def fnExactSubdivideEdgesRow : OpenClaim := { program := "ytecdelmcnbgglaa", sum := "ff775121b19a46565500ee0f89336beb34a6147cf9fe817e5c9913296ca8c639", func := "loop.example/g01084/laws.FnExactSubdivideEdges", spec := "fnExactSubdivideEdges", apart := false }
def FnExactSubdivideEdgesSaid : Prop := fnExactSubdivideEdgesRow.holds Try.pinned (OpenSpec.ofChange fnExactSubdivideEdgesSpec)

/-- ITS FALSE NEIGHBOUR: 'it returns false'. Refute it at one input. -/
def fnExactSubdivideEdgesWrong : ChangeSpec := { name := "fnExactSubdivideEdges", fn := fun _ => fun
  | [d] => { results := [.lit (.bool false)], args := [d] }
  | _ => none }
def FnExactSubdivideEdgesWrongFalsely : Prop := fnExactSubdivideEdgesRow.holds Try.pinned (OpenSpec.ofChange fnExactSubdivideEdgesWrong)

/- THE SECOND FORM. 'bulk': how many values and letters a reading holds, each counted each time it is reached (what is shared counts as often as it is met; a slice's spare places count too). A statement '..UptoSaid' is the law's where the arguments, and the package variables that the reading takes, are together of bulk at most 1048576: NARROWER than '..Said'. Prove '..Said' where nothing that the law and all that it calls make is longer than what came in: it says more and counts as full. Else prove '..UptoSaid'. A law counts once. -/
mutual
def uptoBulk {H : Type} : DataW H → Nat
  | .lit (.string bytes) => bytes.length + 1
  | .lit _ => 1
  | .nil => 1
  | .ptr d => uptoBulk d + 1
  | .slice elems spare => uptoBulkAll elems + uptoBulkAll spare + 1
  | .agg parts => uptoBulkAll parts + 1
  | .iface _ d => uptoBulk d + 1
  | .map entries => uptoBulkEntries entries + 1
  | .held _ => 1
def uptoBulkAll {H : Type} : List (DataW H) → Nat
  | [] => 0
  | d :: r => uptoBulk d + uptoBulkAll r
def uptoBulkEntries {H : Type} : List (Lit × DataW H) → Nat
  | [] => 0
  | x :: r => uptoBulkEntry x + uptoBulkEntries r
def uptoBulkEntry {H : Type} : Lit × DataW H → Nat
  | (.string bytes, d) => bytes.length + uptoBulk d + 1
  | (_, d) => uptoBulk d + 1
 end
def uptoSmall : (H : Type) → List (DataW H) → Bool := fun _ ds => decide (uptoBulkAll ds ≤ 1048576)
def OpenSpec.upto (s : _root_.Go.ChangeSpec) : _root_.Go.OpenSpec := { _root_.Go.OpenSpec.ofChange s with cond := some uptoSmall }

/-- 'laws.FnExactPathNetwork', WHERE WHAT IT READS IS OF BULK AT MOST 1048576: true; the input reads as it did. -/
def fnExactPathNetworkUptoRow : OpenClaim := { program := "ytecdelmcnbgglaa", sum := "ff775121b19a46565500ee0f89336beb34a6147cf9fe817e5c9913296ca8c639", func := "loop.example/g01084/laws.FnExactPathNetwork", spec := "fnExactPathNetwork", apart := false, narrowed := true }
def FnExactPathNetworkUptoSaid : Prop := fnExactPathNetworkUptoRow.holds Try.pinned (OpenSpec.upto fnExactPathNetworkSpec)

/-- 'laws.FnExactCycleNetwork', WHERE WHAT IT READS IS OF BULK AT MOST 1048576: true; the input reads as it did. -/
def fnExactCycleNetworkUptoRow : OpenClaim := { program := "ytecdelmcnbgglaa", sum := "ff775121b19a46565500ee0f89336beb34a6147cf9fe817e5c9913296ca8c639", func := "loop.example/g01084/laws.FnExactCycleNetwork", spec := "fnExactCycleNetwork", apart := false, narrowed := true }
def FnExactCycleNetworkUptoSaid : Prop := fnExactCycleNetworkUptoRow.holds Try.pinned (OpenSpec.upto fnExactCycleNetworkSpec)

/-- 'laws.FnExactCompleteNetwork', WHERE WHAT IT READS IS OF BULK AT MOST 1048576: true; the input reads as it did. -/
def fnExactCompleteNetworkUptoRow : OpenClaim := { program := "ytecdelmcnbgglaa", sum := "ff775121b19a46565500ee0f89336beb34a6147cf9fe817e5c9913296ca8c639", func := "loop.example/g01084/laws.FnExactCompleteNetwork", spec := "fnExactCompleteNetwork", apart := false, narrowed := true }
def FnExactCompleteNetworkUptoSaid : Prop := fnExactCompleteNetworkUptoRow.holds Try.pinned (OpenSpec.upto fnExactCompleteNetworkSpec)

/-- 'laws.FnExactStarNetwork', WHERE WHAT IT READS IS OF BULK AT MOST 1048576: true; the input reads as it did. -/
def fnExactStarNetworkUptoRow : OpenClaim := { program := "ytecdelmcnbgglaa", sum := "ff775121b19a46565500ee0f89336beb34a6147cf9fe817e5c9913296ca8c639", func := "loop.example/g01084/laws.FnExactStarNetwork", spec := "fnExactStarNetwork", apart := false, narrowed := true }
def FnExactStarNetworkUptoSaid : Prop := fnExactStarNetworkUptoRow.holds Try.pinned (OpenSpec.upto fnExactStarNetworkSpec)

/-- 'laws.FnExactGridNetwork', WHERE WHAT IT READS IS OF BULK AT MOST 1048576: true; the input reads as it did. -/
def fnExactGridNetworkUptoRow : OpenClaim := { program := "ytecdelmcnbgglaa", sum := "ff775121b19a46565500ee0f89336beb34a6147cf9fe817e5c9913296ca8c639", func := "loop.example/g01084/laws.FnExactGridNetwork", spec := "fnExactGridNetwork", apart := false, narrowed := true }
def FnExactGridNetworkUptoSaid : Prop := fnExactGridNetworkUptoRow.holds Try.pinned (OpenSpec.upto fnExactGridNetworkSpec)

/-- 'laws.FnExactTorusNetwork', WHERE WHAT IT READS IS OF BULK AT MOST 1048576: true; the input reads as it did. -/
def fnExactTorusNetworkUptoRow : OpenClaim := { program := "ytecdelmcnbgglaa", sum := "ff775121b19a46565500ee0f89336beb34a6147cf9fe817e5c9913296ca8c639", func := "loop.example/g01084/laws.FnExactTorusNetwork", spec := "fnExactTorusNetwork", apart := false, narrowed := true }
def FnExactTorusNetworkUptoSaid : Prop := fnExactTorusNetworkUptoRow.holds Try.pinned (OpenSpec.upto fnExactTorusNetworkSpec)

/-- 'laws.FnExactHypercubeNetwork', WHERE WHAT IT READS IS OF BULK AT MOST 1048576: true; the input reads as it did. -/
def fnExactHypercubeNetworkUptoRow : OpenClaim := { program := "ytecdelmcnbgglaa", sum := "ff775121b19a46565500ee0f89336beb34a6147cf9fe817e5c9913296ca8c639", func := "loop.example/g01084/laws.FnExactHypercubeNetwork", spec := "fnExactHypercubeNetwork", apart := false, narrowed := true }
def FnExactHypercubeNetworkUptoSaid : Prop := fnExactHypercubeNetworkUptoRow.holds Try.pinned (OpenSpec.upto fnExactHypercubeNetworkSpec)

/-- 'laws.FnExactRegularTree', WHERE WHAT IT READS IS OF BULK AT MOST 1048576: true; the input reads as it did. -/
def fnExactRegularTreeUptoRow : OpenClaim := { program := "ytecdelmcnbgglaa", sum := "ff775121b19a46565500ee0f89336beb34a6147cf9fe817e5c9913296ca8c639", func := "loop.example/g01084/laws.FnExactRegularTree", spec := "fnExactRegularTree", apart := false, narrowed := true }
def FnExactRegularTreeUptoSaid : Prop := fnExactRegularTreeUptoRow.holds Try.pinned (OpenSpec.upto fnExactRegularTreeSpec)

/-- 'laws.FnExactCirculantNetwork', WHERE WHAT IT READS IS OF BULK AT MOST 1048576: true; the input reads as it did. -/
def fnExactCirculantNetworkUptoRow : OpenClaim := { program := "ytecdelmcnbgglaa", sum := "ff775121b19a46565500ee0f89336beb34a6147cf9fe817e5c9913296ca8c639", func := "loop.example/g01084/laws.FnExactCirculantNetwork", spec := "fnExactCirculantNetwork", apart := false, narrowed := true }
def FnExactCirculantNetworkUptoSaid : Prop := fnExactCirculantNetworkUptoRow.holds Try.pinned (OpenSpec.upto fnExactCirculantNetworkSpec)

/-- 'laws.FnExactBouquetNetwork', WHERE WHAT IT READS IS OF BULK AT MOST 1048576: true; the input reads as it did. -/
def fnExactBouquetNetworkUptoRow : OpenClaim := { program := "ytecdelmcnbgglaa", sum := "ff775121b19a46565500ee0f89336beb34a6147cf9fe817e5c9913296ca8c639", func := "loop.example/g01084/laws.FnExactBouquetNetwork", spec := "fnExactBouquetNetwork", apart := false, narrowed := true }
def FnExactBouquetNetworkUptoSaid : Prop := fnExactBouquetNetworkUptoRow.holds Try.pinned (OpenSpec.upto fnExactBouquetNetworkSpec)

/-- 'laws.FnExactDoubleCover', WHERE WHAT IT READS IS OF BULK AT MOST 1048576: true; the input reads as it did. -/
def fnExactDoubleCoverUptoRow : OpenClaim := { program := "ytecdelmcnbgglaa", sum := "ff775121b19a46565500ee0f89336beb34a6147cf9fe817e5c9913296ca8c639", func := "loop.example/g01084/laws.FnExactDoubleCover", spec := "fnExactDoubleCover", apart := false, narrowed := true }
def FnExactDoubleCoverUptoSaid : Prop := fnExactDoubleCoverUptoRow.holds Try.pinned (OpenSpec.upto fnExactDoubleCoverSpec)

/-- 'laws.FnExactSubdivideEdges', WHERE WHAT IT READS IS OF BULK AT MOST 1048576: true; the input reads as it did. -/
def fnExactSubdivideEdgesUptoRow : OpenClaim := { program := "ytecdelmcnbgglaa", sum := "ff775121b19a46565500ee0f89336beb34a6147cf9fe817e5c9913296ca8c639", func := "loop.example/g01084/laws.FnExactSubdivideEdges", spec := "fnExactSubdivideEdges", apart := false, narrowed := true }
def FnExactSubdivideEdgesUptoSaid : Prop := fnExactSubdivideEdgesUptoRow.holds Try.pinned (OpenSpec.upto fnExactSubdivideEdgesSpec)

end Rows
end Go.Proofs.Ytecdelmcnbgglaa
