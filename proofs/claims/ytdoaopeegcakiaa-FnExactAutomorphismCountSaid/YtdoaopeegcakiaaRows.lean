/-
  No cell of these rows narrows 'for every input' (looked for: loops, veiled, ifaces, maps, wideKeys, modest, calm, conditions, laid).
  DERIVED. THE GIVEN ROWS OF THIS SEAT. 7 by the template 'for every input the law returns true; each argument reads behind the call as it read before'; 0 by the template 'total and deterministic' (their statements: YtdoaopeegcakiaaTotals.lean).
  GIVEN WITH THE SEED: the statements are not yours to turn. If you find one false, say at which input.
  Laid BY PROGRAM, IN A SANDBOX (cutbox-rows.mjs): the forced cells as the released guide's own fill.sh prints them over the translation 77f17e4cb2229237… (all of the seat's roots in one cut). By AI agents, Wed Nov 11 2026. No macro, syntax, notation, axiom, sorry.
-/
import Derived.Test.YtdoaopeegcakiaaChecked
import GoSem.Claim
import GoSem.ClaimJoined
import GoSem.ClaimMapViews
import Derived.JoinedTies
import Derived.KernelRfl
namespace Go.Proofs.Ytdoaopeegcakiaa
/- THE CELL 'sum', in the pinned program and in every row, IS THE sha256 OF THE DUMP (.gsa) THAT YtdoaopeegcakiaaProg.lean LOADS. Nothing in Lean hashes anything: it is a label: what it is worth is what the hold of that sum in a sandbox is worth. -/
noncomputable def Try.pinned : Pinned := { name := "ytdoaopeegcakiaa", sum := "77f17e4cb22292373bf800585cf0e1302aea5b798042e3b7312f2bec07c5456a", checked := Try.checked }
namespace Rows
def none {H : Type} : Left H := { results := [], args := [] }

/-- 'laws.FnExactConflictOf': WHATEVER THE INPUT: true; the input reads as it did. -/
def fnExactConflictOfSpec : ChangeSpec := { name := "fnExactConflictOf", fn := fun _ => fun
  | [d1, d2, d3] => { results := [.lit (.bool true)], args := [d1, d2, d3] }
  | _ => none }
def fnExactConflictOfRow : OpenClaim := { program := "ytdoaopeegcakiaa", sum := "77f17e4cb22292373bf800585cf0e1302aea5b798042e3b7312f2bec07c5456a", func := "loop.example/g01084/laws.FnExactConflictOf", spec := "fnExactConflictOf", unfollowed := true, recurses := true, plainKeys := false, apart := false }
def FnExactConflictOfSaid : Prop := fnExactConflictOfRow.holds Try.pinned (OpenSpec.ofChange fnExactConflictOfSpec)

/-- ITS FALSE NEIGHBOUR: 'it returns false'. Refute it at one input. -/
def fnExactConflictOfWrong : ChangeSpec := { name := "fnExactConflictOf", fn := fun _ => fun
  | [d1, d2, d3] => { results := [.lit (.bool false)], args := [d1, d2, d3] }
  | _ => none }
def FnExactConflictOfWrongFalsely : Prop := fnExactConflictOfRow.holds Try.pinned (OpenSpec.ofChange fnExactConflictOfWrong)

/-- 'laws.FnExactLeastDepthOf': WHATEVER THE INPUT: true; the input reads as it did. -/
def fnExactLeastDepthOfSpec : ChangeSpec := { name := "fnExactLeastDepthOf", fn := fun _ => fun
  | [d1, d2] => { results := [.lit (.bool true)], args := [d1, d2] }
  | _ => none }
def fnExactLeastDepthOfRow : OpenClaim := { program := "ytdoaopeegcakiaa", sum := "77f17e4cb22292373bf800585cf0e1302aea5b798042e3b7312f2bec07c5456a", func := "loop.example/g01084/laws.FnExactLeastDepthOf", spec := "fnExactLeastDepthOf", unfollowed := true, recurses := true, plainKeys := false, apart := false }
def FnExactLeastDepthOfSaid : Prop := fnExactLeastDepthOfRow.holds Try.pinned (OpenSpec.ofChange fnExactLeastDepthOfSpec)

/-- ITS FALSE NEIGHBOUR: 'it returns false'. Refute it at one input. -/
def fnExactLeastDepthOfWrong : ChangeSpec := { name := "fnExactLeastDepthOf", fn := fun _ => fun
  | [d1, d2] => { results := [.lit (.bool false)], args := [d1, d2] }
  | _ => none }
def FnExactLeastDepthOfWrongFalsely : Prop := fnExactLeastDepthOfRow.holds Try.pinned (OpenSpec.ofChange fnExactLeastDepthOfWrong)

/-- 'laws.FnExactAutomorphismCount': WHATEVER THE INPUT: true; the input reads as it did. -/
def fnExactAutomorphismCountSpec : ChangeSpec := { name := "fnExactAutomorphismCount", fn := fun _ => fun
  | [d] => { results := [.lit (.bool true)], args := [d] }
  | _ => none }
def fnExactAutomorphismCountRow : OpenClaim := { program := "ytdoaopeegcakiaa", sum := "77f17e4cb22292373bf800585cf0e1302aea5b798042e3b7312f2bec07c5456a", func := "loop.example/g01084/laws.FnExactAutomorphismCount", spec := "fnExactAutomorphismCount", plainKeys := false, apart := false }
def FnExactAutomorphismCountSaid : Prop := fnExactAutomorphismCountRow.holds Try.pinned (OpenSpec.ofChange fnExactAutomorphismCountSpec)

/-- ITS FALSE NEIGHBOUR: 'it returns false'. Refute it at one input. -/
def fnExactAutomorphismCountWrong : ChangeSpec := { name := "fnExactAutomorphismCount", fn := fun _ => fun
  | [d] => { results := [.lit (.bool false)], args := [d] }
  | _ => none }
def FnExactAutomorphismCountWrongFalsely : Prop := fnExactAutomorphismCountRow.holds Try.pinned (OpenSpec.ofChange fnExactAutomorphismCountWrong)

/-- 'laws.FnExactFibreProduct': WHATEVER THE INPUT: true; the input reads as it did. -/
def fnExactFibreProductSpec : ChangeSpec := { name := "fnExactFibreProduct", fn := fun _ => fun
  | [d1, d2, d3, d4, d5] => { results := [.lit (.bool true)], args := [d1, d2, d3, d4, d5] }
  | _ => none }
def fnExactFibreProductRow : OpenClaim := { program := "ytdoaopeegcakiaa", sum := "77f17e4cb22292373bf800585cf0e1302aea5b798042e3b7312f2bec07c5456a", func := "loop.example/g01084/laws.FnExactFibreProduct", spec := "fnExactFibreProduct", plainKeys := false, apart := false }
def FnExactFibreProductSaid : Prop := fnExactFibreProductRow.holds Try.pinned (OpenSpec.ofChange fnExactFibreProductSpec)

/-- ITS FALSE NEIGHBOUR: 'it returns false'. Refute it at one input. -/
def fnExactFibreProductWrong : ChangeSpec := { name := "fnExactFibreProduct", fn := fun _ => fun
  | [d1, d2, d3, d4, d5] => { results := [.lit (.bool false)], args := [d1, d2, d3, d4, d5] }
  | _ => none }
def FnExactFibreProductWrongFalsely : Prop := fnExactFibreProductRow.holds Try.pinned (OpenSpec.ofChange fnExactFibreProductWrong)

/-- 'laws.FnExactCanonicalOrder': WHATEVER THE INPUT: true; the input reads as it did. -/
def fnExactCanonicalOrderSpec : ChangeSpec := { name := "fnExactCanonicalOrder", fn := fun _ => fun
  | [d] => { results := [.lit (.bool true)], args := [d] }
  | _ => none }
def fnExactCanonicalOrderRow : OpenClaim := { program := "ytdoaopeegcakiaa", sum := "77f17e4cb22292373bf800585cf0e1302aea5b798042e3b7312f2bec07c5456a", func := "loop.example/g01084/laws.FnExactCanonicalOrder", spec := "fnExactCanonicalOrder", unfollowed := true, recurses := true, plainKeys := false, apart := false }
def FnExactCanonicalOrderSaid : Prop := fnExactCanonicalOrderRow.holds Try.pinned (OpenSpec.ofChange fnExactCanonicalOrderSpec)

/-- ITS FALSE NEIGHBOUR: 'it returns false'. Refute it at one input. -/
def fnExactCanonicalOrderWrong : ChangeSpec := { name := "fnExactCanonicalOrder", fn := fun _ => fun
  | [d] => { results := [.lit (.bool false)], args := [d] }
  | _ => none }
def FnExactCanonicalOrderWrongFalsely : Prop := fnExactCanonicalOrderRow.holds Try.pinned (OpenSpec.ofChange fnExactCanonicalOrderWrong)

/-- 'laws.FnExactIsView': WHATEVER THE INPUT: true; the input reads as it did. -/
def fnExactIsViewSpec : ChangeSpec := { name := "fnExactIsView", fn := fun _ => fun
  | [d] => { results := [.lit (.bool true)], args := [d] }
  | _ => none }
def fnExactIsViewRow : OpenClaim := { program := "ytdoaopeegcakiaa", sum := "77f17e4cb22292373bf800585cf0e1302aea5b798042e3b7312f2bec07c5456a", func := "loop.example/g01084/laws.FnExactIsView", spec := "fnExactIsView", recurses := true, plainKeys := false, apart := false }
def FnExactIsViewSaid : Prop := fnExactIsViewRow.holds Try.pinned (OpenSpec.ofChange fnExactIsViewSpec)

/-- ITS FALSE NEIGHBOUR: 'it returns false'. Refute it at one input. -/
def fnExactIsViewWrong : ChangeSpec := { name := "fnExactIsView", fn := fun _ => fun
  | [d] => { results := [.lit (.bool false)], args := [d] }
  | _ => none }
def FnExactIsViewWrongFalsely : Prop := fnExactIsViewRow.holds Try.pinned (OpenSpec.ofChange fnExactIsViewWrong)

/-- 'laws.FnExactDepthOfView': WHATEVER THE INPUT: true; the input reads as it did. -/
def fnExactDepthOfViewSpec : ChangeSpec := { name := "fnExactDepthOfView", fn := fun _ => fun
  | [d] => { results := [.lit (.bool true)], args := [d] }
  | _ => none }
def fnExactDepthOfViewRow : OpenClaim := { program := "ytdoaopeegcakiaa", sum := "77f17e4cb22292373bf800585cf0e1302aea5b798042e3b7312f2bec07c5456a", func := "loop.example/g01084/laws.FnExactDepthOfView", spec := "fnExactDepthOfView", recurses := true, plainKeys := false, apart := false }
def FnExactDepthOfViewSaid : Prop := fnExactDepthOfViewRow.holds Try.pinned (OpenSpec.ofChange fnExactDepthOfViewSpec)

/-- ITS FALSE NEIGHBOUR: 'it returns false'. Refute it at one input. -/
def fnExactDepthOfViewWrong : ChangeSpec := { name := "fnExactDepthOfView", fn := fun _ => fun
  | [d] => { results := [.lit (.bool false)], args := [d] }
  | _ => none }
def FnExactDepthOfViewWrongFalsely : Prop := fnExactDepthOfViewRow.holds Try.pinned (OpenSpec.ofChange fnExactDepthOfViewWrong)

/- THE SECOND FORM. 'bulk': how many values and letters a reading holds, each counted each time it is reached (what is shared counts as often as it is met; a slice's spare places count too). A statement '..UptoSaid' is the law's where the arguments, and the package variables that the reading takes, are together of bulk at most 1048576: NARROWER than '..Said'. Prove '..Said' where nothing that the law and all that it calls make is longer than what came in: it says more and counts as full. Else prove '..UptoSaid'. A law counts once. -/
mutual
def uptoBulk {H : Type} : DataW H → Nat
  | .lit (.string bytes) => bytes.length + 1
  | .lit _ => 1
  | .nil => 1
  | .ptr d => uptoBulk d + 1
  | .slice elems spare => uptoBulkAll elems + uptoBulkAll spare + 1
  | .agg parts => uptoBulkAll parts + 1
  | .iface _ d => uptoBulk d + 1
  | .map entries => uptoBulkEntries entries + 1
  | .held _ => 1
def uptoBulkAll {H : Type} : List (DataW H) → Nat
  | [] => 0
  | d :: r => uptoBulk d + uptoBulkAll r
def uptoBulkEntries {H : Type} : List (Lit × DataW H) → Nat
  | [] => 0
  | x :: r => uptoBulkEntry x + uptoBulkEntries r
def uptoBulkEntry {H : Type} : Lit × DataW H → Nat
  | (.string bytes, d) => bytes.length + uptoBulk d + 1
  | (_, d) => uptoBulk d + 1
 end
def uptoSmall : (H : Type) → List (DataW H) → Bool := fun _ ds => decide (uptoBulkAll ds ≤ 1048576)
def OpenSpec.upto (s : _root_.Go.ChangeSpec) : _root_.Go.OpenSpec := { _root_.Go.OpenSpec.ofChange s with cond := some uptoSmall }

/-- 'laws.FnExactConflictOf', WHERE WHAT IT READS IS OF BULK AT MOST 1048576: true; the input reads as it did. -/
def fnExactConflictOfUptoRow : OpenClaim := { program := "ytdoaopeegcakiaa", sum := "77f17e4cb22292373bf800585cf0e1302aea5b798042e3b7312f2bec07c5456a", func := "loop.example/g01084/laws.FnExactConflictOf", spec := "fnExactConflictOf", unfollowed := true, recurses := true, plainKeys := false, apart := false, narrowed := true }
def FnExactConflictOfUptoSaid : Prop := fnExactConflictOfUptoRow.holds Try.pinned (OpenSpec.upto fnExactConflictOfSpec)

/-- 'laws.FnExactLeastDepthOf', WHERE WHAT IT READS IS OF BULK AT MOST 1048576: true; the input reads as it did. -/
def fnExactLeastDepthOfUptoRow : OpenClaim := { program := "ytdoaopeegcakiaa", sum := "77f17e4cb22292373bf800585cf0e1302aea5b798042e3b7312f2bec07c5456a", func := "loop.example/g01084/laws.FnExactLeastDepthOf", spec := "fnExactLeastDepthOf", unfollowed := true, recurses := true, plainKeys := false, apart := false, narrowed := true }
def FnExactLeastDepthOfUptoSaid : Prop := fnExactLeastDepthOfUptoRow.holds Try.pinned (OpenSpec.upto fnExactLeastDepthOfSpec)

/-- 'laws.FnExactAutomorphismCount', WHERE WHAT IT READS IS OF BULK AT MOST 1048576: true; the input reads as it did. -/
def fnExactAutomorphismCountUptoRow : OpenClaim := { program := "ytdoaopeegcakiaa", sum := "77f17e4cb22292373bf800585cf0e1302aea5b798042e3b7312f2bec07c5456a", func := "loop.example/g01084/laws.FnExactAutomorphismCount", spec := "fnExactAutomorphismCount", plainKeys := false, apart := false, narrowed := true }
def FnExactAutomorphismCountUptoSaid : Prop := fnExactAutomorphismCountUptoRow.holds Try.pinned (OpenSpec.upto fnExactAutomorphismCountSpec)

/-- 'laws.FnExactFibreProduct', WHERE WHAT IT READS IS OF BULK AT MOST 1048576: true; the input reads as it did. -/
def fnExactFibreProductUptoRow : OpenClaim := { program := "ytdoaopeegcakiaa", sum := "77f17e4cb22292373bf800585cf0e1302aea5b798042e3b7312f2bec07c5456a", func := "loop.example/g01084/laws.FnExactFibreProduct", spec := "fnExactFibreProduct", plainKeys := false, apart := false, narrowed := true }
def FnExactFibreProductUptoSaid : Prop := fnExactFibreProductUptoRow.holds Try.pinned (OpenSpec.upto fnExactFibreProductSpec)

/-- 'laws.FnExactCanonicalOrder', WHERE WHAT IT READS IS OF BULK AT MOST 1048576: true; the input reads as it did. -/
def fnExactCanonicalOrderUptoRow : OpenClaim := { program := "ytdoaopeegcakiaa", sum := "77f17e4cb22292373bf800585cf0e1302aea5b798042e3b7312f2bec07c5456a", func := "loop.example/g01084/laws.FnExactCanonicalOrder", spec := "fnExactCanonicalOrder", unfollowed := true, recurses := true, plainKeys := false, apart := false, narrowed := true }
def FnExactCanonicalOrderUptoSaid : Prop := fnExactCanonicalOrderUptoRow.holds Try.pinned (OpenSpec.upto fnExactCanonicalOrderSpec)

/-- 'laws.FnExactIsView', WHERE WHAT IT READS IS OF BULK AT MOST 1048576: true; the input reads as it did. -/
def fnExactIsViewUptoRow : OpenClaim := { program := "ytdoaopeegcakiaa", sum := "77f17e4cb22292373bf800585cf0e1302aea5b798042e3b7312f2bec07c5456a", func := "loop.example/g01084/laws.FnExactIsView", spec := "fnExactIsView", recurses := true, plainKeys := false, apart := false, narrowed := true }
def FnExactIsViewUptoSaid : Prop := fnExactIsViewUptoRow.holds Try.pinned (OpenSpec.upto fnExactIsViewSpec)

/-- 'laws.FnExactDepthOfView', WHERE WHAT IT READS IS OF BULK AT MOST 1048576: true; the input reads as it did. -/
def fnExactDepthOfViewUptoRow : OpenClaim := { program := "ytdoaopeegcakiaa", sum := "77f17e4cb22292373bf800585cf0e1302aea5b798042e3b7312f2bec07c5456a", func := "loop.example/g01084/laws.FnExactDepthOfView", spec := "fnExactDepthOfView", recurses := true, plainKeys := false, apart := false, narrowed := true }
def FnExactDepthOfViewUptoSaid : Prop := fnExactDepthOfViewUptoRow.holds Try.pinned (OpenSpec.upto fnExactDepthOfViewSpec)

end Rows
end Go.Proofs.Ytdoaopeegcakiaa
