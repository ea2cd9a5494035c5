/-
  No cell of these rows narrows 'for every input' (looked for: loops, veiled, ifaces, maps, wideKeys, modest, calm, conditions, laid).
  DERIVED. THE GIVEN ROWS OF THIS SEAT. 12 by the template 'for every input the law returns true; each argument reads behind the call as it read before'; 0 by the template 'total and deterministic' (their statements: YtcjiejbndmnjaaaTotals.lean).
  GIVEN WITH THE SEED: the statements are not yours to turn. If you find one false, say at which input.
  Laid BY PROGRAM, IN A SANDBOX (cutbox-rows.mjs): the forced cells as the released guide's own fill.sh prints them over the translation f2c5244b6f9f8071… (all of the seat's roots in one cut). By AI agents, Wed Nov 11 2026. No macro, syntax, notation, axiom, sorry.
-/
import Derived.Test.YtcjiejbndmnjaaaChecked
import GoSem.Claim
import GoSem.ClaimJoined
import GoSem.ClaimMapViews
import Derived.JoinedTies
import Derived.KernelRfl
namespace Go.Proofs.Ytcjiejbndmnjaaa
/- THE CELL 'sum', in the pinned program and in every row, IS THE sha256 OF THE DUMP (.gsa) THAT YtcjiejbndmnjaaaProg.lean LOADS. Nothing in Lean hashes anything: it is a label: what it is worth is what the hold of that sum in a sandbox is worth. -/
noncomputable def Try.pinned : Pinned := { name := "ytcjiejbndmnjaaa", sum := "f2c5244b6f9f8071b8aa4632695d335e417cd392716a2643ab88c83ecfed16ff", checked := Try.checked }
namespace Rows
def none {H : Type} : Left H := { results := [], args := [] }

/-- 'laws.FnExactBitLength': WHATEVER THE INPUT: true; the input reads as it did. -/
def fnExactBitLengthSpec : ChangeSpec := { name := "fnExactBitLength", fn := fun _ => fun
  | [d] => { results := [.lit (.bool true)], args := [d] }
  | _ => none }
def fnExactBitLengthRow : OpenClaim := { program := "ytcjiejbndmnjaaa", sum := "f2c5244b6f9f8071b8aa4632695d335e417cd392716a2643ab88c83ecfed16ff", func := "loop.example/g01084/laws.FnExactBitLength", spec := "fnExactBitLength", apart := false }
def FnExactBitLengthSaid : Prop := fnExactBitLengthRow.holds Try.pinned (OpenSpec.ofChange fnExactBitLengthSpec)

/-- ITS FALSE NEIGHBOUR: 'it returns false'. Refute it at one input. -/
def fnExactBitLengthWrong : ChangeSpec := { name := "fnExactBitLength", fn := fun _ => fun
  | [d] => { results := [.lit (.bool false)], args := [d] }
  | _ => none }
def FnExactBitLengthWrongFalsely : Prop := fnExactBitLengthRow.holds Try.pinned (OpenSpec.ofChange fnExactBitLengthWrong)

/-- 'laws.FnExactBitAt': WHATEVER THE INPUT: true; the input reads as it did. -/
def fnExactBitAtSpec : ChangeSpec := { name := "fnExactBitAt", fn := fun _ => fun
  | [d1, d2] => { results := [.lit (.bool true)], args := [d1, d2] }
  | _ => none }
def fnExactBitAtRow : OpenClaim := { program := "ytcjiejbndmnjaaa", sum := "f2c5244b6f9f8071b8aa4632695d335e417cd392716a2643ab88c83ecfed16ff", func := "loop.example/g01084/laws.FnExactBitAt", spec := "fnExactBitAt", apart := false }
def FnExactBitAtSaid : Prop := fnExactBitAtRow.holds Try.pinned (OpenSpec.ofChange fnExactBitAtSpec)

/-- ITS FALSE NEIGHBOUR: 'it returns false'. Refute it at one input. -/
def fnExactBitAtWrong : ChangeSpec := { name := "fnExactBitAt", fn := fun _ => fun
  | [d1, d2] => { results := [.lit (.bool false)], args := [d1, d2] }
  | _ => none }
def FnExactBitAtWrongFalsely : Prop := fnExactBitAtRow.holds Try.pinned (OpenSpec.ofChange fnExactBitAtWrong)

/-- 'laws.FnExactLogStar': WHATEVER THE INPUT: true; the input reads as it did. -/
def fnExactLogStarSpec : ChangeSpec := { name := "fnExactLogStar", fn := fun _ => fun
  | [d] => { results := [.lit (.bool true)], args := [d] }
  | _ => none }
def fnExactLogStarRow : OpenClaim := { program := "ytcjiejbndmnjaaa", sum := "f2c5244b6f9f8071b8aa4632695d335e417cd392716a2643ab88c83ecfed16ff", func := "loop.example/g01084/laws.FnExactLogStar", spec := "fnExactLogStar", apart := false }
def FnExactLogStarSaid : Prop := fnExactLogStarRow.holds Try.pinned (OpenSpec.ofChange fnExactLogStarSpec)

/-- ITS FALSE NEIGHBOUR: 'it returns false'. Refute it at one input. -/
def fnExactLogStarWrong : ChangeSpec := { name := "fnExactLogStar", fn := fun _ => fun
  | [d] => { results := [.lit (.bool false)], args := [d] }
  | _ => none }
def FnExactLogStarWrongFalsely : Prop := fnExactLogStarRow.holds Try.pinned (OpenSpec.ofChange fnExactLogStarWrong)

/-- 'laws.FnExactDigitsOf': WHATEVER THE INPUT: true; the input reads as it did. -/
def fnExactDigitsOfSpec : ChangeSpec := { name := "fnExactDigitsOf", fn := fun _ => fun
  | [d1, d2, d3] => { results := [.lit (.bool true)], args := [d1, d2, d3] }
  | _ => none }
def fnExactDigitsOfRow : OpenClaim := { program := "ytcjiejbndmnjaaa", sum := "f2c5244b6f9f8071b8aa4632695d335e417cd392716a2643ab88c83ecfed16ff", func := "loop.example/g01084/laws.FnExactDigitsOf", spec := "fnExactDigitsOf", apart := false }
def FnExactDigitsOfSaid : Prop := fnExactDigitsOfRow.holds Try.pinned (OpenSpec.ofChange fnExactDigitsOfSpec)

/-- ITS FALSE NEIGHBOUR: 'it returns false'. Refute it at one input. -/
def fnExactDigitsOfWrong : ChangeSpec := { name := "fnExactDigitsOf", fn := fun _ => fun
  | [d1, d2, d3] => { results := [.lit (.bool false)], args := [d1, d2, d3] }
  | _ => none }
def FnExactDigitsOfWrongFalsely : Prop := fnExactDigitsOfRow.holds Try.pinned (OpenSpec.ofChange fnExactDigitsOfWrong)

/-- 'laws.FnExactFromDigits': WHATEVER THE INPUT: true; the input reads as it did. -/
def fnExactFromDigitsSpec : ChangeSpec := { name := "fnExactFromDigits", fn := fun _ => fun
  | [d1, d2] => { results := [.lit (.bool true)], args := [d1, d2] }
  | _ => none }
def fnExactFromDigitsRow : OpenClaim := { program := "ytcjiejbndmnjaaa", sum := "f2c5244b6f9f8071b8aa4632695d335e417cd392716a2643ab88c83ecfed16ff", func := "loop.example/g01084/laws.FnExactFromDigits", spec := "fnExactFromDigits", apart := false }
def FnExactFromDigitsSaid : Prop := fnExactFromDigitsRow.holds Try.pinned (OpenSpec.ofChange fnExactFromDigitsSpec)

/-- ITS FALSE NEIGHBOUR: 'it returns false'. Refute it at one input. -/
def fnExactFromDigitsWrong : ChangeSpec := { name := "fnExactFromDigits", fn := fun _ => fun
  | [d1, d2] => { results := [.lit (.bool false)], args := [d1, d2] }
  | _ => none }
def FnExactFromDigitsWrongFalsely : Prop := fnExactFromDigitsRow.holds Try.pinned (OpenSpec.ofChange fnExactFromDigitsWrong)

/-- 'laws.FnExactBinomial': WHATEVER THE INPUT: true; the input reads as it did. -/
def fnExactBinomialSpec : ChangeSpec := { name := "fnExactBinomial", fn := fun _ => fun
  | [d1, d2] => { results := [.lit (.bool true)], args := [d1, d2] }
  | _ => none }
def fnExactBinomialRow : OpenClaim := { program := "ytcjiejbndmnjaaa", sum := "f2c5244b6f9f8071b8aa4632695d335e417cd392716a2643ab88c83ecfed16ff", func := "loop.example/g01084/laws.FnExactBinomial", spec := "fnExactBinomial", apart := false }
def FnExactBinomialSaid : Prop := fnExactBinomialRow.holds Try.pinned (OpenSpec.ofChange fnExactBinomialSpec)

/-- ITS FALSE NEIGHBOUR: 'it returns false'. Refute it at one input. -/
def fnExactBinomialWrong : ChangeSpec := { name := "fnExactBinomial", fn := fun _ => fun
  | [d1, d2] => { results := [.lit (.bool false)], args := [d1, d2] }
  | _ => none }
def FnExactBinomialWrongFalsely : Prop := fnExactBinomialRow.holds Try.pinned (OpenSpec.ofChange fnExactBinomialWrong)

/-- 'laws.FnExactSubsetsOf': WHATEVER THE INPUT: true; the input reads as it did. -/
def fnExactSubsetsOfSpec : ChangeSpec := { name := "fnExactSubsetsOf", fn := fun _ => fun
  | [d1, d2] => { results := [.lit (.bool true)], args := [d1, d2] }
  | _ => none }
def fnExactSubsetsOfRow : OpenClaim := { program := "ytcjiejbndmnjaaa", sum := "f2c5244b6f9f8071b8aa4632695d335e417cd392716a2643ab88c83ecfed16ff", func := "loop.example/g01084/laws.FnExactSubsetsOf", spec := "fnExactSubsetsOf", apart := false }
def FnExactSubsetsOfSaid : Prop := fnExactSubsetsOfRow.holds Try.pinned (OpenSpec.ofChange fnExactSubsetsOfSpec)

/-- ITS FALSE NEIGHBOUR: 'it returns false'. Refute it at one input. -/
def fnExactSubsetsOfWrong : ChangeSpec := { name := "fnExactSubsetsOf", fn := fun _ => fun
  | [d1, d2] => { results := [.lit (.bool false)], args := [d1, d2] }
  | _ => none }
def FnExactSubsetsOfWrongFalsely : Prop := fnExactSubsetsOfRow.holds Try.pinned (OpenSpec.ofChange fnExactSubsetsOfWrong)

/-- 'laws.FnExactSubsetRank': WHATEVER THE INPUT: true; the input reads as it did. -/
def fnExactSubsetRankSpec : ChangeSpec := { name := "fnExactSubsetRank", fn := fun _ => fun
  | [d1, d2] => { results := [.lit (.bool true)], args := [d1, d2] }
  | _ => none }
def fnExactSubsetRankRow : OpenClaim := { program := "ytcjiejbndmnjaaa", sum := "f2c5244b6f9f8071b8aa4632695d335e417cd392716a2643ab88c83ecfed16ff", func := "loop.example/g01084/laws.FnExactSubsetRank", spec := "fnExactSubsetRank", apart := false }
def FnExactSubsetRankSaid : Prop := fnExactSubsetRankRow.holds Try.pinned (OpenSpec.ofChange fnExactSubsetRankSpec)

/-- ITS FALSE NEIGHBOUR: 'it returns false'. Refute it at one input. -/
def fnExactSubsetRankWrong : ChangeSpec := { name := "fnExactSubsetRank", fn := fun _ => fun
  | [d1, d2] => { results := [.lit (.bool false)], args := [d1, d2] }
  | _ => none }
def FnExactSubsetRankWrongFalsely : Prop := fnExactSubsetRankRow.holds Try.pinned (OpenSpec.ofChange fnExactSubsetRankWrong)

/-- 'laws.FnExactSubsetAt': WHATEVER THE INPUT: true; the input reads as it did. -/
def fnExactSubsetAtSpec : ChangeSpec := { name := "fnExactSubsetAt", fn := fun _ => fun
  | [d1, d2, d3] => { results := [.lit (.bool true)], args := [d1, d2, d3] }
  | _ => none }
def fnExactSubsetAtRow : OpenClaim := { program := "ytcjiejbndmnjaaa", sum := "f2c5244b6f9f8071b8aa4632695d335e417cd392716a2643ab88c83ecfed16ff", func := "loop.example/g01084/laws.FnExactSubsetAt", spec := "fnExactSubsetAt", apart := false }
def FnExactSubsetAtSaid : Prop := fnExactSubsetAtRow.holds Try.pinned (OpenSpec.ofChange fnExactSubsetAtSpec)

/-- ITS FALSE NEIGHBOUR: 'it returns false'. Refute it at one input. -/
def fnExactSubsetAtWrong : ChangeSpec := { name := "fnExactSubsetAt", fn := fun _ => fun
  | [d1, d2, d3] => { results := [.lit (.bool false)], args := [d1, d2, d3] }
  | _ => none }
def FnExactSubsetAtWrongFalsely : Prop := fnExactSubsetAtRow.holds Try.pinned (OpenSpec.ofChange fnExactSubsetAtWrong)

/-- 'laws.FnExactGcdOf': WHATEVER THE INPUT: true; the input reads as it did. -/
def fnExactGcdOfSpec : ChangeSpec := { name := "fnExactGcdOf", fn := fun _ => fun
  | [d] => { results := [.lit (.bool true)], args := [d] }
  | _ => none }
def fnExactGcdOfRow : OpenClaim := { program := "ytcjiejbndmnjaaa", sum := "f2c5244b6f9f8071b8aa4632695d335e417cd392716a2643ab88c83ecfed16ff", func := "loop.example/g01084/laws.FnExactGcdOf", spec := "fnExactGcdOf", apart := false }
def FnExactGcdOfSaid : Prop := fnExactGcdOfRow.holds Try.pinned (OpenSpec.ofChange fnExactGcdOfSpec)

/-- ITS FALSE NEIGHBOUR: 'it returns false'. Refute it at one input. -/
def fnExactGcdOfWrong : ChangeSpec := { name := "fnExactGcdOf", fn := fun _ => fun
  | [d] => { results := [.lit (.bool false)], args := [d] }
  | _ => none }
def FnExactGcdOfWrongFalsely : Prop := fnExactGcdOfRow.holds Try.pinned (OpenSpec.ofChange fnExactGcdOfWrong)

/-- 'laws.FnExactSumsTo': WHATEVER THE INPUT: true; the input reads as it did. -/
def fnExactSumsToSpec : ChangeSpec := { name := "fnExactSumsTo", fn := fun _ => fun
  | [d1, d2] => { results := [.lit (.bool true)], args := [d1, d2] }
  | _ => none }
def fnExactSumsToRow : OpenClaim := { program := "ytcjiejbndmnjaaa", sum := "f2c5244b6f9f8071b8aa4632695d335e417cd392716a2643ab88c83ecfed16ff", func := "loop.example/g01084/laws.FnExactSumsTo", spec := "fnExactSumsTo", apart := false }
def FnExactSumsToSaid : Prop := fnExactSumsToRow.holds Try.pinned (OpenSpec.ofChange fnExactSumsToSpec)

/-- ITS FALSE NEIGHBOUR: 'it returns false'. Refute it at one input. -/
def fnExactSumsToWrong : ChangeSpec := { name := "fnExactSumsTo", fn := fun _ => fun
  | [d1, d2] => { results := [.lit (.bool false)], args := [d1, d2] }
  | _ => none }
def FnExactSumsToWrongFalsely : Prop := fnExactSumsToRow.holds Try.pinned (OpenSpec.ofChange fnExactSumsToWrong)

/-- 'laws.FnExactConductorOf': WHATEVER THE INPUT: true; the input reads as it did. -/
def fnExactConductorOfSpec : ChangeSpec := { name := "fnExactConductorOf", fn := fun _ => fun
  | [d] => { results := [.lit (.bool true)], args := [d] }
  | _ => none }
def fnExactConductorOfRow : OpenClaim := { program := "ytcjiejbndmnjaaa", sum := "f2c5244b6f9f8071b8aa4632695d335e417cd392716a2643ab88c83ecfed16ff", func := "loop.example/g01084/laws.FnExactConductorOf", spec := "fnExactConductorOf", apart := false }
def FnExactConductorOfSaid : Prop := fnExactConductorOfRow.holds Try.pinned (OpenSpec.ofChange fnExactConductorOfSpec)

/-- ITS FALSE NEIGHBOUR: 'it returns false'. Refute it at one input. -/
def fnExactConductorOfWrong : ChangeSpec := { name := "fnExactConductorOf", fn := fun _ => fun
  | [d] => { results := [.lit (.bool false)], args := [d] }
  | _ => none }
def FnExactConductorOfWrongFalsely : Prop := fnExactConductorOfRow.holds Try.pinned (OpenSpec.ofChange fnExactConductorOfWrong)

/- THE SECOND FORM. 'bulk': how many values and letters a reading holds, each counted each time it is reached (what is shared counts as often as it is met; a slice's spare places count too). A statement '..UptoSaid' is the law's where the arguments, and the package variables that the reading takes, are together of bulk at most 1048576: NARROWER than '..Said'. Prove '..Said' where nothing that the law and all that it calls make is longer than what came in: it says more and counts as full. Else prove '..UptoSaid'. A law counts once. -/
mutual
def uptoBulk {H : Type} : DataW H → Nat
  | .lit (.string bytes) => bytes.length + 1
  | .lit _ => 1
  | .nil => 1
  | .ptr d => uptoBulk d + 1
  | .slice elems spare => uptoBulkAll elems + uptoBulkAll spare + 1
  | .agg parts => uptoBulkAll parts + 1
  | .iface _ d => uptoBulk d + 1
  | .map entries => uptoBulkEntries entries + 1
  | .held _ => 1
def uptoBulkAll {H : Type} : List (DataW H) → Nat
  | [] => 0
  | d :: r => uptoBulk d + uptoBulkAll r
def uptoBulkEntries {H : Type} : List (Lit × DataW H) → Nat
  | [] => 0
  | x :: r => uptoBulkEntry x + uptoBulkEntries r
def uptoBulkEntry {H : Type} : Lit × DataW H → Nat
  | (.string bytes, d) => bytes.length + uptoBulk d + 1
  | (_, d) => uptoBulk d + 1
 end
def uptoSmall : (H : Type) → List (DataW H) → Bool := fun _ ds => decide (uptoBulkAll ds ≤ 1048576)
def OpenSpec.upto (s : _root_.Go.ChangeSpec) : _root_.Go.OpenSpec := { _root_.Go.OpenSpec.ofChange s with cond := some uptoSmall }

/-- 'laws.FnExactBitLength', WHERE WHAT IT READS IS OF BULK AT MOST 1048576: true; the input reads as it did. -/
def fnExactBitLengthUptoRow : OpenClaim := { program := "ytcjiejbndmnjaaa", sum := "f2c5244b6f9f8071b8aa4632695d335e417cd392716a2643ab88c83ecfed16ff", func := "loop.example/g01084/laws.FnExactBitLength", spec := "fnExactBitLength", apart := false, narrowed := true }
def FnExactBitLengthUptoSaid : Prop := fnExactBitLengthUptoRow.holds Try.pinned (OpenSpec.upto fnExactBitLengthSpec)

/-- 'laws.FnExactBitAt', WHERE WHAT IT READS IS OF BULK AT MOST 1048576: true; the input reads as it did. -/
def fnExactBitAtUptoRow : OpenClaim := { program := "ytcjiejbndmnjaaa", sum := "f2c5244b6f9f8071b8aa4632695d335e417cd392716a2643ab88c83ecfed16ff", func := "loop.example/g01084/laws.FnExactBitAt", spec := "fnExactBitAt", apart := false, narrowed := true }
def FnExactBitAtUptoSaid : Prop := fnExactBitAtUptoRow.holds Try.pinned (OpenSpec.upto fnExactBitAtSpec)

/-- 'laws.FnExactLogStar', WHERE WHAT IT READS IS OF BULK AT MOST 1048576: true; the input reads as it did. -/
def fnExactLogStarUptoRow : OpenClaim := { program := "ytcjiejbndmnjaaa", sum := "f2c5244b6f9f8071b8aa4632695d335e417cd392716a2643ab88c83ecfed16ff", func := "loop.example/g01084/laws.FnExactLogStar", spec := "fnExactLogStar", apart := false, narrowed := true }
def FnExactLogStarUptoSaid : Prop := fnExactLogStarUptoRow.holds Try.pinned (OpenSpec.upto fnExactLogStarSpec)

/-- 'laws.FnExactDigitsOf', WHERE WHAT IT READS IS OF BULK AT MOST 1048576: true; the input reads as it did. -/
def fnExactDigitsOfUptoRow : OpenClaim := { program := "ytcjiejbndmnjaaa", sum := "f2c5244b6f9f8071b8aa4632695d335e417cd392716a2643ab88c83ecfed16ff", func := "loop.example/g01084/laws.FnExactDigitsOf", spec := "fnExactDigitsOf", apart := false, narrowed := true }
def FnExactDigitsOfUptoSaid : Prop := fnExactDigitsOfUptoRow.holds Try.pinned (OpenSpec.upto fnExactDigitsOfSpec)

/-- 'laws.FnExactFromDigits', WHERE WHAT IT READS IS OF BULK AT MOST 1048576: true; the input reads as it did. -/
def fnExactFromDigitsUptoRow : OpenClaim := { program := "ytcjiejbndmnjaaa", sum := "f2c5244b6f9f8071b8aa4632695d335e417cd392716a2643ab88c83ecfed16ff", func := "loop.example/g01084/laws.FnExactFromDigits", spec := "fnExactFromDigits", apart := false, narrowed := true }
def FnExactFromDigitsUptoSaid : Prop := fnExactFromDigitsUptoRow.holds Try.pinned (OpenSpec.upto fnExactFromDigitsSpec)

/-- 'laws.FnExactBinomial', WHERE WHAT IT READS IS OF BULK AT MOST 1048576: true; the input reads as it did. -/
def fnExactBinomialUptoRow : OpenClaim := { program := "ytcjiejbndmnjaaa", sum := "f2c5244b6f9f8071b8aa4632695d335e417cd392716a2643ab88c83ecfed16ff", func := "loop.example/g01084/laws.FnExactBinomial", spec := "fnExactBinomial", apart := false, narrowed := true }
def FnExactBinomialUptoSaid : Prop := fnExactBinomialUptoRow.holds Try.pinned (OpenSpec.upto fnExactBinomialSpec)

/-- 'laws.FnExactSubsetsOf', WHERE WHAT IT READS IS OF BULK AT MOST 1048576: true; the input reads as it did. -/
def fnExactSubsetsOfUptoRow : OpenClaim := { program := "ytcjiejbndmnjaaa", sum := "f2c5244b6f9f8071b8aa4632695d335e417cd392716a2643ab88c83ecfed16ff", func := "loop.example/g01084/laws.FnExactSubsetsOf", spec := "fnExactSubsetsOf", apart := false, narrowed := true }
def FnExactSubsetsOfUptoSaid : Prop := fnExactSubsetsOfUptoRow.holds Try.pinned (OpenSpec.upto fnExactSubsetsOfSpec)

/-- 'laws.FnExactSubsetRank', WHERE WHAT IT READS IS OF BULK AT MOST 1048576: true; the input reads as it did. -/
def fnExactSubsetRankUptoRow : OpenClaim := { program := "ytcjiejbndmnjaaa", sum := "f2c5244b6f9f8071b8aa4632695d335e417cd392716a2643ab88c83ecfed16ff", func := "loop.example/g01084/laws.FnExactSubsetRank", spec := "fnExactSubsetRank", apart := false, narrowed := true }
def FnExactSubsetRankUptoSaid : Prop := fnExactSubsetRankUptoRow.holds Try.pinned (OpenSpec.upto fnExactSubsetRankSpec)

/-- 'laws.FnExactSubsetAt', WHERE WHAT IT READS IS OF BULK AT MOST 1048576: true; the input reads as it did. -/
def fnExactSubsetAtUptoRow : OpenClaim := { program := "ytcjiejbndmnjaaa", sum := "f2c5244b6f9f8071b8aa4632695d335e417cd392716a2643ab88c83ecfed16ff", func := "loop.example/g01084/laws.FnExactSubsetAt", spec := "fnExactSubsetAt", apart := false, narrowed := true }
def FnExactSubsetAtUptoSaid : Prop := fnExactSubsetAtUptoRow.holds Try.pinned (OpenSpec.upto fnExactSubsetAtSpec)

/-- 'laws.FnExactGcdOf', WHERE WHAT IT READS IS OF BULK AT MOST 1048576: true; the input reads as it did. -/
def fnExactGcdOfUptoRow : OpenClaim := { program := "ytcjiejbndmnjaaa", sum := "f2c5244b6f9f8071b8aa4632695d335e417cd392716a2643ab88c83ecfed16ff", func := "loop.example/g01084/laws.FnExactGcdOf", spec := "fnExactGcdOf", apart := false, narrowed := true }
def FnExactGcdOfUptoSaid : Prop := fnExactGcdOfUptoRow.holds Try.pinned (OpenSpec.upto fnExactGcdOfSpec)

/-- 'laws.FnExactSumsTo', WHERE WHAT IT READS IS OF BULK AT MOST 1048576: true; the input reads as it did. -/
def fnExactSumsToUptoRow : OpenClaim := { program := "ytcjiejbndmnjaaa", sum := "f2c5244b6f9f8071b8aa4632695d335e417cd392716a2643ab88c83ecfed16ff", func := "loop.example/g01084/laws.FnExactSumsTo", spec := "fnExactSumsTo", apart := false, narrowed := true }
def FnExactSumsToUptoSaid : Prop := fnExactSumsToUptoRow.holds Try.pinned (OpenSpec.upto fnExactSumsToSpec)

/-- 'laws.FnExactConductorOf', WHERE WHAT IT READS IS OF BULK AT MOST 1048576: true; the input reads as it did. -/
def fnExactConductorOfUptoRow : OpenClaim := { program := "ytcjiejbndmnjaaa", sum := "f2c5244b6f9f8071b8aa4632695d335e417cd392716a2643ab88c83ecfed16ff", func := "loop.example/g01084/laws.FnExactConductorOf", spec := "fnExactConductorOf", apart := false, narrowed := true }
def FnExactConductorOfUptoSaid : Prop := fnExactConductorOfUptoRow.holds Try.pinned (OpenSpec.upto fnExactConductorOfSpec)

end Rows
end Go.Proofs.Ytcjiejbndmnjaaa
