/-
  NARROWER THAN 'FOR EVERY INPUT', by the rows' own cells (each row's printed sentence says how): FnExactPortText: laid · FnExactParsePort: laid · FnExactNetworkText: laid · FnExactFaultName: ifaces, laid · FnExactEdgeListText: laid · FnExactParseEdgeList: laid · FnExactLabelingText: laid · FnExactParseLabeling: laid.
  DERIVED. THE GIVEN ROWS OF THIS SEAT. 8 by the template 'for every input the law returns true; each argument reads behind the call as it read before'; 0 by the template 'total and deterministic' (their statements: YtecgajpjcaemmaaDoorTotals.lean).
  GIVEN WITH THE SEED: the statements are not yours to turn. If you find one false, say at which input.
  Laid BY PROGRAM, IN A SANDBOX (cutbox-rows.mjs): the forced cells as the released guide's own fill.sh prints them over the translation 18994131b4e34eb3… (all of the seat's roots in one cut). By AI agents, Wed Nov 11 2026. No macro, syntax, notation, axiom, sorry.
-/
import Derived.Test.YtecgajpjcaemmaaDoorChecked
import GoSem.PinnedTables
import GoSem.Claim
import GoSem.ClaimJoined
import GoSem.ClaimMapViews
import Derived.JoinedTies
import Derived.KernelRfl
namespace Go.Proofs.YtecgajpjcaemmaaDoor
/- THE CELL 'sum', in the pinned program and in every row, IS THE sha256 OF THE DUMP (.gsa) THAT YtecgajpjcaemmaaDoorProg.lean LOADS. Nothing in Lean hashes anything: it is a label: what it is worth is what the hold of that sum in a sandbox is worth. -/
noncomputable def Tryd.pinned : Pinned := { name := "ytecgajpjcaemmaadoor", sum := "18994131b4e34eb379f0b5016eed91e739159e7a4d4d7fe221f64083ede875d6", checked := Tryd.checked }
namespace Rows
def none {H : Type} : Left H := { results := [], args := [] }

/- WHAT THE LISTED PACKAGE-LEVEL VARIABLES READ AS WHEN THE CALL BEGINS. Each datum BY PROGRAM (the guide's laid-datum.mjs) off the statement by which the dump's own 'gosem.cut.vars' lays the variable. In a bare row this is a premise. The card (YtecgajpjcaemmaaDoorCards.lean) ties it to the program's text. -/
def laid_math_bits_deBruijn32tab {H : Type} : DataW H := .agg [.lit (.int .u8 0), .lit (.int .u8 1), .lit (.int .u8 28), .lit (.int .u8 2), .lit (.int .u8 29), .lit (.int .u8 14), .lit (.int .u8 24), .lit (.int .u8 3), .lit (.int .u8 30), .lit (.int .u8 22), .lit (.int .u8 20), .lit (.int .u8 15), .lit (.int .u8 25), .lit (.int .u8 17), .lit (.int .u8 4), .lit (.int .u8 8), .lit (.int .u8 31), .lit (.int .u8 27), .lit (.int .u8 13), .lit (.int .u8 23), .lit (.int .u8 21), .lit (.int .u8 19), .lit (.int .u8 16), .lit (.int .u8 7), .lit (.int .u8 26), .lit (.int .u8 12), .lit (.int .u8 18), .lit (.int .u8 6), .lit (.int .u8 11), .lit (.int .u8 5), .lit (.int .u8 10), .lit (.int .u8 9)]
def laid_math_bits_deBruijn64tab {H : Type} : DataW H := .agg [.lit (.int .u8 0), .lit (.int .u8 1), .lit (.int .u8 56), .lit (.int .u8 2), .lit (.int .u8 57), .lit (.int .u8 49), .lit (.int .u8 28), .lit (.int .u8 3), .lit (.int .u8 61), .lit (.int .u8 58), .lit (.int .u8 42), .lit (.int .u8 50), .lit (.int .u8 38), .lit (.int .u8 29), .lit (.int .u8 17), .lit (.int .u8 4), .lit (.int .u8 62), .lit (.int .u8 47), .lit (.int .u8 59), .lit (.int .u8 36), .lit (.int .u8 45), .lit (.int .u8 43), .lit (.int .u8 51), .lit (.int .u8 22), .lit (.int .u8 53), .lit (.int .u8 39), .lit (.int .u8 33), .lit (.int .u8 30), .lit (.int .u8 24), .lit (.int .u8 18), .lit (.int .u8 12), .lit (.int .u8 5), .lit (.int .u8 63), .lit (.int .u8 55), .lit (.int .u8 48), .lit (.int .u8 27), .lit (.int .u8 60), .lit (.int .u8 41), .lit (.int .u8 37), .lit (.int .u8 16), .lit (.int .u8 46), .lit (.int .u8 35), .lit (.int .u8 44), .lit (.int .u8 21), .lit (.int .u8 52), .lit (.int .u8 32), .lit (.int .u8 23), .lit (.int .u8 11), .lit (.int .u8 54), .lit (.int .u8 26), .lit (.int .u8 40), .lit (.int .u8 15), .lit (.int .u8 34), .lit (.int .u8 20), .lit (.int .u8 31), .lit (.int .u8 10), .lit (.int .u8 25), .lit (.int .u8 14), .lit (.int .u8 19), .lit (.int .u8 9), .lit (.int .u8 13), .lit (.int .u8 8), .lit (.int .u8 7), .lit (.int .u8 6)]
def laid_internal_strconv_uint64pow10 {H : Type} : DataW H := .agg [.lit (.int .u64 1), .lit (.int .u64 10), .lit (.int .u64 100), .lit (.int .u64 1000), .lit (.int .u64 10000), .lit (.int .u64 100000), .lit (.int .u64 1000000), .lit (.int .u64 10000000), .lit (.int .u64 100000000), .lit (.int .u64 1000000000), .lit (.int .u64 10000000000), .lit (.int .u64 100000000000), .lit (.int .u64 1000000000000), .lit (.int .u64 10000000000000), .lit (.int .u64 100000000000000), .lit (.int .u64 1000000000000000), .lit (.int .u64 10000000000000000), .lit (.int .u64 100000000000000000), .lit (.int .u64 1000000000000000000), .lit (.int .u64 10000000000000000000)]
def laid_strconv_ErrRange {H : Type} : DataW H := .iface "*errors.errorString" (.ptr (.agg [.lit (.string [118, 97, 108, 117, 101, 32, 111, 117, 116, 32, 111, 102, 32, 114, 97, 110, 103, 101])]))
def laid_strconv_ErrSyntax {H : Type} : DataW H := .iface "*errors.errorString" (.ptr (.agg [.lit (.string [105, 110, 118, 97, 108, 105, 100, 32, 115, 121, 110, 116, 97, 120])]))
def laid_loop_example_g01084_impl_errLong {H : Type} : DataW H := .iface "*errors.errorString" (.ptr (.agg [.lit (.string [108, 111, 110, 103])]))
def laid_loop_example_g01084_impl_errWord {H : Type} : DataW H := .iface "*errors.errorString" (.ptr (.agg [.lit (.string [119, 111, 114, 100])]))
def laid_loop_example_g01084_impl_errMany {H : Type} : DataW H := .iface "*errors.errorString" (.ptr (.agg [.lit (.string [109, 97, 110, 121])]))
def laid_loop_example_g01084_impl_errEnd {H : Type} : DataW H := .iface "*errors.errorString" (.ptr (.agg [.lit (.string [101, 110, 100])]))
def laid_loop_example_g01084_impl_errId {H : Type} : DataW H := .iface "*errors.errorString" (.ptr (.agg [.lit (.string [105, 100])]))
def laid_unicode_utf8_acceptRanges {H : Type} : DataW H := .agg [.agg [.lit (.int .u8 128), .lit (.int .u8 191)], .agg [.lit (.int .u8 160), .lit (.int .u8 191)], .agg [.lit (.int .u8 128), .lit (.int .u8 159)], .agg [.lit (.int .u8 144), .lit (.int .u8 191)], .agg [.lit (.int .u8 128), .lit (.int .u8 143)], .agg [.lit (.int .u8 0), .lit (.int .u8 0)], .agg [.lit (.int .u8 0), .lit (.int .u8 0)], .agg [.lit (.int .u8 0), .lit (.int .u8 0)], .agg [.lit (.int .u8 0), .lit (.int .u8 0)], .agg [.lit (.int .u8 0), .lit (.int .u8 0)], .agg [.lit (.int .u8 0), .lit (.int .u8 0)], .agg [.lit (.int .u8 0), .lit (.int .u8 0)], .agg [.lit (.int .u8 0), .lit (.int .u8 0)], .agg [.lit (.int .u8 0), .lit (.int .u8 0)], .agg [.lit (.int .u8 0), .lit (.int .u8 0)], .agg [.lit (.int .u8 0), .lit (.int .u8 0)]]
/-- One of Go's own tables, pinned by name: the form's constant. -/
def laid_unicode_utf8_first : DataW Unit := Go.Pinned.utf8First

/-- 'laws.FnExactPortText': WHATEVER THE INPUT: true; the input reads as it did. -/
def fnExactPortTextSpec : ChangeSpec := { name := "fnExactPortText", fn := fun _ => fun
  | [d] => { results := [.lit (.bool true)], args := [d] }
  | _ => none }
def fnExactPortTextRow : OpenClaim := { program := "ytecgajpjcaemmaadoor", sum := "18994131b4e34eb379f0b5016eed91e739159e7a4d4d7fe221f64083ede875d6", func := "loop.example/g01084/laws.FnExactPortText", spec := "fnExactPortText", inPlace := ["internal/abi.NoEscape", "internal/bytealg.MakeNoZero"], recurses := true, named := ["internal/strconv.uint64pow10", "math/bits.deBruijn32tab", "math/bits.deBruijn64tab"], apart := false, laid := [("math/bits.deBruijn32tab", laid_math_bits_deBruijn32tab), ("math/bits.deBruijn64tab", laid_math_bits_deBruijn64tab), ("internal/strconv.uint64pow10", laid_internal_strconv_uint64pow10)] }
def FnExactPortTextSaid : Prop := fnExactPortTextRow.holds Tryd.pinned (OpenSpec.ofChange fnExactPortTextSpec)

/-- ITS FALSE NEIGHBOUR: 'it returns false'. Refute it at one input. -/
def fnExactPortTextWrong : ChangeSpec := { name := "fnExactPortText", fn := fun _ => fun
  | [d] => { results := [.lit (.bool false)], args := [d] }
  | _ => none }
def FnExactPortTextWrongFalsely : Prop := fnExactPortTextRow.holds Tryd.pinned (OpenSpec.ofChange fnExactPortTextWrong)

/-- 'laws.FnExactParsePort': WHATEVER THE INPUT: true; the input reads as it did. -/
def fnExactParsePortSpec : ChangeSpec := { name := "fnExactParsePort", fn := fun _ => fun
  | [d] => { results := [.lit (.bool true)], args := [d] }
  | _ => none }
def fnExactParsePortRow : OpenClaim := { program := "ytecgajpjcaemmaadoor", sum := "18994131b4e34eb379f0b5016eed91e739159e7a4d4d7fe221f64083ede875d6", func := "loop.example/g01084/laws.FnExactParsePort", spec := "fnExactParsePort", inPlace := ["internal/bytealg.IndexByteString", "internal/bytealg.IndexString"], named := ["internal/bytealg.MaxLen", "strconv.ErrSyntax", "strconv.ErrRange", "internal/strconv.uint64pow10", "math/bits.deBruijn32tab", "math/bits.deBruijn64tab"], apart := false, laid := [("math/bits.deBruijn32tab", laid_math_bits_deBruijn32tab), ("math/bits.deBruijn64tab", laid_math_bits_deBruijn64tab), ("internal/strconv.uint64pow10", laid_internal_strconv_uint64pow10), ("strconv.ErrRange", laid_strconv_ErrRange), ("strconv.ErrSyntax", laid_strconv_ErrSyntax)] }
def FnExactParsePortSaid : Prop := fnExactParsePortRow.holds Tryd.pinned (OpenSpec.ofChange fnExactParsePortSpec)

/-- ITS FALSE NEIGHBOUR: 'it returns false'. Refute it at one input. -/
def fnExactParsePortWrong : ChangeSpec := { name := "fnExactParsePort", fn := fun _ => fun
  | [d] => { results := [.lit (.bool false)], args := [d] }
  | _ => none }
def FnExactParsePortWrongFalsely : Prop := fnExactParsePortRow.holds Tryd.pinned (OpenSpec.ofChange fnExactParsePortWrong)

/-- 'laws.FnExactNetworkText': WHATEVER THE INPUT: true; the input reads as it did. -/
def fnExactNetworkTextSpec : ChangeSpec := { name := "fnExactNetworkText", fn := fun _ => fun
  | [d] => { results := [.lit (.bool true)], args := [d] }
  | _ => none }
def fnExactNetworkTextRow : OpenClaim := { program := "ytecgajpjcaemmaadoor", sum := "18994131b4e34eb379f0b5016eed91e739159e7a4d4d7fe221f64083ede875d6", func := "loop.example/g01084/laws.FnExactNetworkText", spec := "fnExactNetworkText", inPlace := ["internal/abi.NoEscape", "internal/bytealg.MakeNoZero"], recurses := true, named := ["internal/strconv.uint64pow10", "math/bits.deBruijn32tab", "math/bits.deBruijn64tab"], apart := false, laid := [("math/bits.deBruijn32tab", laid_math_bits_deBruijn32tab), ("math/bits.deBruijn64tab", laid_math_bits_deBruijn64tab), ("internal/strconv.uint64pow10", laid_internal_strconv_uint64pow10)] }
def FnExactNetworkTextSaid : Prop := fnExactNetworkTextRow.holds Tryd.pinned (OpenSpec.ofChange fnExactNetworkTextSpec)

/-- ITS FALSE NEIGHBOUR: 'it returns false'. Refute it at one input. -/
def fnExactNetworkTextWrong : ChangeSpec := { name := "fnExactNetworkText", fn := fun _ => fun
  | [d] => { results := [.lit (.bool false)], args := [d] }
  | _ => none }
def FnExactNetworkTextWrongFalsely : Prop := fnExactNetworkTextRow.holds Tryd.pinned (OpenSpec.ofChange fnExactNetworkTextWrong)

/-- 'laws.FnExactFaultName': WHATEVER THE INPUT: true; the input reads as it did. -/
def fnExactFaultNameSpec : ChangeSpec := { name := "fnExactFaultName", vars := ["loop.example/g01084/impl.errLong", "loop.example/g01084/impl.errWord", "loop.example/g01084/impl.errMany", "loop.example/g01084/impl.errEnd", "loop.example/g01084/impl.errId"], fn := fun _ => fun
  | [d, g1, g2, g3, g4, g5] => { results := [.lit (.bool true)], args := [d], vars := [g1, g2, g3, g4, g5] }
  | _ => none }
def fnExactFaultNameRow : OpenClaim := { program := "ytecgajpjcaemmaadoor", sum := "18994131b4e34eb379f0b5016eed91e739159e7a4d4d7fe221f64083ede875d6", func := "loop.example/g01084/laws.FnExactFaultName", spec := "fnExactFaultName", unfollowed := true, recurses := true, named := ["loop.example/g01084/impl.errLong", "loop.example/g01084/impl.errWord", "loop.example/g01084/impl.errMany", "loop.example/g01084/impl.errEnd", "loop.example/g01084/impl.errId"], ifaces := true, apart := false, laid := [("loop.example/g01084/impl.errLong", laid_loop_example_g01084_impl_errLong), ("loop.example/g01084/impl.errWord", laid_loop_example_g01084_impl_errWord), ("loop.example/g01084/impl.errMany", laid_loop_example_g01084_impl_errMany), ("loop.example/g01084/impl.errEnd", laid_loop_example_g01084_impl_errEnd), ("loop.example/g01084/impl.errId", laid_loop_example_g01084_impl_errId)] }
def FnExactFaultNameSaid : Prop := fnExactFaultNameRow.holds Tryd.pinned (OpenSpec.ofChange fnExactFaultNameSpec)

/-- ITS FALSE NEIGHBOUR: 'it returns false'. Refute it at one input. -/
def fnExactFaultNameWrong : ChangeSpec := { name := "fnExactFaultName", vars := ["loop.example/g01084/impl.errLong", "loop.example/g01084/impl.errWord", "loop.example/g01084/impl.errMany", "loop.example/g01084/impl.errEnd", "loop.example/g01084/impl.errId"], fn := fun _ => fun
  | [d, g1, g2, g3, g4, g5] => { results := [.lit (.bool false)], args := [d], vars := [g1, g2, g3, g4, g5] }
  | _ => none }
def FnExactFaultNameWrongFalsely : Prop := fnExactFaultNameRow.holds Tryd.pinned (OpenSpec.ofChange fnExactFaultNameWrong)

/-- 'laws.FnExactEdgeListText': WHATEVER THE INPUT: true; the input reads as it did. -/
def fnExactEdgeListTextSpec : ChangeSpec := { name := "fnExactEdgeListText", fn := fun _ => fun
  | [d] => { results := [.lit (.bool true)], args := [d] }
  | _ => none }
def fnExactEdgeListTextRow : OpenClaim := { program := "ytecgajpjcaemmaadoor", sum := "18994131b4e34eb379f0b5016eed91e739159e7a4d4d7fe221f64083ede875d6", func := "loop.example/g01084/laws.FnExactEdgeListText", spec := "fnExactEdgeListText", inPlace := ["internal/abi.NoEscape", "internal/bytealg.MakeNoZero"], recurses := true, named := ["internal/strconv.uint64pow10", "math/bits.deBruijn32tab", "math/bits.deBruijn64tab"], apart := false, laid := [("math/bits.deBruijn32tab", laid_math_bits_deBruijn32tab), ("math/bits.deBruijn64tab", laid_math_bits_deBruijn64tab), ("internal/strconv.uint64pow10", laid_internal_strconv_uint64pow10)] }
def FnExactEdgeListTextSaid : Prop := fnExactEdgeListTextRow.holds Tryd.pinned (OpenSpec.ofChange fnExactEdgeListTextSpec)

/-- ITS FALSE NEIGHBOUR: 'it returns false'. Refute it at one input. -/
def fnExactEdgeListTextWrong : ChangeSpec := { name := "fnExactEdgeListText", fn := fun _ => fun
  | [d] => { results := [.lit (.bool false)], args := [d] }
  | _ => none }
def FnExactEdgeListTextWrongFalsely : Prop := fnExactEdgeListTextRow.holds Tryd.pinned (OpenSpec.ofChange fnExactEdgeListTextWrong)

/-- 'laws.FnExactParseEdgeList': WHATEVER THE INPUT: true; the input reads as it did. -/
def fnExactParseEdgeListSpec : ChangeSpec := { name := "fnExactParseEdgeList", fn := fun _ => fun
  | [d] => { results := [.lit (.bool true)], args := [d] }
  | _ => none }
def fnExactParseEdgeListRow : OpenClaim := { program := "ytecgajpjcaemmaadoor", sum := "18994131b4e34eb379f0b5016eed91e739159e7a4d4d7fe221f64083ede875d6", func := "loop.example/g01084/laws.FnExactParseEdgeList", spec := "fnExactParseEdgeList", inPlace := ["internal/bytealg.IndexByteString", "internal/bytealg.IndexString"], named := ["internal/bytealg.MaxLen", "strconv.ErrSyntax", "strconv.ErrRange", "internal/strconv.uint64pow10", "math/bits.deBruijn32tab", "math/bits.deBruijn64tab"], apart := false, laid := [("math/bits.deBruijn32tab", laid_math_bits_deBruijn32tab), ("math/bits.deBruijn64tab", laid_math_bits_deBruijn64tab), ("internal/strconv.uint64pow10", laid_internal_strconv_uint64pow10), ("strconv.ErrRange", laid_strconv_ErrRange), ("strconv.ErrSyntax", laid_strconv_ErrSyntax)] }
def FnExactParseEdgeListSaid : Prop := fnExactParseEdgeListRow.holds Tryd.pinned (OpenSpec.ofChange fnExactParseEdgeListSpec)

/-- ITS FALSE NEIGHBOUR: 'it returns false'. Refute it at one input. -/
def fnExactParseEdgeListWrong : ChangeSpec := { name := "fnExactParseEdgeList", fn := fun _ => fun
  | [d] => { results := [.lit (.bool false)], args := [d] }
  | _ => none }
def FnExactParseEdgeListWrongFalsely : Prop := fnExactParseEdgeListRow.holds Tryd.pinned (OpenSpec.ofChange fnExactParseEdgeListWrong)

/-- 'laws.FnExactLabelingText': WHATEVER THE INPUT: true; the input reads as it did. -/
def fnExactLabelingTextSpec : ChangeSpec := { name := "fnExactLabelingText", fn := fun _ => fun
  | [d] => { results := [.lit (.bool true)], args := [d] }
  | _ => none }
def fnExactLabelingTextRow : OpenClaim := { program := "ytecgajpjcaemmaadoor", sum := "18994131b4e34eb379f0b5016eed91e739159e7a4d4d7fe221f64083ede875d6", func := "loop.example/g01084/laws.FnExactLabelingText", spec := "fnExactLabelingText", inPlace := ["internal/abi.NoEscape", "internal/bytealg.MakeNoZero"], recurses := true, named := ["internal/strconv.uint64pow10", "math/bits.deBruijn32tab", "math/bits.deBruijn64tab"], apart := false, laid := [("math/bits.deBruijn32tab", laid_math_bits_deBruijn32tab), ("math/bits.deBruijn64tab", laid_math_bits_deBruijn64tab), ("internal/strconv.uint64pow10", laid_internal_strconv_uint64pow10)] }
def FnExactLabelingTextSaid : Prop := fnExactLabelingTextRow.holds Tryd.pinned (OpenSpec.ofChange fnExactLabelingTextSpec)

/-- ITS FALSE NEIGHBOUR: 'it returns false'. Refute it at one input. -/
def fnExactLabelingTextWrong : ChangeSpec := { name := "fnExactLabelingText", fn := fun _ => fun
  | [d] => { results := [.lit (.bool false)], args := [d] }
  | _ => none }
def FnExactLabelingTextWrongFalsely : Prop := fnExactLabelingTextRow.holds Tryd.pinned (OpenSpec.ofChange fnExactLabelingTextWrong)

/-- 'laws.FnExactParseLabeling': WHATEVER THE INPUT: true; the input reads as it did. -/
def fnExactParseLabelingSpec : ChangeSpec := { name := "fnExactParseLabeling", fn := fun _ => fun
  | [d] => { results := [.lit (.bool true)], args := [d] }
  | _ => none }
def fnExactParseLabelingRow : OpenClaim := { program := "ytecgajpjcaemmaadoor", sum := "18994131b4e34eb379f0b5016eed91e739159e7a4d4d7fe221f64083ede875d6", func := "loop.example/g01084/laws.FnExactParseLabeling", spec := "fnExactParseLabeling", inPlace := ["internal/bytealg.CountString", "internal/bytealg.IndexByteString", "internal/bytealg.IndexString"], named := ["unicode/utf8.first", "unicode/utf8.acceptRanges", "internal/bytealg.MaxLen", "strconv.ErrSyntax", "strconv.ErrRange", "internal/strconv.uint64pow10", "math/bits.deBruijn32tab", "math/bits.deBruijn64tab"], apart := false, laid := [("math/bits.deBruijn32tab", laid_math_bits_deBruijn32tab), ("math/bits.deBruijn64tab", laid_math_bits_deBruijn64tab), ("internal/strconv.uint64pow10", laid_internal_strconv_uint64pow10), ("unicode/utf8.acceptRanges", laid_unicode_utf8_acceptRanges), ("strconv.ErrRange", laid_strconv_ErrRange), ("strconv.ErrSyntax", laid_strconv_ErrSyntax), ("unicode/utf8.first", laid_unicode_utf8_first)] }
def FnExactParseLabelingSaid : Prop := fnExactParseLabelingRow.holds Tryd.pinned (OpenSpec.ofChange fnExactParseLabelingSpec)

/-- ITS FALSE NEIGHBOUR: 'it returns false'. Refute it at one input. -/
def fnExactParseLabelingWrong : ChangeSpec := { name := "fnExactParseLabeling", fn := fun _ => fun
  | [d] => { results := [.lit (.bool false)], args := [d] }
  | _ => none }
def FnExactParseLabelingWrongFalsely : Prop := fnExactParseLabelingRow.holds Tryd.pinned (OpenSpec.ofChange fnExactParseLabelingWrong)

/- THE SECOND FORM. 'bulk': how many values and letters a reading holds, each counted each time it is reached (what is shared counts as often as it is met; a slice's spare places count too). A statement '..UptoSaid' is the law's where the arguments, and the package variables that the reading takes, are together of bulk at most 1048576: NARROWER than '..Said'. Prove '..Said' where nothing that the law and all that it calls make is longer than what came in: it says more and counts as full. Else prove '..UptoSaid'. A law counts once. -/
mutual
def uptoBulk {H : Type} : DataW H → Nat
  | .lit (.string bytes) => bytes.length + 1
  | .lit _ => 1
  | .nil => 1
  | .ptr d => uptoBulk d + 1
  | .slice elems spare => uptoBulkAll elems + uptoBulkAll spare + 1
  | .agg parts => uptoBulkAll parts + 1
  | .iface _ d => uptoBulk d + 1
  | .map entries => uptoBulkEntries entries + 1
  | .held _ => 1
def uptoBulkAll {H : Type} : List (DataW H) → Nat
  | [] => 0
  | d :: r => uptoBulk d + uptoBulkAll r
def uptoBulkEntries {H : Type} : List (Lit × DataW H) → Nat
  | [] => 0
  | x :: r => uptoBulkEntry x + uptoBulkEntries r
def uptoBulkEntry {H : Type} : Lit × DataW H → Nat
  | (.string bytes, d) => bytes.length + uptoBulk d + 1
  | (_, d) => uptoBulk d + 1
 end
def uptoSmall : (H : Type) → List (DataW H) → Bool := fun _ ds => decide (uptoBulkAll ds ≤ 1048576)
def OpenSpec.upto (s : _root_.Go.ChangeSpec) : _root_.Go.OpenSpec := { _root_.Go.OpenSpec.ofChange s with cond := some uptoSmall }

/-- 'laws.FnExactPortText', WHERE WHAT IT READS IS OF BULK AT MOST 1048576: true; the input reads as it did. -/
def fnExactPortTextUptoRow : OpenClaim := { program := "ytecgajpjcaemmaadoor", sum := "18994131b4e34eb379f0b5016eed91e739159e7a4d4d7fe221f64083ede875d6", func := "loop.example/g01084/laws.FnExactPortText", spec := "fnExactPortText", inPlace := ["internal/abi.NoEscape", "internal/bytealg.MakeNoZero"], recurses := true, named := ["internal/strconv.uint64pow10", "math/bits.deBruijn32tab", "math/bits.deBruijn64tab"], apart := false, laid := [("math/bits.deBruijn32tab", laid_math_bits_deBruijn32tab), ("math/bits.deBruijn64tab", laid_math_bits_deBruijn64tab), ("internal/strconv.uint64pow10", laid_internal_strconv_uint64pow10)], narrowed := true }
def FnExactPortTextUptoSaid : Prop := fnExactPortTextUptoRow.holds Tryd.pinned (OpenSpec.upto fnExactPortTextSpec)

/-- 'laws.FnExactParsePort', WHERE WHAT IT READS IS OF BULK AT MOST 1048576: true; the input reads as it did. -/
def fnExactParsePortUptoRow : OpenClaim := { program := "ytecgajpjcaemmaadoor", sum := "18994131b4e34eb379f0b5016eed91e739159e7a4d4d7fe221f64083ede875d6", func := "loop.example/g01084/laws.FnExactParsePort", spec := "fnExactParsePort", inPlace := ["internal/bytealg.IndexByteString", "internal/bytealg.IndexString"], named := ["internal/bytealg.MaxLen", "strconv.ErrSyntax", "strconv.ErrRange", "internal/strconv.uint64pow10", "math/bits.deBruijn32tab", "math/bits.deBruijn64tab"], apart := false, laid := [("math/bits.deBruijn32tab", laid_math_bits_deBruijn32tab), ("math/bits.deBruijn64tab", laid_math_bits_deBruijn64tab), ("internal/strconv.uint64pow10", laid_internal_strconv_uint64pow10), ("strconv.ErrRange", laid_strconv_ErrRange), ("strconv.ErrSyntax", laid_strconv_ErrSyntax)], narrowed := true }
def FnExactParsePortUptoSaid : Prop := fnExactParsePortUptoRow.holds Tryd.pinned (OpenSpec.upto fnExactParsePortSpec)

/-- 'laws.FnExactNetworkText', WHERE WHAT IT READS IS OF BULK AT MOST 1048576: true; the input reads as it did. -/
def fnExactNetworkTextUptoRow : OpenClaim := { program := "ytecgajpjcaemmaadoor", sum := "18994131b4e34eb379f0b5016eed91e739159e7a4d4d7fe221f64083ede875d6", func := "loop.example/g01084/laws.FnExactNetworkText", spec := "fnExactNetworkText", inPlace := ["internal/abi.NoEscape", "internal/bytealg.MakeNoZero"], recurses := true, named := ["internal/strconv.uint64pow10", "math/bits.deBruijn32tab", "math/bits.deBruijn64tab"], apart := false, laid := [("math/bits.deBruijn32tab", laid_math_bits_deBruijn32tab), ("math/bits.deBruijn64tab", laid_math_bits_deBruijn64tab), ("internal/strconv.uint64pow10", laid_internal_strconv_uint64pow10)], narrowed := true }
def FnExactNetworkTextUptoSaid : Prop := fnExactNetworkTextUptoRow.holds Tryd.pinned (OpenSpec.upto fnExactNetworkTextSpec)

/-- 'laws.FnExactFaultName', WHERE WHAT IT READS IS OF BULK AT MOST 1048576: true; the input reads as it did. -/
def fnExactFaultNameUptoRow : OpenClaim := { program := "ytecgajpjcaemmaadoor", sum := "18994131b4e34eb379f0b5016eed91e739159e7a4d4d7fe221f64083ede875d6", func := "loop.example/g01084/laws.FnExactFaultName", spec := "fnExactFaultName", unfollowed := true, recurses := true, named := ["loop.example/g01084/impl.errLong", "loop.example/g01084/impl.errWord", "loop.example/g01084/impl.errMany", "loop.example/g01084/impl.errEnd", "loop.example/g01084/impl.errId"], ifaces := true, apart := false, laid := [("loop.example/g01084/impl.errLong", laid_loop_example_g01084_impl_errLong), ("loop.example/g01084/impl.errWord", laid_loop_example_g01084_impl_errWord), ("loop.example/g01084/impl.errMany", laid_loop_example_g01084_impl_errMany), ("loop.example/g01084/impl.errEnd", laid_loop_example_g01084_impl_errEnd), ("loop.example/g01084/impl.errId", laid_loop_example_g01084_impl_errId)], narrowed := true }
def FnExactFaultNameUptoSaid : Prop := fnExactFaultNameUptoRow.holds Tryd.pinned (OpenSpec.upto fnExactFaultNameSpec)

/-- 'laws.FnExactEdgeListText', WHERE WHAT IT READS IS OF BULK AT MOST 1048576: true; the input reads as it did. -/
def fnExactEdgeListTextUptoRow : OpenClaim := { program := "ytecgajpjcaemmaadoor", sum := "18994131b4e34eb379f0b5016eed91e739159e7a4d4d7fe221f64083ede875d6", func := "loop.example/g01084/laws.FnExactEdgeListText", spec := "fnExactEdgeListText", inPlace := ["internal/abi.NoEscape", "internal/bytealg.MakeNoZero"], recurses := true, named := ["internal/strconv.uint64pow10", "math/bits.deBruijn32tab", "math/bits.deBruijn64tab"], apart := false, laid := [("math/bits.deBruijn32tab", laid_math_bits_deBruijn32tab), ("math/bits.deBruijn64tab", laid_math_bits_deBruijn64tab), ("internal/strconv.uint64pow10", laid_internal_strconv_uint64pow10)], narrowed := true }
def FnExactEdgeListTextUptoSaid : Prop := fnExactEdgeListTextUptoRow.holds Tryd.pinned (OpenSpec.upto fnExactEdgeListTextSpec)

/-- 'laws.FnExactParseEdgeList', WHERE WHAT IT READS IS OF BULK AT MOST 1048576: true; the input reads as it did. -/
def fnExactParseEdgeListUptoRow : OpenClaim := { program := "ytecgajpjcaemmaadoor", sum := "18994131b4e34eb379f0b5016eed91e739159e7a4d4d7fe221f64083ede875d6", func := "loop.example/g01084/laws.FnExactParseEdgeList", spec := "fnExactParseEdgeList", inPlace := ["internal/bytealg.IndexByteString", "internal/bytealg.IndexString"], named := ["internal/bytealg.MaxLen", "strconv.ErrSyntax", "strconv.ErrRange", "internal/strconv.uint64pow10", "math/bits.deBruijn32tab", "math/bits.deBruijn64tab"], apart := false, laid := [("math/bits.deBruijn32tab", laid_math_bits_deBruijn32tab), ("math/bits.deBruijn64tab", laid_math_bits_deBruijn64tab), ("internal/strconv.uint64pow10", laid_internal_strconv_uint64pow10), ("strconv.ErrRange", laid_strconv_ErrRange), ("strconv.ErrSyntax", laid_strconv_ErrSyntax)], narrowed := true }
def FnExactParseEdgeListUptoSaid : Prop := fnExactParseEdgeListUptoRow.holds Tryd.pinned (OpenSpec.upto fnExactParseEdgeListSpec)

/-- 'laws.FnExactLabelingText', WHERE WHAT IT READS IS OF BULK AT MOST 1048576: true; the input reads as it did. -/
def fnExactLabelingTextUptoRow : OpenClaim := { program := "ytecgajpjcaemmaadoor", sum := "18994131b4e34eb379f0b5016eed91e739159e7a4d4d7fe221f64083ede875d6", func := "loop.example/g01084/laws.FnExactLabelingText", spec := "fnExactLabelingText", inPlace := ["internal/abi.NoEscape", "internal/bytealg.MakeNoZero"], recurses := true, named := ["internal/strconv.uint64pow10", "math/bits.deBruijn32tab", "math/bits.deBruijn64tab"], apart := false, laid := [("math/bits.deBruijn32tab", laid_math_bits_deBruijn32tab), ("math/bits.deBruijn64tab", laid_math_bits_deBruijn64tab), ("internal/strconv.uint64pow10", laid_internal_strconv_uint64pow10)], narrowed := true }
def FnExactLabelingTextUptoSaid : Prop := fnExactLabelingTextUptoRow.holds Tryd.pinned (OpenSpec.upto fnExactLabelingTextSpec)

/-- 'laws.FnExactParseLabeling', WHERE WHAT IT READS IS OF BULK AT MOST 1048576: true; the input reads as it did. -/
def fnExactParseLabelingUptoRow : OpenClaim := { program := "ytecgajpjcaemmaadoor", sum := "18994131b4e34eb379f0b5016eed91e739159e7a4d4d7fe221f64083ede875d6", func := "loop.example/g01084/laws.FnExactParseLabeling", spec := "fnExactParseLabeling", inPlace := ["internal/bytealg.CountString", "internal/bytealg.IndexByteString", "internal/bytealg.IndexString"], named := ["unicode/utf8.first", "unicode/utf8.acceptRanges", "internal/bytealg.MaxLen", "strconv.ErrSyntax", "strconv.ErrRange", "internal/strconv.uint64pow10", "math/bits.deBruijn32tab", "math/bits.deBruijn64tab"], apart := false, laid := [("math/bits.deBruijn32tab", laid_math_bits_deBruijn32tab), ("math/bits.deBruijn64tab", laid_math_bits_deBruijn64tab), ("internal/strconv.uint64pow10", laid_internal_strconv_uint64pow10), ("unicode/utf8.acceptRanges", laid_unicode_utf8_acceptRanges), ("strconv.ErrRange", laid_strconv_ErrRange), ("strconv.ErrSyntax", laid_strconv_ErrSyntax), ("unicode/utf8.first", laid_unicode_utf8_first)], narrowed := true }
def FnExactParseLabelingUptoSaid : Prop := fnExactParseLabelingUptoRow.holds Tryd.pinned (OpenSpec.upto fnExactParseLabelingSpec)

end Rows
end Go.Proofs.YtecgajpjcaemmaaDoor
