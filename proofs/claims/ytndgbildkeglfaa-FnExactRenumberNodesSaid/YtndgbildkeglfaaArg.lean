/- How a list of integers that comes in as an argument is opened. -/
import Derived.Test.YtndgbildkeglfaaRow2
namespace Go.Proofs.Ytndgbildkeglfaa
open Go.ChangeShapes Go.WideShapes Go.ChangeAt Go.RowKit Go.Joins Go.Deep
set_option maxRecDepth 100000 in
theorem open_ints_arg {H : Type} {enc : TypeId × Value → H} {W : World} {base : Nat} {spare : Nat → Bool} {held : Bool} {b0 : Nat} {v : Value} {d : DataW H} {p : List MemPlace} (hv : Value.okWide Try.prog W .any b0 23 v) (h : DataW.Trod enc Try.prog W base spare held 23 v d p) : ∃ l, IntSl W v l := by
  obtain ⟨fuel, hf⟩ := h
  obtain ⟨a, n, c, rfl⟩ := okWide_slice Try.underlying23 hv
  exact open_intsl (by simpa [Value.cells] using hf)
end Go.Proofs.Ytndgbildkeglfaa
