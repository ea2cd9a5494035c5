/- A refusal that comes in as an argument is opened. -/
import Derived.Test.YtkpdbceglejbnaaRw
import Derived.Test.YtkpdbceglejbnaaTkv
namespace Go.Proofs.Ytkpdbceglejbnaa
open Go.ChangeShapes Go.WideShapes Go.ChangeAt Go.RowKit Go.Joins Go.Deep

theorem Try.cellsLR : Try.prog.cellsOf 57 = 4 := by kernel_rfl
section
variable {H : Type} {enc : TypeId × Value → H} {W : World} {base : Nat} {spare : Nat → Bool} {held : Bool}
theorem y_atR {α : Type} {ys : List α} {n i : Nat} (h : ys.length = n) (hi : i < n) : ys[i]? = some (ys[i]'(by omega)) := List.getElem?_eq_getElem _
theorem open_int1r {fuel : Nat} {c : Value} {x : DataW H × List MemPlace} (h : DataW.trod enc Try.prog W base spare held fuel 3 [c] = some x) : ∃ n : Int, c = .int .i64 n ∧ inI64 n := by
  obtain ⟨n, hc, _, hw⟩ := DataW.trod_int Try.underlying3 h
  simp at hc
  exact ⟨n, hc, bounds_i64 hw⟩
theorem array4 {cs : Array Value} (h : cs.size = 4) : ∃ c0 c1 c2 c3, cs = #[c0, c1, c2, c3] := by
  obtain ⟨l⟩ := cs
  match l, h with
  | [c0, c1, c2, c3], _ => exact ⟨c0, c1, c2, c3, rfl⟩

set_option maxRecDepth 100000 in
theorem open_rf {b0 : Nat} {v : Value} {d : DataW H} {p : List MemPlace} (hv : Value.okWide Try.prog W .any b0 57 v) (h : DataW.Trod enc Try.prog W base spare held 57 v d p) : ∃ R, RfAt W v R := by
  obtain ⟨cs, rfl, hsz⟩ := okWide_struct Try.underlying57 hv
  obtain ⟨c0, c1, c2, c3, rfl⟩ := array4 (hsz.trans Try.cellsLR)
  obtain ⟨fuel, hf⟩ := h
  have hf' : DataW.trod enc Try.prog W base spare held fuel 57 [c0, c1, c2, c3] = some (d, p) := by simpa [Value.cells] using hf
  obtain ⟨ys, n, _, _, hlen, hyl, hg⟩ := DataW.trod_struct Try.underlying57 hf'
  have h0 : DataW.trod enc Try.prog W base spare held n 3 (([c0, c1, c2, c3].drop 0).take (Try.prog.cellsOf 3)) = ys[0]? := hg 0 _ rfl
  have h1 : DataW.trod enc Try.prog W base spare held n 26 (([c0, c1, c2, c3].drop 1).take (Try.prog.cellsOf 26)) = ys[1]? := hg 1 _ rfl
  have h2 : DataW.trod enc Try.prog W base spare held n 3 (([c0, c1, c2, c3].drop 2).take (Try.prog.cellsOf 3)) = ys[2]? := hg 2 _ rfl
  have h3 : DataW.trod enc Try.prog W base spare held n 3 (([c0, c1, c2, c3].drop 3).take (Try.prog.cellsOf 3)) = ys[3]? := hg 3 _ rfl
  rw [Try.cells3] at h0 h2 h3
  rw [Try.cells23] at h1
  have hyl' : ys.length = 4 := by simpa using hyl
  rw [y_atR hyl' (by omega)] at h0 h1 h2 h3
  obtain ⟨x0, rfl, i0⟩ := open_int1r h0
  obtain ⟨l1, e1⟩ := open_intsl h1
  obtain ⟨x2, rfl, i2⟩ := open_int1r h2
  obtain ⟨x3, rfl, i3⟩ := open_int1r h3
  obtain ⟨a1, _, _, q1, rfl, -, -, -, -⟩ := id e1
  exact ⟨⟨x0, l1, x2, x3⟩, a1, q1, rfl, e1⟩
end
end Go.Proofs.Ytkpdbceglejbnaa
