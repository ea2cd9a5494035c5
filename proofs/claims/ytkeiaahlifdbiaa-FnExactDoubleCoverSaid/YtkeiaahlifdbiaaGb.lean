/- The form of a network without ports in memory. -/
import Derived.Test.YtkeiaahlifdbiaaGa
namespace Go.Proofs.Ytkeiaahlifdbiaa
open Go.RowKit

theorem OwnNet.agg_blank {w : World} {v : Value} {n : Nat} {bs : List Nat} (h : OwnNet w v (blank n 0) bs) : ∃ a0 c0 a1 c1 a2 c2, v = .agg #[.slice a0 n c0, .slice a1 0 c1, .slice a2 n c2] := by
  obtain ⟨a0, c0, a1, c1, a2, c2, rfl⟩ := h.agg
  exact ⟨a0, c0, a1, c1, a2, c2, by simp [blank]⟩
end Go.Proofs.Ytkeiaahlifdbiaa
