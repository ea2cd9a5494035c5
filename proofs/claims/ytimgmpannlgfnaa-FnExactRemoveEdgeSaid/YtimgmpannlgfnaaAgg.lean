/- A network in memory of its own is written out; two copies are equal. -/
import Derived.Test.YtimgmpannlgfnaaNe2
import Derived.Test.YtimgmpannlgfnaaSz
namespace Go.Proofs.Ytimgmpannlgfnaa
open Go.RowKit

theorem OwnSl.isSlice {w : World} {v : Value} {n k t : Nat} {f : Nat → Value} {bs : List Nat} (h : OwnSl w v n k t f bs) : ∃ a c, v = .slice a n c := by
  obtain ⟨c, _, _, h3⟩ := h
  rcases h3 with ⟨rfl, _, a, _, rfl⟩ | ⟨b, m, g, _, rfl, _⟩
  · exact ⟨a, c, rfl⟩
  · exact ⟨_, c, rfl⟩
theorem OwnNet.agg {w : World} {v : Value} {N : Net} {bs : List Nat} (h : OwnNet w v N bs) :
    ∃ a0 c0 a1 c1 a2 c2, v = .agg #[.slice a0 N.ends.length c0, .slice a1 N.ids.length c1, .slice a2 N.inputs.length c2] := by
  obtain ⟨v0, v1, v2, _, _, _, rfl, ⟨_, _, _, h0, _⟩, ⟨h1, _⟩, ⟨h2, _⟩, _⟩ := h
  obtain ⟨a0, c0, rfl⟩ := h0.isSlice
  obtain ⟨a1, c1, rfl⟩ := h1.isSlice
  obtain ⟨a2, c2, rfl⟩ := h2.isSlice
  exact ⟨a0, c0, a1, c1, a2, c2, rfl⟩

/-- Two copies of one network are equal. -/
theorem eqNetwork_same {w : World} {v1 v2 : Value} {N : Net} (h1 : NetAt w v1 N) (h2 : NetAt w v2 N) :
    Calls Try.prog 11 #[v1, v2] w fun e w' => e = .returned (.bool true) ∧ Ext w w' :=
  (eqNetwork_any h1 h2).mono fun _ _ ⟨he, hx⟩ => ⟨by rw [he]; simp, hx⟩
end Go.Proofs.Ytimgmpannlgfnaa
