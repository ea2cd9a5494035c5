/- The empty network in memory of its own; bounds of the marks; markNetwork from any mark on. No condition. -/
import Derived.Test.YtndgbildkeglfaaCpNet
import Derived.Test.YtndgbildkeglfaaWIsNetwork
namespace Go.Proofs.Ytndgbildkeglfaa
open Go.RowKit

theorem own_nilSS (w : World) : OwnSS w (.slice none 0 0) [] [] := ⟨fun _ => undef, [], fun _ => [], ⟨0, Nat.le_refl _, by unfold maxLen; omega, .inl ⟨rfl, rfl, none, ⟨rfl, rfl⟩, rfl⟩⟩, fun i hi => absurd hi (by simp), rfl⟩
theorem own_nilI (w : World) : OwnI w (.slice none 0 0) [] [] := ⟨⟨0, Nat.le_refl _, by unfold maxLen; omega, .inl ⟨rfl, rfl, none, ⟨rfl, rfl⟩, rfl⟩⟩, fun i hi => absurd hi (by simp)⟩
theorem own_zero (w : World) : OwnNet w znet zeroNet [] := ⟨_, _, _, [], [], [], rfl, own_nilSS w, own_nilI w, own_nilI w, rfl⟩
theorem zero_small : zeroNet.small := ⟨by simp [zeroNet], fun i => by simp [zeroNet, gr], by simp [zeroNet], by simp [zeroNet]⟩
theorem gr_out {α : Type} (l : List (List α)) (i : Nat) (h : l.length ≤ i) : gr l i = [] := by simp [gr, List.getD, List.getElem?_eq_none h]
theorem good_small {N : Net} (h : Good N) : N.small := by
  obtain ⟨⟨_, h1⟩, h2, h3, h4⟩ := h
  refine ⟨by omega, fun i => ?_, ?_, ?_⟩
  · by_cases hi : i < N.ends.length
    · have := (h2 i hi).1; omega
    · rw [gr_out _ _ (by omega)]; simp
  · rcases h3.1 with h | h <;> omega
  · have := h4.1; omega
theorem netLast_bound {N : Net} (h : N.small) : 0 ≤ netLast N ∧ netLast N ≤ 4398046511104 := by
  obtain ⟨h1, h2, h3, h4⟩ := h
  obtain ⟨a, b⟩ := kAt_le 1 N.ends h2 N.ends.length
  unfold netLast
  omega
theorem ret_net {v : Value} {b c : Bool} (h : b = c) : Ending.returned (.tuple #[v, .bool b]) = .returned (.tuple #[v, .bool c]) := by rw [h]

/-- A network in memory of its own is stored as the result. -/
theorem close_net {w wk : World} {x0 x1 x2 : Value} {M : Net} {ds : List Nat} (K : Ext w wk) (O : OwnNet wk (.agg #[x0, x1, x2]) M ds) (hn : ds.Nodup) (hb : ∀ b ∈ ds, w.heap.size + 2 ≤ b) :
    Ext w (((wk.setCell ⟨w.heap.size + 1, 0, none⟩ x0).setCell ⟨w.heap.size + 1, 1, none⟩ x1).setCell ⟨w.heap.size + 1, 2, none⟩ x2) ∧
      OwnNet (((wk.setCell ⟨w.heap.size + 1, 0, none⟩ x0).setCell ⟨w.heap.size + 1, 1, none⟩ x1).setCell ⟨w.heap.size + 1, 2, none⟩ x2) (.agg #[x0, x1, x2]) M ds ∧ Fresh w ds := by
  have hst : ∀ (wx : World) (p : Addr) (z : Value), p.block = w.heap.size + 1 → ∀ b ∈ ds, (wx.setCell p z).heap[b]? = wx.heap[b]? := fun wx p z hp b hb' => Below.heap_setCell _ _ _ _ (by have := hb b hb'; omega)
  exact ⟨store3_ext K (by omega) _ _ _, ((O.keep (hst _ _ _ rfl)).keep (hst _ _ _ rfl)).keep (hst _ _ _ rfl), hn, fun b hb' => by have := hb b hb'; omega⟩
end Go.Proofs.Ytndgbildkeglfaa
