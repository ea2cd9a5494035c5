/- A cell of a list of ints in memory of its own is overwritten; the same for the inputs and the identifiers of a network. -/
import Derived.Test.YtndgbildkeglfaaApp3
namespace Go.Proofs.Ytndgbildkeglfaa
open Go.RowKit

theorem gi_set (l : List Int) (k i : Nat) (y : Int) (hk : k < l.length) : gi (l.set k y) i = if i = k then y else gi l i := by
  unfold gi
  rw [List.getD_eq_getElem?_getD, List.getElem?_set]
  by_cases e : k = i
  · subst e; simp [hk]
  · rw [if_neg e, if_neg (fun h => e h.symm), List.getD_eq_getElem?_getD]

theorem OwnI.put {w : World} {v : Value} {l : List Int} {bs : List Nat} (h : OwnI w v l bs) {k : Nat} (hk : k < l.length) :
    ∃ b c, v = .slice (some ⟨b, 0, none⟩) l.length c ∧ bs = [b] ∧ w.cell? ⟨b, k, none⟩ = some (.int .i64 (gi l k)) ∧ w.frozen? ⟨b, k, none⟩ = false ∧
      ∀ (w' : World) (y : Int), w'.heap[b]? = w.heap[b]? → inI64 y → OwnI (w'.setCell ⟨b, k, none⟩ (.int .i64 y)) v (l.set k y) [b] := by
  obtain ⟨⟨c, hc1, hc2, ho⟩, hr⟩ := h
  rcases ho with ⟨hn, _⟩ | ⟨b, m, g, rfl, rfl, ⟨hm, hmc⟩, hrow, hg⟩
  · omega
  · refine ⟨b, c, rfl, rfl, by rw [hrow.cell (by omega), hg k (by omega)], hrow.frozen _, fun w' y hw hy => ⟨⟨c, by simpa using hc1, hc2, .inr ⟨b, m, _, rfl, by simp, ⟨by simpa using hm, hmc⟩, (hrow.of_block hw).set k (.int .i64 y), fun i hi => ?_⟩⟩, fun i hi => ?_⟩⟩
    · show _ = Value.int .i64 (gi (l.set k y) i)
      rw [gi_set _ _ _ _ hk]
      by_cases e : i = k
      · simp [e]
      · simp only [if_neg e]; exact hg i (by simpa using hi)
    · rw [gi_set _ _ _ _ hk]
      by_cases e : i = k
      · rw [if_pos e]; exact hy
      · rw [if_neg e]; exact hr i (by simpa using hi)

theorem OwnNet.putInput {w : World} {v0 v1 v2 : Value} {N : Net} {bs : List Nat} (h : OwnNet w (.agg #[v0, v1, v2]) N bs) (hnd : bs.Nodup) {k : Nat} (hk : k < N.inputs.length) :
    ∃ b c, v2 = .slice (some ⟨b, 0, none⟩) N.inputs.length c ∧ b ∈ bs ∧ w.cell? ⟨b, k, none⟩ = some (.int .i64 (gi N.inputs k)) ∧ w.frozen? ⟨b, k, none⟩ = false ∧
      ∀ (w' : World) (y : Int), (∀ x ∈ bs, w'.heap[x]? = w.heap[x]?) → inI64 y → OwnNet (w'.setCell ⟨b, k, none⟩ (.int .i64 y)) (.agg #[v0, v1, v2]) { N with inputs := N.inputs.set k y } bs := by
  obtain ⟨y0, y1, y2, b0, b1, b2, e, h0, h1, h2, rfl⟩ := h
  simp only [Value.agg.injEq, Array.mk.injEq, List.cons.injEq, and_true] at e
  obtain ⟨rfl, rfl, rfl⟩ := e
  obtain ⟨n0, n12, n3⟩ := List.nodup_append.1 hnd
  obtain ⟨n1, n2, n4⟩ := List.nodup_append.1 n12
  obtain ⟨b, c, hv, rfl, hx, hf, hp⟩ := h2.put hk
  refine ⟨b, c, hv, by simp, hx, hf, fun w' y hw hy => ?_⟩
  have hk0 : ∀ x ∈ b0, (w'.setCell ⟨b, k, none⟩ (.int .i64 y)).heap[x]? = w.heap[x]? := fun x hx => by
    rw [Below.heap_setCell _ _ _ _ (fun e => n3 x hx b (by simp) e), hw x (by simp [hx])]
  have hk1 : ∀ x ∈ b1, (w'.setCell ⟨b, k, none⟩ (.int .i64 y)).heap[x]? = w.heap[x]? := fun x hx => by
    rw [Below.heap_setCell _ _ _ _ (fun e => n4 x hx b (by simp) e), hw x (by simp [hx])]
  exact ⟨_, _, _, b0, b1, [b], rfl, h0.keep hk0, h1.keep hk1, hp w' y (hw b (by simp)) hy, rfl⟩

theorem OwnNet.putId {w : World} {v0 v1 v2 : Value} {N : Net} {bs : List Nat} (h : OwnNet w (.agg #[v0, v1, v2]) N bs) (hnd : bs.Nodup) {k : Nat} (hk : k < N.ids.length) :
    ∃ b c, v1 = .slice (some ⟨b, 0, none⟩) N.ids.length c ∧ b ∈ bs ∧ w.cell? ⟨b, k, none⟩ = some (.int .i64 (gi N.ids k)) ∧ w.frozen? ⟨b, k, none⟩ = false ∧
      ∀ (w' : World) (y : Int), (∀ x ∈ bs, w'.heap[x]? = w.heap[x]?) → inI64 y → OwnNet (w'.setCell ⟨b, k, none⟩ (.int .i64 y)) (.agg #[v0, v1, v2]) { N with ids := N.ids.set k y } bs := by
  obtain ⟨y0, y1, y2, b0, b1, b2, e, h0, h1, h2, rfl⟩ := h
  simp only [Value.agg.injEq, Array.mk.injEq, List.cons.injEq, and_true] at e
  obtain ⟨rfl, rfl, rfl⟩ := e
  obtain ⟨n0, n12, n3⟩ := List.nodup_append.1 hnd
  obtain ⟨n1, n2, n4⟩ := List.nodup_append.1 n12
  obtain ⟨b, c, hv, rfl, hx, hf, hp⟩ := h1.put hk
  refine ⟨b, c, hv, by simp, hx, hf, fun w' y hw hy => ?_⟩
  have hk0 : ∀ x ∈ b0, (w'.setCell ⟨b, k, none⟩ (.int .i64 y)).heap[x]? = w.heap[x]? := fun x hx => by
    rw [Below.heap_setCell _ _ _ _ (fun e => n3 x hx b (by simp) e), hw x (by simp [hx])]
  have hk2 : ∀ x ∈ b2, (w'.setCell ⟨b, k, none⟩ (.int .i64 y)).heap[x]? = w.heap[x]? := fun x hx => by
    rw [Below.heap_setCell _ _ _ _ (fun e => n4 b (by simp) x hx e.symm), hw x (by simp [hx])]
  exact ⟨_, _, _, b0, [b], b2, rfl, h0.keep hk0, hp w' y (hw b (by simp)) hy, h2.keep hk2, rfl⟩
end Go.Proofs.Ytndgbildkeglfaa
