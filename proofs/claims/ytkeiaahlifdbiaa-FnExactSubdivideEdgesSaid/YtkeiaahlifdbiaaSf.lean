/- The contract of the model's SubdivideEdges. -/
import Derived.Test.YtkeiaahlifdbiaaSe
namespace Go.Proofs.Ytkeiaahlifdbiaa
open Go.RowKit

theorem HNet.endAt {W0 wr : World} {M : Net} {p : Nat} {v0 v1 v2 : Value} (h : HNet W0 wr M p v0 v1 v2) {u j : Nat} (hu : u < M.ends.length) (hj : j < (gr M.ends u).length) :
    ∃ b c q d, v0 = .slice (some ⟨b, 0, none⟩) M.ends.length c ∧ wr.cell? ⟨b, u, none⟩ = some (.slice (some ⟨q, 0, none⟩) (gr M.ends u).length d) ∧ Two wr q j (.int .i64 (gn (gr M.ends u) j)) (.int .i64 (gp (gr M.ends u) j)) ∧
      (∀ y t, Typed wr t [y] → t ≠ 67 → t ≠ 66 → y ≠ q) ∧ q ≠ p ∧
      ∀ x : Int × Int, inI64 x.1 → inI64 x.2 → HNet W0 (set2 wr q j x) (setEnd M u j x) p v0 v1 v2 := by
  obtain ⟨bs, ⟨y0, y1, y2, b0, b1, b2, e, h0, k1, k2, rfl⟩, hnd, hge⟩ := h.net
  simp only [Value.agg.injEq, Array.mk.injEq, List.cons.injEq, and_true] at e
  obtain ⟨rfl, rfl, rfl⟩ := e
  obtain ⟨n0, n12, n3⟩ := List.nodup_append.1 hnd
  obtain ⟨b, c, q, d, hv, hb, hq, hx, htwo, hput⟩ := h0.put n0 hu hj
  have hqp := hge q (by simp [hq])
  refine ⟨b, c, q, d, hv, hx, htwo, fun y t ht t1 t2 e => ?_, hqp.2, fun x h1 h2 => ⟨?_, h.hp, h.box.of_block (set2_heap (fun e => hqp.2 e.symm)), b0 ++ (b1 ++ b2), ⟨_, _, _, b0, b1, b2, rfl, hput x h1 h2, k1.keep fun y hy => ?_, k2.keep fun y hy => ?_, rfl⟩, hnd, hge⟩⟩
  · subst e
    exact h0.apart ht t1 t2 y hq (by simp)
  · unfold set2
    exact (h.ext.store hqp.1 _).store hqp.1 _
  · exact set2_heap (fun e => n3 q hq y (by simp [hy]) e.symm)
  · exact set2_heap (fun e => n3 q hq y (by simp [hy]) e.symm)
theorem own_twoEnds (w : World) (u p x q : Nat) (h : inI64 u ∧ inI64 p ∧ inI64 x ∧ inI64 q) :
    OwnE (w.alloc (.cells #[.int .i64 u, .int .i64 p, .int .i64 x, .int .i64 q] 66)) (.slice (some ⟨w.heap.size, 0, none⟩) 2 2) [((u : Int), (p : Int)), ((x : Int), (q : Int))] [w.heap.size] := by
  refine ⟨⟨2, by simp, by unfold maxLen; omega, .inr ⟨w.heap.size, 4, fun j => ecell [((u : Int), (p : Int)), ((x : Int), (q : Int))] j, rfl, rfl, by simp, World.rowIs_alloc w _ 66 _ fun j hj => ?_, fun j hj => rfl⟩⟩, fun j hj => ?_⟩
  · have h : j < 4 := hj
    match j, h with
    | 0, _ => rfl
    | 1, _ => rfl
    | 2, _ => rfl
    | 3, _ => rfl
  · have h' : j < 2 := hj
    match j, h' with
    | 0, _ => exact ⟨h.1, h.2.1⟩
    | 1, _ => exact ⟨h.2.2.1, h.2.2.2⟩
theorem ii_typed {w : World} {v : Value} {l : List (List Int)} {bs : List Nat} (h : OwnII w v l bs) : ∀ b ∈ bs, Typed w 23 [b] ∨ Typed w 3 [b] := by
  obtain ⟨R, b0, T, h1, h2, rfl⟩ := h
  intro b hb
  rcases List.mem_append.1 hb with hb | hb
  · exact .inl fun y hy => by obtain rfl := List.mem_singleton.1 hy; exact h1.typed y hb
  · obtain ⟨i, hi, hbi⟩ := List.mem_flatMap.1 hb
    exact .inr fun y hy => by obtain rfl := List.mem_singleton.1 hy; exact (h2 i (List.mem_range.1 hi)).1.typed y hbi
theorem quad_cells {w : World} {ve : Value} {E : List (List Int)} {es : List Nat} {j u p x q : Nat} (h : OwnII w ve E es) (hj : j < E.length) (hq : gr E j = [(u : Int), (p : Int), (x : Int), (q : Int)]) :
    ∃ eb ec rb rc, ve = .slice (some ⟨eb, 0, none⟩) E.length ec ∧ w.cell? ⟨eb, j, none⟩ = some (.slice (some ⟨rb, 0, none⟩) 4 rc) ∧ 4 ≤ rc ∧ rc ≤ maxLen ∧ rb ∈ es ∧
      w.cell? ⟨rb, 0, none⟩ = some (.int .i64 u) ∧ w.cell? ⟨rb, 1, none⟩ = some (.int .i64 p) ∧ w.cell? ⟨rb, 2, none⟩ = some (.int .i64 x) ∧ w.cell? ⟨rb, 3, none⟩ = some (.int .i64 q) := by
  obtain ⟨R, b0, T, ⟨c, c1, c2, h1⟩, h2, rfl⟩ := h
  rcases h1 with ⟨h1, _⟩ | ⟨eb, m, g, rfl, rfl, hm, hr, hg⟩
  · omega
  · obtain ⟨⟨d, d1, d2, k⟩, _⟩ := h2 j hj
    rw [hq] at d1 k
    rcases k with ⟨k, _⟩ | ⟨rb, m', g', hT, hR, hm', hr', hg'⟩
    · simp at k
    · simp only [List.length_cons, List.length_nil, Nat.zero_add, Nat.mul_one, Nat.reduceAdd] at d1 hm' hg' hR
      have cell : ∀ i, i < 4 → w.cell? ⟨rb, i, none⟩ = some (.int .i64 (gi [(u : Int), (p : Int), (x : Int), (q : Int)] i)) := fun i hi => by rw [hr'.cell (by omega), hg' i hi]
      refine ⟨eb, c, rb, d, rfl, by rw [hr.cell (by omega), hg j (by omega), hR], d1, d2, ?_, cell 0 (by omega), cell 1 (by omega), cell 2 (by omega), cell 3 (by omega)⟩
      exact List.mem_append.2 (.inr (List.mem_flatMap.2 ⟨j, List.mem_range.2 hj, by rw [hT]; simp⟩))
theorem OwnII.slice' {w : World} {v : Value} {l : List (List Int)} {bs : List Nat} (h : OwnII w v l bs) : ∃ a c, v = .slice a l.length c ∧ l.length ≤ c ∧ c ≤ maxLen := by
  obtain ⟨R, b0, T, ⟨c, c1, c2, h1⟩, _, _⟩ := h
  rcases h1 with ⟨h0, _, a, ⟨rfl, rfl⟩, rfl⟩ | ⟨eb, m, g, _, rfl, _⟩
  · exact ⟨none, 0, by rw [h0], by omega, c2⟩
  · exact ⟨_, c, rfl, c1, c2⟩
/-- The blocks es are as they were, and the inputs lie apart from them. -/
structure Apart (w4 wr : World) (es : List Nat) (v2 : Value) : Prop where
  keep : ∀ b ∈ es, wr.heap[b]? = w4.heap[b]?
  own : ∀ b, v2.ownBlock = some b → b ∉ es
theorem Apart.ext {w4 wr wx : World} {es : List Nat} {v2 : Value} (h : Apart w4 wr es v2) (hx : Ext wr wx) (hl : ∀ b ∈ es, b < wr.heap.size) : Apart w4 wx es v2 := ⟨fun b hb => (hx.block b (hl b hb)).trans (h.keep b hb), h.own⟩
end Go.Proofs.Ytkeiaahlifdbiaa
