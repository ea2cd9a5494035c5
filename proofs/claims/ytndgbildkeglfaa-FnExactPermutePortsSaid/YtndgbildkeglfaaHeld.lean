/- One end of a network in memory of its own is written over. -/
import Derived.Test.YtndgbildkeglfaaSet
import Derived.Test.YtndgbildkeglfaaRen2
namespace Go.Proofs.Ytndgbildkeglfaa
open Go.RowKit

theorem gn_set (l : List (Int × Int)) (j i : Nat) (p : Int × Int) (hj : j < l.length) : gn (l.set j p) i = if i = j then p.1 else gn l i := by
  unfold gn
  rw [List.getD_eq_getElem?_getD, List.getElem?_set]
  by_cases e : j = i
  · subst e; simp [hj]
  · rw [if_neg e, if_neg (fun h => e h.symm), List.getD_eq_getElem?_getD]
theorem gp_set (l : List (Int × Int)) (j i : Nat) (p : Int × Int) (hj : j < l.length) : gp (l.set j p) i = if i = j then p.2 else gp l i := by
  unfold gp
  rw [List.getD_eq_getElem?_getD, List.getElem?_set]
  by_cases e : j = i
  · subst e; simp [hj]
  · rw [if_neg e, if_neg (fun h => e h.symm), List.getD_eq_getElem?_getD]
theorem ecell_set {l : List (Int × Int)} {j i : Nat} {p : Int × Int} (hj : j < l.length) : ecell (l.set j p) i = if i = j * 2 + 1 then .int .i64 p.2 else if i = j * 2 then .int .i64 p.1 else ecell l i := by
  unfold ecell
  rw [gn_set _ _ _ _ hj, gp_set _ _ _ _ hj]
  by_cases e : i = j * 2 + 1
  · subst e
    rw [if_pos rfl, if_neg (by omega), if_pos (by omega)]
  · rw [if_neg e]
    by_cases e2 : i = j * 2
    · subst e2
      rw [if_pos rfl, if_pos (by omega), if_pos (by omega)]
    · rw [if_neg e2]
      by_cases h : i % 2 = 0
      · rw [if_pos h, if_pos h, if_neg (by omega)]
      · rw [if_neg h, if_neg h, if_neg (by omega)]

/-- What is asked of the two cells of an end that is stored. -/
def Two (w : World) (b j : Nat) (x y : Value) : Prop := w.cell? ⟨b, j * 2, none⟩ = some x ∧ w.frozen? ⟨b, j * 2, none⟩ = false ∧ (∀ v, (w.setCell ⟨b, j * 2, none⟩ v).cell? ⟨b, j * 2 + 1, none⟩ = some y) ∧ ∀ v, (w.setCell ⟨b, j * 2, none⟩ v).frozen? ⟨b, j * 2 + 1, none⟩ = false
def set2 (w : World) (b j : Nat) (p : Int × Int) : World := (w.setCell ⟨b, j * 2, none⟩ (.int .i64 p.1)).setCell ⟨b, j * 2 + 1, none⟩ (.int .i64 p.2)
theorem set2_heap {w : World} {b j y : Nat} {p : Int × Int} (h : y ≠ b) : (set2 w b j p).heap[y]? = w.heap[y]? := by
  unfold set2
  rw [Below.heap_setCell _ _ _ _ h, Below.heap_setCell _ _ _ _ h]

theorem OwnE.put {w : World} {v : Value} {l : List (Int × Int)} {bs : List Nat} (h : OwnE w v l bs) {j : Nat} (hj : j < l.length) :
    ∃ b c, v = .slice (some ⟨b, 0, none⟩) l.length c ∧ bs = [b] ∧ Two w b j (.int .i64 (gn l j)) (.int .i64 (gp l j)) ∧ ∀ p : Int × Int, inI64 p.1 → inI64 p.2 → OwnE (set2 w b j p) v (l.set j p) [b] := by
  obtain ⟨⟨c, hc1, hc2, ho⟩, hr⟩ := h
  rcases ho with ⟨hn, _⟩ | ⟨b, m, g, rfl, rfl, ⟨hm, hmc⟩, hrow, hg⟩
  · omega
  · have e0 : g (j * 2) = .int .i64 (gn l j) := by rw [hg _ (by omega)]; unfold ecell; rw [if_pos (by omega)]; congr 2; omega
    have e1 : g (j * 2 + 1) = .int .i64 (gp l j) := by rw [hg _ (by omega)]; unfold ecell; rw [if_neg (by omega)]; congr 2; omega
    have ht := row_two hrow (i := j * 2) (by omega)
    rw [e0, e1] at ht
    refine ⟨b, c, rfl, rfl, ht, fun p h1 h2 => ⟨⟨c, by simpa using hc1, hc2, .inr ⟨b, m, _, rfl, by simp, ⟨by simpa using hm, hmc⟩, (hrow.set (j * 2) (.int .i64 p.1)).set (j * 2 + 1) (.int .i64 p.2), fun i hi => ?_⟩⟩, fun i hi => ?_⟩⟩
    · rw [ecell_set hj]
      by_cases e : i = j * 2 + 1
      · simp [e]
      · simp only [if_neg e]
        by_cases e2 : i = j * 2
        · simp [e2]
        · simp only [if_neg e2]; exact hg i (by simpa using hi)
    · rw [gn_set _ _ _ _ hj, gp_set _ _ _ _ hj]
      by_cases e : i = j
      · rw [if_pos e, if_pos e]; exact ⟨h1, h2⟩
      · rw [if_neg e, if_neg e]; exact hr i (by simpa using hi)

theorem OwnSS.put {w : World} {v : Value} {l : List (List (Int × Int))} {bs : List Nat} (h : OwnSS w v l bs) (hnd : bs.Nodup) {u j : Nat} (hu : u < l.length) (hj : j < (gr l u).length) :
    ∃ b c q d, v = .slice (some ⟨b, 0, none⟩) l.length c ∧ b ∈ bs ∧ q ∈ bs ∧ w.cell? ⟨b, u, none⟩ = some (.slice (some ⟨q, 0, none⟩) (gr l u).length d) ∧ Two w q j (.int .i64 (gn (gr l u) j)) (.int .i64 (gp (gr l u) j)) ∧
      ∀ p : Int × Int, inI64 p.1 → inI64 p.2 → OwnSS (set2 w q j p) v (l.set u ((gr l u).set j p)) bs := by
  obtain ⟨R, b0, T, ⟨c, hc1, hc2, ho⟩, hrows, rfl⟩ := h
  rcases ho with ⟨hn, _⟩ | ⟨b, m, g, rfl, rfl, ⟨hm, hmc⟩, hrow, hg⟩
  · omega
  · obtain ⟨hd1, hd2⟩ := nodup_rows hnd
    obtain ⟨q, d, hRu, hTu, htwo, hput⟩ := (hrows u hu).put hj
    have hqb : b ≠ q := fun e => hd1 u hu b (by simp) (by rw [hTu]; simp [e])
    have hqT : ∀ i, i < l.length → i ≠ u → ∀ y ∈ T i, y ≠ q := fun i hi hiu y hy e => hd2 i u hi hu hiu y hy (by rw [hTu]; simp [e])
    refine ⟨b, c, q, d, rfl, by simp, List.mem_append.2 (.inr (List.mem_flatMap.2 ⟨u, List.mem_range.2 hu, by rw [hTu]; simp⟩)), by rw [hrow.cell (by omega), hg u (by omega), hRu], htwo, fun p h1 h2 => ⟨R, [b], T, ⟨c, by simpa using hc1, hc2, .inr ⟨b, m, g, rfl, by simp, ⟨by simpa using hm, hmc⟩, hrow.of_block (set2_heap hqb), fun i hi => hg i (by simpa using hi)⟩⟩, fun i hi => ?_, by simp⟩⟩
    have hi : i < l.length := by simpa using hi
    rw [gr_set _ _ _ _ hu]
    by_cases e : i = u
    · subst e
      rw [if_pos rfl, hTu]
      exact hput p h1 h2
    · rw [if_neg e]
      exact (hrows i hi).keep fun y hy => set2_heap (hqT i hi e y hy)

/-- A network under construction: its box lies at p. -/
structure Held (W0 wr : World) (M : Net) (p : Nat) (v0 v1 v2 : Value) (bs : List Nat) : Prop where
  ext : Ext W0 wr
  hp : W0.heap.size ≤ p
  box : wr.rowIs p 30 3 (tri v0 v1 v2)
  own : OwnNet wr (.agg #[v0, v1, v2]) M bs
  nodup : bs.Nodup
  ge : ∀ b ∈ bs, W0.heap.size ≤ b ∧ b ≠ p
theorem Held.mono {W0 wr w' : World} {M : Net} {p : Nat} {v0 v1 v2 : Value} {bs : List Nat} (h : Held W0 wr M p v0 v1 v2 bs) (hx : Ext wr w') : Held W0 w' M p v0 v1 v2 bs :=
  ⟨h.ext.trans' hx, h.hp, row_ext h.box hx, h.own.ext hx, h.nodup, h.ge⟩
theorem Held.put {W0 wr : World} {M : Net} {p : Nat} {v0 v1 v2 : Value} {bs : List Nat} (h : Held W0 wr M p v0 v1 v2 bs) {u j : Nat} (hu : u < M.ends.length) (hj : j < (gr M.ends u).length) (x : Int × Int) (h1 : inI64 x.1) (h2 : inI64 x.2) :
    ∃ b c q d, v0 = .slice (some ⟨b, 0, none⟩) M.ends.length c ∧ wr.cell? ⟨b, u, none⟩ = some (.slice (some ⟨q, 0, none⟩) (gr M.ends u).length d) ∧ q ∈ bs ∧ Two wr q j (.int .i64 (gn (gr M.ends u) j)) (.int .i64 (gp (gr M.ends u) j)) ∧
      Held W0 (set2 wr q j x) { M with ends := M.ends.set u ((gr M.ends u).set j x) } p v0 v1 v2 bs := by
  obtain ⟨y0, y1, y2, b0, b1, b2, e, h0, k1, k2, rfl⟩ := h.own
  simp only [Value.agg.injEq, Array.mk.injEq, List.cons.injEq, and_true] at e
  obtain ⟨rfl, rfl, rfl⟩ := e
  obtain ⟨n0, n12, n3⟩ := List.nodup_append.1 h.nodup
  obtain ⟨b, c, q, d, hv, hb, hq, hx, htwo, hput⟩ := h0.put n0 hu hj
  have hge := h.ge q (by simp [hq])
  have hk : ∀ y ∈ b1 ++ b2, (set2 wr q j x).heap[y]? = wr.heap[y]? := fun y hy => set2_heap (fun e => n3 q hq y hy e.symm)
  refine ⟨b, c, q, d, hv, hx, by simp [hq], htwo, ?_, h.hp, h.box.of_block (set2_heap (fun e => hge.2 e.symm)), ⟨_, _, _, b0, b1, b2, rfl, hput x h1 h2, k1.keep fun y hy => hk y (by simp [hy]), k2.keep fun y hy => hk y (by simp [hy]), rfl⟩, h.nodup, h.ge⟩
  exact (h.ext.store (p := ⟨q, j * 2, none⟩) hge.1 _).store (p := ⟨q, j * 2 + 1, none⟩) hge.1 _
end Go.Proofs.Ytndgbildkeglfaa
