/- Two networks beside each other, as plain data; steps of the network under construction: its identifiers, its inputs and its rows grow. -/
import Derived.Test.YtdcgpodjoalokaaKd
import Derived.Test.YtdcgpodjoalokaaKc
namespace Go.Proofs.Ytdcgpodjoalokaa
open Go.RowKit

def shiftRow (n : Nat) (r : List (Int × Int)) : List (Int × Int) := r.map fun p => (p.1 + n, p.2)
theorem length_shiftRow (n : Nat) (r : List (Int × Int)) : (shiftRow n r).length = r.length := by simp [shiftRow]
theorem gn_shiftRow (n : Nat) (r : List (Int × Int)) (i : Nat) (h : i < r.length) : gn (shiftRow n r) i = gn r i + n := by simp [gn, shiftRow, List.getD, h]
theorem gp_shiftRow (n : Nat) (r : List (Int × Int)) (i : Nat) (h : i < r.length) : gp (shiftRow n r) i = gp r i := by simp [gp, shiftRow, List.getD, h]
def unionEnds (A B : Net) : List (List (Int × Int)) := A.ends ++ B.ends.map (shiftRow A.ends.length)
theorem length_unionEnds (A B : Net) : (unionEnds A B).length = A.ends.length + B.ends.length := by simp [unionEnds]
theorem gr_unionEnds_left (A B : Net) (i : Nat) (h : i < A.ends.length) : gr (unionEnds A B) i = gr A.ends i := by simp [gr, unionEnds, List.getD, List.getElem?_append_left h]
theorem gr_unionEnds_right (A B : Net) (j : Nat) (h : j < B.ends.length) : gr (unionEnds A B) (A.ends.length + j) = shiftRow A.ends.length (gr B.ends j) := by
  simp [gr, unionEnds, List.getD, h]
def unionNet (A B : Net) : Net := ⟨unionEnds A B, A.ids ++ B.ids, A.inputs ++ B.inputs⟩

/-- What a list of rows under construction needs where the world changes: its blocks have the types 89 and 123. -/
theorem GrowL.keepP {B : Nat} {w w' : World} {v : Value} {l : List (List (Int × Int))} {k : Nat} (h : GrowL B w v l k) (he : ∀ (b : Nat) (cur : Array Value) (t : Nat), t = 89 ∨ t = 123 → w.heap[b]? = some (Obj.cells cur t (0, 0)) → w'.heap[b]? = w.heap[b]?) : GrowL B w' v l k := by
  obtain ⟨R, T, h1, h2, h3, h4⟩ := h
  refine ⟨R, T, ⟨h1.1, ?_⟩, fun i hi => (h2 i hi).keep fun b hb => ?_, h3, h4⟩
  · rcases h1.2 with ⟨rfl, hn⟩ | ⟨g, cap, cur, rfl, hb, hh, rest⟩
    · exact .inl ⟨rfl, hn⟩
    · exact .inr ⟨g, cap, cur, rfl, hb, by rw [he g cur 89 (.inl rfl) hh]; exact hh, rest⟩
  · obtain ⟨cur, hc⟩ := (h2 i hi).1.typed b hb
    exact he b cur 123 (.inr rfl) hc
theorem GrowL.longer {B : Nat} {w : World} {v : Value} {l l' : List (List (Int × Int))} {k : Nat} (h : GrowL B w v l k) (hl : ∀ i, i < k → gr l' i = gr l i) : GrowL B w v l' k := by
  obtain ⟨R, T, h1, h2, h3, h4⟩ := h
  exact ⟨R, T, h1, fun i hi => by rw [hl i hi]; exact h2 i hi, h3, h4⟩
theorem OwnSS.grow {B : Nat} {w : World} {v : Value} {l : List (List (Int × Int))} {bs : List Nat} (h : OwnSS w v l bs) (hnd : bs.Nodup) (hb : ∀ b ∈ bs, B ≤ b) : GrowL B w v l l.length := by
  obtain ⟨R, b0, T, ho, hr, rfl⟩ := h
  refine ⟨R, T, ho.owns (fun b hb' => hb b (by simp [hb'])) (by simp) (fun i hi => by simp at hi; simp [hi]), hr, (List.nodup_append.1 hnd).2.1, fun b hb' => hb b (List.mem_append.2 (.inr hb'))⟩

theorem intCells_append (l m : List Int) : intCells l ++ intCells m = intCells (l ++ m) := by simp [intCells]
theorem ints_grown {w w1 : World} {B : Nat} {v v' : Value} {l m : List Int} {t : List Nat} (ho : OwnI w v l t) (hm : ∀ i, i < m.length → inI64 (gi m i)) (hg : Grew2 w w1 B 3 1 v v' (l.length + m.length) (intCells l ++ intCells m)) :
    ∃ cs, OwnI w1 v' (l ++ m) cs ∧ (∀ y ∈ cs, y ∈ t ∨ w.heap.size ≤ y) ∧ (∀ y ∈ cs, B ≤ y) ∧ cs.Nodup ∧ ∀ y, y < w.heap.size → y ∉ t → w1.heap[y]? = w.heap[y]? := by
  obtain ⟨⟨h1, h2, h3⟩, h4⟩ := hg
  rw [intCells_append] at h1
  obtain ⟨cs, k1, k2, k3⟩ := own_of_cells (l := l ++ m) (by simpa using h1) (fun i hi => by
    by_cases e : i < l.length
    · simpa [gi, List.getD, List.getElem?_append_left e] using ho.2 i e
    · have hi' : i - l.length < m.length := by simp at hi; omega
      simpa [gi, List.getD, List.getElem?_append_right (show l.length ≤ i by omega)] using hm _ hi')
  refine ⟨cs, k1, fun y hy => ?_, k3, k2, fun y hy hyt => h2.block y hy fun e => hyt ?_⟩
  · obtain ⟨c, c1, c2, c3⟩ := k1.1
    rcases c3 with ⟨_, rfl, _⟩ | ⟨b', m', g', rfl, rfl, _⟩
    · simp at hy
    · obtain rfl := List.mem_singleton.1 hy
      rcases h4 y rfl with h | h
      · refine .inl ?_
        obtain ⟨d, d1, d2, d3⟩ := ho.1
        rcases d3 with ⟨_, rfl, a, ⟨rfl, rfl⟩, rfl⟩ | ⟨b'', m'', g'', rfl, rfl, _⟩
        · simp [Value.ownBlock] at h
        · simp [Value.ownBlock] at h; simp [h]
      · exact .inr h
  · obtain ⟨d, d1, d2, d3⟩ := ho.1
    rcases d3 with ⟨_, rfl, a, ⟨rfl, rfl⟩, rfl⟩ | ⟨b'', m'', g'', rfl, rfl, _⟩
    · simp [Value.ownBlock] at e
    · simp [Value.ownBlock] at e; simp [e]

/-- The parts of a network under construction. -/
structure Build (W0 wr : World) (N : Net) (p k : Nat) (y x1 x2 : Value) (b1 b2 : List Nat) : Prop where
  hp : W0.heap.size ≤ p
  ext : Ext W0 wr
  row : wr.rowIs p 43 3 (tri y x1 x2)
  rows : GrowL W0.heap.size wr y N.ends k
  ids : OwnI wr x1 N.ids b1
  inputs : OwnI wr x2 N.inputs b2
  nodup : (b1 ++ b2).Nodup
  ge : ∀ b ∈ b1 ++ b2, W0.heap.size ≤ b
theorem Und.build {W0 wr : World} {N : Net} {p k : Nat} (h : Und W0 N p k wr) : ∃ ya yc x1a x1c x2a x2c b1 b2, Build W0 wr N p k (.slice ya k yc) (.slice x1a N.ids.length x1c) (.slice x2a N.inputs.length x2c) b1 b2 := by
  obtain ⟨y, x1, x2, b1, b2, h1, h2, h3, h4, h5, h6, h7, h8⟩ := h
  have h4' := h4
  obtain ⟨R, T, g1, _⟩ := h4'
  obtain ⟨ya, yc, rfl⟩ := owns_slice g1
  obtain ⟨x1a, x1c, rfl⟩ := h5.1.slice
  obtain ⟨x2a, x2c, rfl⟩ := h6.1.slice
  exact ⟨ya, yc, x1a, x1c, x2a, x2c, b1, b2, ⟨h1, h2, h3, h4, h5, h6, h7, h8⟩⟩
theorem Build.und {W0 wr : World} {N : Net} {p k : Nat} {y x1 x2 : Value} {b1 b2 : List Nat} (h : Build W0 wr N p k y x1 x2 b1 b2) : Und W0 N p k wr := ⟨y, x1, x2, b1, b2, h.hp, h.ext, h.row, h.rows, h.ids, h.inputs, h.nodup, h.ge⟩

/-- Its identifiers grow. -/
theorem Build.moreIds {W0 wr w2 : World} {N : Net} {p k : Nat} {y x1 x2 x1' : Value} {b1 b2 : List Nat} {m : List Int} (h : Build W0 wr N p k y x1 x2 b1 b2) (hm : ∀ i, i < m.length → inI64 (gi m i))
    (hg : Grew2 wr w2 W0.heap.size 3 1 x1 x1' (N.ids.length + m.length) (intCells N.ids ++ intCells m)) :
    (∃ a c, x1' = .slice a (N.ids.length + m.length) c) ∧ w2.rowIs p 43 3 (tri y x1 x2) ∧ ∃ cs, Build W0 (w2.setCell ⟨p, 1, none⟩ x1') { N with ids := N.ids ++ m } p k y x1' x2 cs b2 := by
  obtain ⟨cs, c1, c2, c3, c4, c5⟩ := ints_grown h.ids hm hg
  obtain ⟨n1, n2, n3⟩ := List.nodup_append.1 h.nodup
  have hsz := hg.1.2.2
  have hpt : ∀ (t : Nat) (b : Nat) (cur : Array Value), t ≠ 3 → wr.heap[b]? = some (Obj.cells cur t (0, 0)) → w2.heap[b]? = wr.heap[b]? := fun t b cur ht hb => c5 b (Array.getElem?_eq_some_iff.1 hb).1 fun hb1 => by
    obtain ⟨cur', hc⟩ := h.ids.1.typed b hb1
    exact type_ne hb hc ht rfl
  obtain ⟨cr, hcr⟩ := rowIs.blk h.row
  have hr2 : w2.rowIs p 43 3 (tri y x1 x2) := h.row.of_block (hpt 43 p cr (by decide) hcr)
  obtain ⟨cr2, hcr2⟩ := rowIs.blk hr2
  have hrows : GrowL W0.heap.size w2 y N.ends k := h.rows.keepP fun b cur t ht hb => hpt t b cur (by rcases ht with rfl | rfl <;> decide) hb
  have hin : OwnI w2 x2 N.inputs b2 := h.inputs.keep fun b hb => c5 b (h.inputs.1.lt b hb) fun hb1 => n3 b hb1 b hb rfl
  obtain ⟨a, c, e⟩ := c1.1.slice
  refine ⟨⟨a, c, by simpa using e⟩, hr2, cs, h.hp, ?_, row3_set1 hr2 _, hrows.keepT hcr2, c1.keep (kept_store hcr2 c1.1.typed (by decide)), hin.keep (kept_store hcr2 hin.1.typed (by decide)), ?_, fun b hb => ?_⟩
  · refine Ext.store ?_ h.hp _
    exact hg.1.ext h.ext fun b hb => (h.ids.owns (fun b hb => h.ge b (List.mem_append.2 (.inl hb)))).lt b hb |>.1
  · refine List.nodup_append.2 ⟨c4, n2, fun b hb b' hb' e => ?_⟩
    subst e
    rcases c2 b hb with h1 | h1
    · exact n3 b h1 b hb' rfl
    · have := h.inputs.1.lt b hb'; omega
  · rcases List.mem_append.1 hb with hb | hb
    · exact c3 b hb
    · exact h.ge b (List.mem_append.2 (.inr hb))
/-- Its inputs grow. -/
theorem Build.moreInputs {W0 wr w2 : World} {N : Net} {p k : Nat} {y x1 x2 x2' : Value} {b1 b2 : List Nat} {m : List Int} (h : Build W0 wr N p k y x1 x2 b1 b2) (hm : ∀ i, i < m.length → inI64 (gi m i))
    (hg : Grew2 wr w2 W0.heap.size 3 1 x2 x2' (N.inputs.length + m.length) (intCells N.inputs ++ intCells m)) :
    (∃ a c, x2' = .slice a (N.inputs.length + m.length) c) ∧ w2.rowIs p 43 3 (tri y x1 x2) ∧ ∃ cs, Build W0 (w2.setCell ⟨p, 2, none⟩ x2') { N with inputs := N.inputs ++ m } p k y x1 x2' b1 cs := by
  obtain ⟨cs, c1, c2, c3, c4, c5⟩ := ints_grown h.inputs hm hg
  obtain ⟨n1, n2, n3⟩ := List.nodup_append.1 h.nodup
  have hsz := hg.1.2.2
  have hpt : ∀ (t : Nat) (b : Nat) (cur : Array Value), t ≠ 3 → wr.heap[b]? = some (Obj.cells cur t (0, 0)) → w2.heap[b]? = wr.heap[b]? := fun t b cur ht hb => c5 b (Array.getElem?_eq_some_iff.1 hb).1 fun hb1 => by
    obtain ⟨cur', hc⟩ := h.inputs.1.typed b hb1
    exact type_ne hb hc ht rfl
  obtain ⟨cr, hcr⟩ := rowIs.blk h.row
  have hr2 : w2.rowIs p 43 3 (tri y x1 x2) := h.row.of_block (hpt 43 p cr (by decide) hcr)
  obtain ⟨cr2, hcr2⟩ := rowIs.blk hr2
  have hrows : GrowL W0.heap.size w2 y N.ends k := h.rows.keepP fun b cur t ht hb => hpt t b cur (by rcases ht with rfl | rfl <;> decide) hb
  have hin : OwnI w2 x1 N.ids b1 := h.ids.keep fun b hb => c5 b (h.ids.1.lt b hb) fun hb1 => n3 b hb b hb1 rfl
  obtain ⟨a, c, e⟩ := c1.1.slice
  refine ⟨⟨a, c, by simpa using e⟩, hr2, cs, h.hp, ?_, row3_set2 hr2 _, hrows.keepT hcr2, hin.keep (kept_store hcr2 hin.1.typed (by decide)), c1.keep (kept_store hcr2 c1.1.typed (by decide)), ?_, fun b hb => ?_⟩
  · refine Ext.store ?_ h.hp _
    exact hg.1.ext h.ext fun b hb => (h.inputs.owns (fun b hb => h.ge b (List.mem_append.2 (.inr hb)))).lt b hb |>.1
  · refine List.nodup_append.2 ⟨n1, c4, fun b hb b' hb' e => ?_⟩
    subst e
    rcases c2 b hb' with h1 | h1
    · exact n3 b hb b h1 rfl
    · have := h.ids.1.lt b hb; omega
  · rcases List.mem_append.1 hb with hb | hb
    · exact h.ge b (List.mem_append.2 (.inl hb))
    · exact c3 b hb
/-- It begins as a copy that lies in a box of its own. -/
theorem und_copy {W0 w1 : World} {A : Net} {E : List (List (Int × Int))} {v0 v1 v2 : Value} {bs : List Nat} (h : OwnNet w1 (.agg #[v0, v1, v2]) A bs) (hx : Ext W0 w1) (hf : Fresh W0 bs) (hE : ∀ i, i < A.ends.length → gr E i = gr A.ends i) :
    ∃ b1 b2, Build W0 (w1.alloc (.cells #[v0, v1, v2] 43)) ⟨E, A.ids, A.inputs⟩ w1.heap.size A.ends.length v0 v1 v2 b1 b2 := by
  obtain ⟨y0, y1, y2, b0, b1, b2, e, h0, h1, h2, rfl⟩ := h
  simp only [Value.agg.injEq, Array.mk.injEq, List.cons.injEq, and_true] at e
  obtain ⟨rfl, rfl, rfl⟩ := e
  obtain ⟨n0, n12, _⟩ := List.nodup_append.1 hf.1
  have hA := (Ext.rfl' w1).alloc' (.cells #[v0, v1, v2] 43)
  exact ⟨b1, b2, hx.size, hx.alloc' _, row3_made _ _ _ _ _, ((h0.grow n0 (fun b hb => hf.2 b (by simp [hb]))).longer hE).ext hA, h1.ext hA, h2.ext hA, n12, fun b hb => hf.2 b (List.mem_append.2 (.inr hb))⟩

/-- What append of one end onto the first j ends of a row gives. -/
theorem ends_snoc (l : List (Int × Int)) (j : Nat) (h : j < l.length) : endCells (l.take j) ++ [.int .i64 (gn l j), .int .i64 (gp l j)] = endCells (l.take (j + 1)) := by
  have e : l.take (j + 1) = l.take j ++ [(gn l j, gp l j)] := by
    rw [List.take_succ_eq_append_getElem h]
    have e1 : gn l j = l[j].1 := by simp [gn, List.getD, h]
    have e2 : gp l j = l[j].2 := by simp [gp, List.getD, h]
    rw [e1, e2]
  rw [e]
  refine List.ext_getElem? fun i => ?_
  have hL : (endCells (l.take j)).length = j * 2 := by simp [endCells]; omega
  have hL2 : (endCells (l.take j ++ [(gn l j, gp l j)])).length = (j + 1) * 2 := by simp [endCells]; omega
  have hlt : (l.take j).length = j := by simp; omega
  by_cases h1 : i < j * 2
  · rw [List.getElem?_append_left (by omega), endCells_get (l.take j) i (by omega), endCells_get (l.take j ++ [(gn l j, gp l j)]) i (by simp; omega)]
    have e1 : gn (l.take j ++ [(gn l j, gp l j)]) (i / 2) = gn (l.take j) (i / 2) := by unfold gn; simp [List.getD, List.getElem?_append_left (show i / 2 < (l.take j).length by omega)]
    have e2 : gp (l.take j ++ [(gn l j, gp l j)]) (i / 2) = gp (l.take j) (i / 2) := by unfold gp; simp [List.getD, List.getElem?_append_left (show i / 2 < (l.take j).length by omega)]
    simp only [ecell, e1, e2]
  · rw [List.getElem?_append_right (by omega), hL]
    have e1 : gn (l.take j ++ [(gn l j, gp l j)]) j = gn l j := by unfold gn; simp [List.getD, hlt]
    have e2 : gp (l.take j ++ [(gn l j, gp l j)]) j = gp l j := by unfold gp; simp [List.getD, hlt]
    by_cases h2 : i = j * 2
    · subst h2
      rw [endCells_get _ _ (by simp; omega)]
      simp [ecell, e1]
    · by_cases h3 : i = j * 2 + 1
      · subst h3
        rw [endCells_get _ _ (by simp; omega)]
        have h4 : (j * 2 + 1) / 2 = j := by omega
        have h5 : (j * 2 + 1) % 2 = 1 := by omega
        have h6 : j * 2 + 1 - j * 2 = 1 := by omega
        simp [ecell, h4, h5, h6, e2]
      · rw [List.getElem?_eq_none (by simp; omega), List.getElem?_eq_none (by omega)]
theorem src_two' (w : World) (x y : Value) (t : TypeId) (h1 : x.oneCell' = true) (h2 : y.oneCell' = true) : SrcAt (w.alloc (.cells #[x, y] t)) (some ⟨w.heap.size, 0, none⟩) 1 2 [x, y] := by
  refine ⟨rfl, fun h => by simp at h, fun ad e j u hu => ?_, fun u hu => by simp at hu; rcases hu with rfl | rfl <;> assumption⟩
  obtain rfl := Option.some.inj e
  rw [add_plain]
  match j with
  | 0 => simp at hu; subst hu; simp
  | 1 => simp at hu; subst hu; simp
  | j + 2 => simp at hu
theorem good_port {N : Net} (h : Good N) {k j : Nat} (hk : k < N.ends.length) (hj : j < (gr N.ends k).length) : 0 ≤ gn (gr N.ends k) j ∧ gn (gr N.ends k) j ≤ 40 ∧ 0 ≤ gp (gr N.ends k) j ∧ gp (gr N.ends k) j ≤ 6 := by
  obtain ⟨⟨h1, h2, h3, h4⟩, _⟩ := (h.2.1 k hk).2 j hj
  have h5 := h.1.2
  have h6 := (h.2.1 (gn (gr N.ends k) j).toNat (by omega)).1
  omega
theorem shift_range {N : Net} (h : Good N) {k : Nat} (hk : k < N.ends.length) (n : Nat) (hn : n ≤ 40) : ∀ i, i < (shiftRow n (gr N.ends k)).length → inI64 (gn (shiftRow n (gr N.ends k)) i) ∧ inI64 (gp (shiftRow n (gr N.ends k)) i) := fun i hi => by
  have hi' : i < (gr N.ends k).length := by simpa [length_shiftRow] using hi
  rw [gn_shiftRow _ _ _ hi', gp_shiftRow _ _ _ hi']
  have := good_port h hk hi'
  unfold inI64
  omega
end Go.Proofs.Ytdcgpodjoalokaa

