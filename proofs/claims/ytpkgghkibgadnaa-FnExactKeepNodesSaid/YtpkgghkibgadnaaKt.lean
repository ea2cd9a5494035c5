/- The model's kept nodes: the new numbers, the rows, and an identifier behind the others. -/
import Derived.Test.YtpkgghkibgadnaaKp
import Derived.Test.YtpkgghkibgadnaaSd
namespace Go.Proofs.Ytpkgghkibgadnaa
open Go.RowKit

/-- The new numbers that the first k nodes have got. -/
noncomputable def toV (l : List Int) (k : Nat) (u : Nat) : Int := if dec (Has (l.take k) (u : Int)) = true then ixK l (u : Int) else 0
noncomputable def toRow (l : List Int) (k : Nat) (u : Nat) : Value := .int .i64 (toV l k u)
theorem toV_zero (l : List Int) (u : Nat) : toV l 0 u = 0 := by
  unfold toV; rw [if_neg]; rw [Bool.not_eq_true, dec_false]; rintro ⟨j, h, _⟩; simp at h
theorem take_has {l : List Int} {k : Nat} (hk : k < l.length) (x : Int) : Has (l.take (k + 1)) x ↔ Has (l.take k) x ∨ gi l k = x := by
  have h0 : (l.take k).length = k := by simp; omega
  have h1 : (l.take (k + 1)).length = k + 1 := by simp; omega
  constructor
  · rintro ⟨j, hj, e⟩
    rw [h1] at hj
    rw [gi_take (by omega)] at e
    by_cases ej : j = k
    · subst ej; exact .inr e
    · exact .inl ⟨j, by omega, by rw [gi_take (by omega)]; exact e⟩
  · rintro (⟨j, hj, e⟩ | e)
    · rw [h0] at hj
      rw [gi_take (by omega)] at e
      exact ⟨j, by omega, by rw [gi_take (by omega)]; exact e⟩
    · exact ⟨k, by omega, by rw [gi_take (by omega)]; exact e⟩
theorem toRow_step {w : World} {b n k v : Nat} {l : List Int} {lo hi : Int} (hinc : Inc l lo hi) (hk : k < l.length) (hv : gi l k = v) (h : w.rowIs b 3 n (toRow l k)) : (w.setCell ⟨b, v, none⟩ (.int .i64 k)).rowIs b 3 n (toRow l (k + 1)) :=
  (h.set v _).congr fun u _ => by
    by_cases e : u = v
    · subst e
      rw [if_pos rfl]
      unfold toRow toV
      rw [if_pos (dec_true ((take_has hk _).2 (.inr hv))), ← hv, ix_at hinc hk]
    · rw [if_neg e]
      unfold toRow toV
      have : Has (l.take (k + 1)) (u : Int) ↔ Has (l.take k) (u : Int) := by
        rw [take_has hk]
        exact ⟨fun h => h.resolve_right (fun h => by omega), .inl⟩
      rw [dec_congr this]
theorem toV_all {l : List Int} {u : Nat} (h : Has l (u : Int)) : toV l l.length u = ixK l (u : Int) := by
  unfold toV; rw [List.take_length, if_pos (dec_true h)]

/-- The first k nodes of the answer. -/
noncomputable def kTo (N : Net) (l : List Int) (k : Nat) : Net := ⟨(l.take k).map fun x => keepRow N l x.toNat, if N.ids.length = 0 then [] else (l.take k).map fun x => gi N.ids x.toNat, (l.take k).map fun x => gi N.inputs x.toNat⟩
theorem kTo_zero (N : Net) (l : List Int) : kTo N l 0 = zeroNet := by
  simp [kTo, zeroNet]
theorem kTo_all (N : Net) (l : List Int) : kTo N l l.length = keepNet N l := by
  simp [kTo, keepNet]
def addId (M : Net) (y : Int) : Net := { M with ids := M.ids ++ [y] }
theorem take_gi {l : List Int} {k : Nat} (hk : k < l.length) : l.take (k + 1) = l.take k ++ [gi l k] := by
  rw [List.take_succ_eq_append_getElem hk]
  simp [gi, hk]
theorem kTo_noids {N : Net} {l : List Int} {k v : Nat} (hk : k < l.length) (hv : gi l k = v) (h0 : N.ids.length = 0) : addIn (addRow (kTo N l k) (keepRow N l v)) (gi N.inputs v) = kTo N l (k + 1) := by
  unfold kTo addIn addRow
  rw [take_gi hk, hv]
  simp [h0]
theorem kTo_ids {N : Net} {l : List Int} {k v : Nat} (hk : k < l.length) (hv : gi l k = v) (h0 : ¬ N.ids.length = 0) : addId (addIn (addRow (kTo N l k) (keepRow N l v)) (gi N.inputs v)) (gi N.ids v) = kTo N l (k + 1) := by
  unfold kTo addIn addRow addId
  rw [take_gi hk, hv]
  simp [h0]
theorem kTo_len {N : Net} {l : List Int} {k : Nat} (hk : k ≤ l.length) : (kTo N l k).ends.length = k ∧ (kTo N l k).inputs.length = k ∧ (kTo N l k).ids.length ≤ k := by
  refine ⟨by simp [kTo]; omega, by simp [kTo]; omega, ?_⟩
  by_cases h : N.ids.length = 0
  · simp [kTo, h]
  · simp [kTo, h]; omega
/-- The row of a kept node: what the cut row turns into. -/
theorem keepRow_cut (N : Net) (l : List Int) (v : Nat) : (keepRow N l v).length = (cutRow N (stK N l) v).length ∧ ∀ j, j < (cutRow N (stK N l) v).length → gn (keepRow N l v) j = ixK l (gn (cutRow N (stK N l) v) j) ∧ gp (keepRow N l v) j = gp (cutRow N (stK N l) v) j := by
  unfold keepRow cutRow
  refine ⟨by simp [length_planRow], fun j hj => ?_⟩
  rw [length_planRow] at hj
  rw [gn_planRow hj, gp_planRow hj, gn_planRow hj, gp_planRow hj]
  exact ⟨rfl, rfl⟩
theorem cut_has {N : Net} {l : List Int} {v j : Nat} (hj : j < (cutRow N (stK N l) v).length) : Has l (gn (cutRow N (stK N l) v) j) ∧ ∃ i, i < (gr N.ends v).length ∧ gn (cutRow N (stK N l) v) j = gn (gr N.ends v) i := by
  unfold cutRow at hj ⊢
  rw [length_planRow] at hj
  obtain ⟨h1, h2, -⟩ := nth_spec (stK N l v) hj
  rw [gn_planRow hj]
  refine ⟨?_, _, h1, rfl⟩
  unfold stK at h2
  rw [Bool.and_eq_true, dec_iff, dec_iff] at h2
  exact h2.2

/-- A number behind the identifiers. -/
theorem HNet.nums {W0 wr : World} {M : Net} {p : Nat} {v0 v1 v2 : Value} (h : HNet W0 wr M p v0 v1 v2) :
    wr.ownsRow W0.heap.size 3 1 v1 M.ids.length (intCells M.ids) ∧
      ∀ (wx w1 : World) (v' : Value) (y : Int), Ext wr wx → inI64 y → Grew2 wx w1 W0.heap.size 3 1 v1 v' (M.ids.length + 1) (intCells M.ids ++ [.int .i64 y]) →
        w1.rowIs p 29 3 (tri v0 v1 v2) ∧ HNet W0 (w1.setCell ⟨p, 1, none⟩ v') (addId M y) p v0 v' v2 := by
  obtain ⟨bs, ⟨y0, y1, y2, b0, b1, b2, e, h0, h1, h2, rfl⟩, hnd, hge⟩ := h.net
  simp only [Value.agg.injEq, Array.mk.injEq, List.cons.injEq, and_true] at e
  obtain ⟨rfl, rfl, rfl⟩ := e
  obtain ⟨n0, n12, n3⟩ := List.nodup_append.1 hnd
  obtain ⟨n1, n2, n4⟩ := List.nodup_append.1 n12
  have howns : wr.ownsRow W0.heap.size 3 1 v1 M.ids.length (intCells M.ids) := h1.owns (fun b hb => (hge b (by simp [hb])).1)
  refine ⟨howns, fun wx w1 v' y hx hy hg => ?_⟩
  have hwx := owns_ext howns hx
  have hplt := h.box.lt
  have hsz := hx.size
  have hone : ∀ i, i < [y].length → inI64 (gi [y] i) := fun i hi => by
    have h0 : i = 0 := by simpa using hi
    subst h0
    simpa [gi] using hy
  obtain ⟨cs, k1, k2, k3, k4, k5⟩ := ints_grown (m := [y]) (h1.ext hx) hone (show Grew2 wx w1 W0.heap.size 3 1 v1 v' (M.ids.length + [y].length) (intCells M.ids ++ intCells [y]) from hg)
  have hbox : w1.rowIs p 29 3 (tri v0 v1 v2) := (row_ext h.box hx).of_block (k5 p (by omega) (fun hb => (hge p (by simp [hb])).2 rfl))
  have hpcs : ∀ z ∈ cs, z ≠ p := fun z hz => by
    rcases k2 z hz with hz | hz
    · exact (hge z (by simp [hz])).2
    · omega
  have hk : ∀ b, b < wr.heap.size → b ∉ b1 → b ≠ p → (w1.setCell ⟨p, 1, none⟩ v').heap[b]? = wx.heap[b]? := fun b hb h1 h2 => (Below.heap_setCell _ _ _ _ h2).trans (k5 b (by omega) h1)
  refine ⟨hbox, (hg.1.ext (h.ext.trans' hx) fun b hb => (hwx.lt b hb).1).store h.hp _, h.hp, row3_set1 hbox _, b0 ++ (cs ++ b2), ⟨_, _, _, b0, cs, b2, rfl, ?_, k1.keep fun b hb => Below.heap_setCell _ _ _ _ (hpcs b hb), ?_, rfl⟩, ?_, fun b hb => ?_⟩
  · exact (h0.ext hx).keep fun b hb => hk b (h0.lt b hb) (fun hb' => n3 b hb b (by simp [hb']) rfl) (hge b (by simp [hb])).2
  · exact (h2.ext hx).keep fun b hb => hk b (h2.1.lt b hb) (fun hb' => n4 b hb' b hb rfl) (hge b (by simp [hb])).2
  · refine List.nodup_append.2 ⟨n0, List.nodup_append.2 ⟨k4, n2, fun a ha b hb e => ?_⟩, fun a ha b hb e => ?_⟩
    · subst e
      rcases k2 a ha with hz | hz
      · exact n4 a hz a hb rfl
      · have := h2.1.lt a hb; omega
    · subst e
      rcases List.mem_append.1 hb with hb | hb
      · rcases k2 a hb with hz | hz
        · exact n3 a ha a (by simp [hz]) rfl
        · have := h0.lt a ha; omega
      · exact n3 a ha a (by simp [hb]) rfl
  · rcases List.mem_append.1 hb with hb | hb
    · exact hge b (by simp [hb])
    · rcases List.mem_append.1 hb with hb | hb
      · exact ⟨k3 b hb, hpcs b hb⟩
      · exact hge b (by simp [hb])
end Go.Proofs.Ytpkgghkibgadnaa
