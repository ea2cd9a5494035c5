/- Subdivided networks as plain data. -/
import Derived.Test.YtdcgpodjoalokaaEq
import Derived.Test.YtdcgpodjoalokaaKh
import Derived.Test.YtdcgpodjoalokaaUn
namespace Go.Proofs.Ytdcgpodjoalokaa
open Go.RowKit

theorem rowsame {l m : List (List (Int × Int))} (h : l.length = m.length) (hr : ∀ v, v < l.length → gr l v = gr m v) : l = m := by
  refine List.ext_getElem h fun i h1 h2 => ?_
  have := hr i h1
  simpa [gr, List.getD, h1, h2] using this
theorem netsame {A B : Net} (h : A.ends.length = B.ends.length) (hr : ∀ v, v < A.ends.length → gr A.ends v = gr B.ends v) (hi : A.ids = B.ids) (hp : A.inputs = B.inputs) : A = B := by
  cases A; cases B
  simp only [Net.mk.injEq]
  exact ⟨rowsame h hr, hi, hp⟩
def noIds (N : Net) : Net := { N with ids := [] }
def addRow (M : Net) (r : List (Int × Int)) : Net := { M with ends := M.ends ++ [r] }
def addIn (M : Net) (y : Int) : Net := { M with inputs := M.inputs ++ [y] }
theorem gr_addRow (M : Net) (r : List (Int × Int)) (v : Nat) : gr (addRow M r).ends v = if v = M.ends.length then r else gr M.ends v := by
  show gr (M.ends ++ [r]) v = _
  unfold gr
  by_cases e : v = M.ends.length
  · subst e; simp
  · rw [if_neg e]
    by_cases h : v < M.ends.length
    · simp [List.getD, List.getElem?_append_left h]
    · simp [List.getD, List.getElem?_eq_none (show M.ends.length ≤ v by omega), List.getElem?_eq_none (show (M.ends ++ [r]).length ≤ v by simp; omega)]
theorem addRow_len (M : Net) (r : List (Int × Int)) : (addRow M r).ends.length = M.ends.length + 1 := by simp [addRow]
/-- A node in the middle of an edge that is no stub. -/
def subEdge (M : Net) (e : List Int) : Net :=
  setEnd (setEnd (addIn (addRow M [(gi e 0, gi e 1), (gi e 2, gi e 3)]) 0) (gi e 0).toNat (gi e 1).toNat ((M.ends.length : Int), 0)) (gi e 2).toNat (gi e 3).toNat ((M.ends.length : Int), 1)
def IsStub (e : List Int) : Prop := gi e 0 = gi e 2 ∧ gi e 1 = gi e 3
instance (e : List Int) : Decidable (IsStub e) := by unfold IsStub; infer_instance
def subStep (M : Net) (e : List Int) : Net := if IsStub e then M else subEdge M e
def subTo (N : Net) (E : List (List Int)) : Nat → Net
  | 0 => noIds N
  | j + 1 => subStep (subTo N E j) (gr E j)
theorem subEdge_len (M : Net) (e : List Int) : (subEdge M e).ends.length = M.ends.length + 1 := by
  unfold subEdge
  rw [setEnd_len, setEnd_len]
  exact addRow_len _ _
theorem subEdge_row (M : Net) (e : List Int) {v : Nat} (h : v < M.ends.length) : (gr (subEdge M e).ends v).length = (gr M.ends v).length := by
  unfold subEdge
  rw [setEnd_row, setEnd_row, show (addIn (addRow M [(gi e 0, gi e 1), (gi e 2, gi e 3)]) 0).ends = (addRow M [(gi e 0, gi e 1), (gi e 2, gi e 3)]).ends from rfl, gr_addRow, if_neg (by omega)]
structure SubAt (N M : Net) (j : Nat) : Prop where
  lo : N.ends.length ≤ M.ends.length
  hi : M.ends.length ≤ N.ends.length + j
  ids : M.ids = []
  inp : M.inputs.length = M.ends.length
  row : ∀ v, v < N.ends.length → (gr M.ends v).length = (gr N.ends v).length
theorem subTo_at {N : Net} (h : N.inputs.length = N.ends.length) (E : List (List Int)) : ∀ j, SubAt N (subTo N E j) j
  | 0 => ⟨Nat.le_refl _, by simp [subTo, noIds], rfl, h, fun _ _ => rfl⟩
  | j + 1 => by
    have k := subTo_at h E j
    show SubAt N (subStep (subTo N E j) (gr E j)) (j + 1)
    unfold subStep
    by_cases e : IsStub (gr E j)
    · rw [if_pos e]; exact ⟨k.lo, by have := k.hi; omega, k.ids, k.inp, k.row⟩
    · rw [if_neg e]
      refine ⟨by rw [subEdge_len]; have := k.lo; omega, by rw [subEdge_len]; have := k.hi; omega, k.ids, ?_, fun v hv => by rw [subEdge_row _ _ (by have := k.lo; omega)]; exact k.row v hv⟩
      rw [subEdge_len]
      show ((subTo N E j).inputs ++ [0]).length = _
      simp [k.inp]
/-- The four numbers of an edge. -/
def EdgeOf (N : Net) (e : List Int) (u p v q : Nat) : Prop :=
  e = [(u : Int), (p : Int), (v : Int), (q : Int)] ∧ u < N.ends.length ∧ p < (gr N.ends u).length ∧ v < N.ends.length ∧ q < (gr N.ends v).length
theorem rowEdges_at {N : Net} (hg : Good N) {v : Nat} (hv : v < N.ends.length) : ∀ k, k ≤ (gr N.ends v).length → ∀ e ∈ rowEdges N v k, ∃ u p x q, EdgeOf N e u p x q
  | 0, _ => by simp [rowEdges]
  | k + 1, hk => by
    have h := rowEdges_at hg hv k (by omega)
    obtain ⟨⟨a1, a2, a3, a4⟩, _⟩ := (hg.2.1 v hv).2 k (by omega)
    obtain ⟨x, hx⟩ := Int.eq_ofNat_of_zero_le a1
    obtain ⟨q, hq⟩ := Int.eq_ofNat_of_zero_le a3
    rw [hx] at a2 a4
    rw [hq] at a4
    rw [Int.toNat_natCast] at a4
    by_cases hf : First N v k
    · intro e he
      simp only [rowEdges, portEdge_t hf, List.mem_append, List.mem_singleton] at he
      rcases he with he | rfl
      · exact h e he
      · exact ⟨v, k, x, q, by unfold quad; rw [hx, hq], hv, by omega, by omega, by omega⟩
    · intro e he
      simp only [rowEdges, portEdge_f hf, List.append_nil] at he
      exact h e he
theorem edgesTo_at {N : Net} (hg : Good N) : ∀ k, k ≤ N.ends.length → ∀ e ∈ edgesTo N k, ∃ u p x q, EdgeOf N e u p x q
  | 0, _ => by simp [edgesTo]
  | k + 1, hk => by
    intro e he
    simp only [edgesTo, List.mem_append] at he
    rcases he with he | he
    · exact edgesTo_at hg k (by omega) e he
    · exact rowEdges_at hg (by omega) _ (Nat.le_refl _) e he
theorem edge_at {N : Net} (hg : Good N) {j : Nat} (hj : j < (edgesTo N N.ends.length).length) : ∃ u p x q, EdgeOf N (gr (edgesTo N N.ends.length) j) u p x q := by
  have : gr (edgesTo N N.ends.length) j = (edgesTo N N.ends.length)[j] := by simp [gr, List.getD, hj]
  rw [this]
  exact edgesTo_at hg _ (Nat.le_refl _) _ (List.getElem_mem hj)
theorem gr_setEnd (N : Net) {u : Nat} (j v : Nat) (x : Int × Int) (hu : u < N.ends.length) : gr (setEnd N u j x).ends v = if v = u then (gr N.ends u).set j x else gr N.ends v := by
  unfold setEnd
  exact gr_set _ _ _ _ hu
/-- The program writes all four ends, into a row of two blank ones. -/
theorem sub_link (M : Net) {e : List Int} {u p v q : Nat} (he : e = [(u : Int), (p : Int), (v : Int), (q : Int)]) (hu : u < M.ends.length) (hv : v < M.ends.length) :
    linkTo (addIn (addRow M [(0, 0), (0, 0)]) 0) [((u : Int), (p : Int)), ((M.ends.length : Int), 0), ((v : Int), (q : Int)), ((M.ends.length : Int), 1)] 2 = subEdge M e := by
  subst he
  have hA : ∀ r, (addIn (addRow M r) 0).ends.length = M.ends.length + 1 := fun r => addRow_len M r
  have hB : ∀ r x, gr (addIn (addRow M r) 0).ends x = if x = M.ends.length then r else gr M.ends x := fun r x => gr_addRow M r x
  have e1 : linkTo (addIn (addRow M [(0, 0), (0, 0)]) 0) [((u : Int), (p : Int)), ((M.ends.length : Int), 0), ((v : Int), (q : Int)), ((M.ends.length : Int), 1)] 2 =
      setEnd (setEnd (setEnd (setEnd (addIn (addRow M [(0, 0), (0, 0)]) 0) u p ((M.ends.length : Int), 0)) M.ends.length 0 ((u : Int), (p : Int))) v q ((M.ends.length : Int), 1)) M.ends.length 1 ((v : Int), (q : Int)) := by
    simp [linkTo, linkNet, ge, gn, gp]
  have e2 : subEdge M [(u : Int), (p : Int), (v : Int), (q : Int)] = setEnd (setEnd (addIn (addRow M [((u : Int), (p : Int)), ((v : Int), (q : Int))]) 0) u p ((M.ends.length : Int), 0)) v q ((M.ends.length : Int), 1) := by
    simp [subEdge, gi]
  rw [e1, e2]
  have s : ∀ (A : Net) (a j y : Nat) (x : Int × Int), a < A.ends.length → y ≠ a → gr (setEnd A a j x).ends y = gr A.ends y := fun A a j y x h k => by rw [gr_setEnd _ _ _ _ h, if_neg k]
  have t : ∀ (A : Net) (a j : Nat) (x : Int × Int), a < A.ends.length → gr (setEnd A a j x).ends a = (gr A.ends a).set j x := fun A a j x h => by rw [gr_setEnd _ _ _ _ h, if_pos rfl]
  have K : ∀ y, y ≠ M.ends.length → ∀ z, gr (setEnd (addIn (addRow M [(0, 0), (0, 0)]) 0) u p z).ends y = gr (setEnd (addIn (addRow M [((u : Int), (p : Int)), ((v : Int), (q : Int))]) 0) u p z).ends y := fun y hy z => by
    by_cases e : y = u
    · subst e
      rw [t _ _ _ _ (by rw [hA]; omega), t _ _ _ _ (by rw [hA]; omega), hB, hB, if_neg hy, if_neg hy]
    · rw [s _ _ _ _ _ (by rw [hA]; omega) e, s _ _ _ _ _ (by rw [hA]; omega) e, hB, hB, if_neg hy, if_neg hy]
  have l1 : ∀ r z, (setEnd (addIn (addRow M r) 0) u p z).ends.length = M.ends.length + 1 := fun r z => by rw [setEnd_len, hA]
  refine netsame (by rw [setEnd_len, setEnd_len, setEnd_len, l1, setEnd_len, l1]) (fun x hx => ?_) rfl rfl
  by_cases e : x = M.ends.length
  · subst e
    rw [t _ _ _ _ (by rw [setEnd_len, setEnd_len, l1]; omega), s _ _ _ _ _ (by rw [setEnd_len, l1]; omega) (by omega), t _ _ _ _ (by rw [l1]; omega), s _ _ _ _ _ (by rw [hA]; omega) (by omega), hB, if_pos rfl,
      s _ _ _ _ _ (by rw [l1]; omega) (by omega), s _ _ _ _ _ (by rw [hA]; omega) (by omega), hB, if_pos rfl]
    rfl
  · rw [s _ _ _ _ _ (by rw [setEnd_len, setEnd_len, l1]; omega) e]
    by_cases f : x = v
    · subst f
      rw [t _ _ _ _ (by rw [setEnd_len, l1]; omega), t _ _ _ _ (by rw [l1]; omega), s _ _ _ _ _ (by rw [l1]; omega) e, K _ e]
    · rw [s _ _ _ _ _ (by rw [setEnd_len, l1]; omega) f, s _ _ _ _ _ (by rw [l1]; omega) f, s _ _ _ _ _ (by rw [l1]; omega) e, K _ e]
theorem sub_ports (M : Net) {u p v q : Nat} (hu : u < M.ends.length) (hp : p < (gr M.ends u).length) (hv : v < M.ends.length) (hq : q < (gr M.ends v).length) :
    PortsOK (addIn (addRow M [(0, 0), (0, 0)]) 0) [((u : Int), (p : Int)), ((M.ends.length : Int), 0), ((v : Int), (q : Int)), ((M.ends.length : Int), 1)] := by
  have hA : (addIn (addRow M [(0, 0), (0, 0)]) 0).ends.length = M.ends.length + 1 := addRow_len M _
  have hB : ∀ x, gr (addIn (addRow M [(0, 0), (0, 0)]) 0).ends x = if x = M.ends.length then [(0, 0), (0, 0)] else gr M.ends x := fun x => gr_addRow M _ x
  intro i hi
  rw [hA]
  match i, hi with
  | 0, _ => simp only [gn, gp, List.getD_cons_zero, Int.toNat_natCast]; rw [hB, if_neg (by omega)]; omega
  | 1, _ => simp only [gn, gp, List.getD_cons_zero, List.getD_cons_succ, Int.toNat_natCast]; rw [hB, if_pos rfl]; simp; omega
  | 2, _ => simp only [gn, gp, List.getD_cons_zero, List.getD_cons_succ, Int.toNat_natCast]; rw [hB, if_neg (by omega)]; omega
  | 3, _ => simp only [gn, gp, List.getD_cons_zero, List.getD_cons_succ, Int.toNat_natCast]; rw [hB, if_pos rfl]; simp; omega

/-- A row that is written over at its end, and the box that holds it. -/
theorem HNet.rows {W0 wr : World} {M : Net} {p : Nat} {v0 v1 v2 : Value} (h : HNet W0 wr M p v0 v1 v2) :
    ∃ R : Nat → Value, wr.ownsRow W0.heap.size 89 1 v0 M.ends.length ((List.range M.ends.length).map R) ∧
      ∀ (wx w1 : World) (x v' : Value) (r : List (Int × Int)) (cs : List Nat), Ext wr wx → OwnE wx x r cs → (∀ y ∈ cs, wr.heap.size ≤ y) → Grew wx w1 W0.heap.size 89 1 v0 v' (M.ends.length + 1) ((List.range M.ends.length).map R ++ [x]) →
        w1.rowIs p 43 3 (tri v0 v1 v2) ∧ HNet W0 (w1.setCell ⟨p, 0, none⟩ v') (addRow M r) p v' v1 v2 := by
  obtain ⟨bs, ⟨y0, y1, y2, b0, b1, b2, e, ⟨R, a0, T, hR, hT, rfl⟩, h1, h2, rfl⟩, hnd, hge⟩ := h.net
  simp only [Value.agg.injEq, Array.mk.injEq, List.cons.injEq, and_true] at e
  obtain ⟨rfl, rfl, rfl⟩ := e
  obtain ⟨n0, n12, n3⟩ := List.nodup_append.1 hnd
  obtain ⟨n00, n01, n02⟩ := List.nodup_append.1 n0
  have howns : wr.ownsRow W0.heap.size 89 1 v0 M.ends.length ((List.range M.ends.length).map R) := hR.owns (fun b hb => (hge b (by simp [hb])).1) (by simp) (fun i hi => by simp [show i < M.ends.length by omega])
  refine ⟨R, howns, fun wx w1 x v' r cs hx hr hcs hg => ?_⟩
  have hwx := owns_ext howns hx
  have hbox := row_grown (row_ext h.box hx) hwx hg.2.1 (by decide)
  have hplt := h.box.lt
  have hTl : ∀ b ∈ (List.range M.ends.length).flatMap T, b < wr.heap.size := fun b hb => by
    obtain ⟨i, hi, hbi⟩ := List.mem_flatMap.1 hb
    exact (hT i (List.mem_range.1 hi)).1.lt b hbi
  have hG : GrowL W0.heap.size w1 v' (addRow M r).ends (M.ends.length + 1) := by
    refine GrowL.step (w := wx) (l := (addRow M r).ends) (bs := cs) (x := x) hwx (fun i hi => ?_) n01 (fun b hb => (hge b (by simp [hb])).1) ?_ (fun b hb => ⟨by have := hcs b hb; have := h.ext.size; omega, fun hb' => by have := hTl b hb'; have := hcs b hb; omega⟩) hg
    · rw [gr_addRow, if_neg (by omega)]; exact (hT i hi).ext hx
    · rw [gr_addRow, if_pos rfl]; exact hr
  refine ⟨hbox, ?_⟩
  have hE1 : Ext W0 w1 := hg.ext (h.ext.trans' hx) fun b hb => (hwx.lt b hb).1
  have hcell : ∃ cur, w1.heap[p]? = some (.cells cur 43 (0, 0)) := rowIs.blk hbox
  obtain ⟨cur, hcur⟩ := hcell
  have hG2 := hG.keepT (q := 0) (u := v') hcur
  rw [← addRow_len M r] at hG2
  obtain ⟨ds, o1, o2, o3⟩ := hG2.done
  have k1 : OwnI (w1.setCell ⟨p, 0, none⟩ v') v1 M.ids b1 := ((h1.ext hx).keep (kept_grown hwx hg.2.1 (h1.ext hx).1.typed (by decide))).keep (fun b hb => Below.heap_setCell _ _ _ _ (fun e => (hge b (by simp [hb])).2 e))
  have k2 : OwnI (w1.setCell ⟨p, 0, none⟩ v') v2 M.inputs b2 := ((h2.ext hx).keep (kept_grown hwx hg.2.1 (h2.ext hx).1.typed (by decide))).keep (fun b hb => Below.heap_setCell _ _ _ _ (fun e => (hge b (by simp [hb])).2 e))
  obtain ⟨m1, m2⟩ := net_of_parts (W := W0) (N := addRow M r) o1 k1 k2 o2 n12 o3 (fun b hb => (hge b (by simp at hb; rcases hb with hb | hb <;> simp [hb])).1)
  refine ⟨hE1.store h.hp _, h.hp, row3_set0 hbox _, _, m1, m2.1, fun b hb => ⟨m2.2 b hb, fun e => ?_⟩⟩
  subst e
  rcases List.mem_append.1 hb with hb | hb
  · exact o1.apart (t := 43) (cs := [b]) (fun y hy => by obtain rfl := List.mem_singleton.1 hy; obtain ⟨cur2, hc2⟩ := rowIs.blk (row3_set0 hbox v'); exact ⟨cur2, hc2⟩) (by decide) (by decide) b hb (by simp)
  · exact (hge b (by simp at hb; rcases hb with hb | hb <;> simp [hb])).2 rfl

/-- A number behind the inputs. -/
theorem HNet.ints {W0 wr : World} {M : Net} {p : Nat} {v0 v1 v2 : Value} (h : HNet W0 wr M p v0 v1 v2) :
    wr.ownsRow W0.heap.size 3 1 v2 M.inputs.length (intCells M.inputs) ∧
      ∀ (wx w1 : World) (v' : Value) (y : Int), Ext wr wx → inI64 y → Grew2 wx w1 W0.heap.size 3 1 v2 v' (M.inputs.length + 1) (intCells M.inputs ++ [.int .i64 y]) →
        w1.rowIs p 43 3 (tri v0 v1 v2) ∧ HNet W0 (w1.setCell ⟨p, 2, none⟩ v') (addIn M y) p v0 v1 v' := by
  obtain ⟨bs, ⟨y0, y1, y2, b0, b1, b2, e, h0, h1, h2, rfl⟩, hnd, hge⟩ := h.net
  simp only [Value.agg.injEq, Array.mk.injEq, List.cons.injEq, and_true] at e
  obtain ⟨rfl, rfl, rfl⟩ := e
  obtain ⟨n0, n12, n3⟩ := List.nodup_append.1 hnd
  obtain ⟨n1, n2, n4⟩ := List.nodup_append.1 n12
  have howns : wr.ownsRow W0.heap.size 3 1 v2 M.inputs.length (intCells M.inputs) := h2.owns (fun b hb => (hge b (by simp [hb])).1)
  refine ⟨howns, fun wx w1 v' y hx hy hg => ?_⟩
  have hwx := owns_ext howns hx
  have hplt := h.box.lt
  have hsz := hx.size
  have hone : ∀ i, i < [y].length → inI64 (gi [y] i) := fun i hi => by
    have h0 : i = 0 := by simpa using hi
    subst h0
    simpa [gi] using hy
  obtain ⟨cs, k1, k2, k3, k4, k5⟩ := ints_grown (m := [y]) (h2.ext hx) hone (show Grew2 wx w1 W0.heap.size 3 1 v2 v' (M.inputs.length + [y].length) (intCells M.inputs ++ intCells [y]) from hg)
  have hbox : w1.rowIs p 43 3 (tri v0 v1 v2) := (row_ext h.box hx).of_block (k5 p (by omega) (fun hb => (hge p (by simp [hb])).2 rfl))
  have hpcs : ∀ z ∈ cs, z ≠ p := fun z hz => by
    rcases k2 z hz with hz | hz
    · exact (hge z (by simp [hz])).2
    · omega
  have hk : ∀ b, b < wr.heap.size → b ∉ b2 → b ≠ p → (w1.setCell ⟨p, 2, none⟩ v').heap[b]? = wx.heap[b]? := fun b hb h1 h2 => (Below.heap_setCell _ _ _ _ h2).trans (k5 b (by omega) h1)
  refine ⟨hbox, (hg.1.ext (h.ext.trans' hx) fun b hb => (hwx.lt b hb).1).store h.hp _, h.hp, row3_set2 hbox _, b0 ++ (b1 ++ cs), ⟨_, _, _, b0, b1, cs, rfl, ?_, ?_, k1.keep fun b hb => Below.heap_setCell _ _ _ _ (hpcs b hb), rfl⟩, ?_, fun b hb => ?_⟩
  · exact (h0.ext hx).keep fun b hb => hk b (h0.lt b hb) (fun hb' => n3 b hb b (by simp [hb']) rfl) (hge b (by simp [hb])).2
  · exact (h1.ext hx).keep fun b hb => hk b (h1.1.lt b hb) (fun hb' => n4 b hb b hb' rfl) (hge b (by simp [hb])).2
  · refine List.nodup_append.2 ⟨n0, List.nodup_append.2 ⟨n1, k4, fun a ha b hb e => ?_⟩, fun a ha b hb e => ?_⟩
    · subst e
      rcases k2 a hb with hz | hz
      · exact n4 a ha a hz rfl
      · have := h1.1.lt a ha; omega
    · subst e
      rcases List.mem_append.1 hb with hb | hb
      · exact n3 a ha a (by simp [hb]) rfl
      · rcases k2 a hb with hz | hz
        · exact n3 a ha a (by simp [hz]) rfl
        · have := h0.lt a ha; omega
  · rcases List.mem_append.1 hb with hb | hb
    · exact hge b (by simp [hb])
    · rcases List.mem_append.1 hb with hb | hb
      · exact hge b (by simp [hb])
      · exact ⟨k3 b hb, hpcs b hb⟩
theorem HNet.dropIds {W0 wr : World} {M : Net} {p : Nat} {v0 v1 v2 : Value} (h : HNet W0 wr M p v0 v1 v2) :
    HNet W0 (wr.setCell ⟨p, 1, none⟩ (.slice none 0 0)) (noIds M) p v0 (.slice none 0 0) v2 := by
  obtain ⟨bs, ⟨y0, y1, y2, b0, b1, b2, e, h0, h1, h2, rfl⟩, hnd, hge⟩ := h.net
  simp only [Value.agg.injEq, Array.mk.injEq, List.cons.injEq, and_true] at e
  obtain ⟨rfl, rfl, rfl⟩ := e
  obtain ⟨n0, n12, n3⟩ := List.nodup_append.1 hnd
  have hk : ∀ b ∈ b0 ++ (b1 ++ b2), (wr.setCell ⟨p, 1, none⟩ (.slice none 0 0)).heap[b]? = wr.heap[b]? := fun b hb => Below.heap_setCell _ _ _ _ (hge b hb).2
  refine ⟨h.ext.store h.hp _, h.hp, row3_set1 h.box _, b0 ++ ([] ++ b2), ⟨_, _, _, b0, [], b2, rfl, h0.keep fun b hb => hk b (by simp [hb]), own_nilI _, h2.keep fun b hb => hk b (by simp [hb]), rfl⟩, ?_, fun b hb => hge b (by simp at hb; rcases hb with hb | hb <;> simp [hb])⟩
  exact List.nodup_append.2 ⟨n0, (List.nodup_append.1 n12).2.1, fun a ha b hb e => n3 a ha b (by simp at hb; simp [hb]) e⟩
end Go.Proofs.Ytdcgpodjoalokaa
