/- Which ports are kept, as a value; the new numbers of the ports, as a value that grows. -/
import Derived.Test.YtkeiaahlifdbiaaChR
import Derived.Test.YtkeiaahlifdbiaaSnoc
namespace Go.Proofs.Ytkeiaahlifdbiaa
open Go.RowKit

def BoolSl (w : World) (v : Value) (n : Nat) (f : Nat → Bool) : Prop :=
  ∃ a b o c, v = .slice a n c ∧ (0 < n → a = some ⟨b, o, none⟩) ∧ n ≤ c ∧ c ≤ maxLen ∧ ∀ i, i < n → w.cell? ⟨b, o + i, none⟩ = some (.bool (f i))
def BoolSS (w : World) (v : Value) (N : Net) (st : Nat → Nat → Bool) : Prop :=
  ∃ a b o c, v = .slice a N.ends.length c ∧ (0 < N.ends.length → a = some ⟨b, o, none⟩) ∧ N.ends.length ≤ c ∧ c ≤ maxLen ∧ ∀ u, u < N.ends.length → ∃ x, w.cell? ⟨b, o + u, none⟩ = some x ∧ BoolSl w x (gr N.ends u).length (st u)
theorem BoolSl.ext {w w' : World} {v : Value} {n : Nat} {f : Nat → Bool} (h : BoolSl w v n f) (he : Ext w w') : BoolSl w' v n f := by
  obtain ⟨a, b, o, c, h1, h2, h3, h4, h5⟩ := h
  exact ⟨a, b, o, c, h1, h2, h3, h4, fun i hi => he.cell' (h5 i hi)⟩
theorem BoolSS.ext {w w' : World} {v : Value} {N : Net} {st : Nat → Nat → Bool} (h : BoolSS w v N st) (he : Ext w w') : BoolSS w' v N st := by
  obtain ⟨a, b, o, c, h1, h2, h3, h4, h5⟩ := h
  exact ⟨a, b, o, c, h1, h2, h3, h4, fun u hu => let ⟨x, hx, hr⟩ := h5 u hu; ⟨x, he.cell' hx, hr.ext he⟩⟩

def cnts (st : Nat → Bool) (n : Nat) : List Int := (List.range n).map fun i => (cnt st i : Nat)
theorem length_cnts (st : Nat → Bool) (n : Nat) : (cnts st n).length = n := by simp [cnts]
theorem gi_cnts {st : Nat → Bool} {n i : Nat} (h : i < n) : gi (cnts st n) i = cnt st i := by simp [gi, cnts, List.getD, h]
theorem cnts_snoc {st : Nat → Bool} {n j : Nat} (h : j < n) : intCells ((cnts st n).take j) ++ [.int .i64 (cnt st j)] = intCells ((cnts st n).take (j + 1)) := by
  have e : (cnts st n).take (j + 1) = (cnts st n).take j ++ [((cnt st j : Nat) : Int)] := by
    rw [List.take_succ_eq_append_getElem (by rw [length_cnts]; exact h)]
    congr 2
    simp [cnts]
  rw [e]
  simp [intCells]

theorem owns_store {w : World} {p : Addr} {B t t' k n n' : Nat} {v u : Value} {xs : List Value} {f : Nat → Value} (h : w.ownsRow B t k v n xs) (hr : w.rowIs p.block t' n' f) (hne : t ≠ t') : (w.setCell p u).ownsRow B t k v n xs := by
  obtain ⟨d, hd⟩ := rowIs.blk hr
  refine ⟨h.1, ?_⟩
  rcases h.2 with ⟨rfl, hn⟩ | ⟨g, cap, cur, rfl, hb, hh, rest⟩
  · exact .inl ⟨rfl, hn⟩
  · exact .inr ⟨g, cap, cur, rfl, hb, by rw [Below.heap_setCell _ _ _ _ (type_ne hh hd hne)]; exact hh, rest⟩

/-- The rows of the first v nodes have their new numbers. -/
structure ToAt (W0 wr : World) (N : Net) (st : Nat → Nat → Bool) (tb v : Nat) (R : Nat → Value) (T : Nat → List Nat) : Prop where
  ext : Ext W0 wr
  htb : W0.heap.size ≤ tb
  row : wr.rowIs tb 23 N.ends.length (fun u => if u < v then R u else .slice none 0 0)
  ints : ∀ u, u < v → OwnI wr (R u) (cnts (st u) (gr N.ends u).length) (T u)
/-- .. and the first j numbers of node v are there. -/
structure ToIn (W0 wo wr : World) (N : Net) (st : Nat → Nat → Bool) (tb v j : Nat) (x : Value) (R : Nat → Value) (T : Nat → List Nat) : Prop where
  ext : Ext W0 wr
  htb : W0.heap.size ≤ tb
  hwo : W0.heap.size ≤ wo.heap.size
  hww : wo.heap.size ≤ wr.heap.size
  row : wr.rowIs tb 23 N.ends.length (fun u => if u < v then R u else if u = v then x else .slice none 0 0)
  ints : ∀ u, u < v → OwnI wr (R u) (cnts (st u) (gr N.ends u).length) (T u)
  low : ∀ u, u < v → ∀ b ∈ T u, b < wo.heap.size
  own : wr.ownsRow wo.heap.size 3 1 x j (intCells ((cnts (st v) (gr N.ends v).length).take j))
theorem ToAt.start {W0 wo : World} {N : Net} {st : Nat → Nat → Bool} {tb v : Nat} {R : Nat → Value} {T : Nat → List Nat} (h : ToAt W0 wo N st tb v R T) : ToIn W0 wo wo N st tb v 0 (.slice none 0 0) R T :=
  ⟨h.ext, h.htb, h.ext.size, Nat.le_refl _, h.row.congr fun i _ => by
    by_cases e : i < v
    · rw [if_pos e, if_pos e]
    · rw [if_neg e, if_neg e]
      by_cases e2 : i = v
      · rw [if_pos e2]
      · rw [if_neg e2], h.ints, fun u hu b hb => (h.ints u hu).1.lt b hb, by simpa [intCells] using World.ownsRow_nil wo wo.heap.size 3 1⟩
theorem ToIn.step {W0 wo wr w4 : World} {N : Net} {st : Nat → Nat → Bool} {tb v j : Nat} {x v' : Value} {R : Nat → Value} {T : Nat → List Nat} {o : Obj} (h : ToIn W0 wo wr N st tb v j x R T) (hj : j < (gr N.ends v).length)
    (hg : Grew (wr.alloc o) w4 wo.heap.size 3 1 x v' (j + 1) (intCells ((cnts (st v) (gr N.ends v).length).take j) ++ [.int .i64 (cnt (st v) j)])) :
    w4.rowIs tb 23 N.ends.length (fun u => if u < v then R u else if u = v then x else .slice none 0 0) ∧ Ext W0 w4 ∧ ToIn W0 wo (w4.setCell ⟨tb, v, none⟩ v') N st tb v (j + 1) v' R T := by
  have hx := (Ext.rfl' wr).alloc' o
  have ho := owns_ext h.own hx
  have hr4 := row_grown (row_ext h.row hx) ho hg.2.1 (by decide)
  have he4 : Ext W0 w4 := hg.ext (h.ext.trans' hx) (fun b hb => by have := (ho.lt b hb).1; have := h.hwo; omega)
  rw [cnts_snoc hj] at hg
  have hsz : wr.heap.size ≤ w4.heap.size := by have := hg.2.2; have := hx.size; omega
  refine ⟨hr4, he4, he4.store h.htb _, h.htb, h.hwo, by have := h.hww; have e : (w4.setCell ⟨tb, v, none⟩ v').heap.size = w4.heap.size := by simp [World.setCell]
                                                        omega, (hr4.set v v').congr fun i _ => ?_, fun u hu => ?_, h.low, owns_store (p := ⟨tb, v, none⟩) hg.1 hr4 (by decide)⟩
  · by_cases e : i = v
    · subst e; simp
    · simp only [if_neg e]
  · obtain ⟨c, hc⟩ := rowIs.blk hr4
    have h4 : OwnI w4 (R u) (cnts (st u) (gr N.ends u).length) (T u) := ((h.ints u hu).ext hx).keep fun b hb => hg.2.1.block b (by have := h.low u hu b hb; have := h.hww; have := hx.size; omega) fun e => by
      have := (ho.lt b e.symm).1
      have := h.low u hu b hb
      omega
    exact h4.keep (kept_store (p := ⟨tb, v, none⟩) hc h4.1.typed (by decide))
theorem ToIn.done {W0 wo wr : World} {N : Net} {st : Nat → Nat → Bool} {tb v : Nat} {x : Value} {R : Nat → Value} {T : Nat → List Nat} (hs : (gr N.ends v).length ≤ 6) (h : ToIn W0 wo wr N st tb v (gr N.ends v).length x R T) :
    ∃ bs, ToAt W0 wr N st tb (v + 1) (fun u => if u = v then x else R u) (fun u => if u = v then bs else T u) := by
  have ho := h.own
  rw [List.take_of_length_le (by rw [length_cnts]; exact Nat.le_refl _)] at ho
  obtain ⟨bs, h1, h2, h3⟩ := own_of_cells (l := cnts (st v) (gr N.ends v).length) (by rw [length_cnts]; exact ho) (fun i hi => by
    rw [length_cnts] at hi
    rw [gi_cnts hi]
    have := cnt_le (st v) i
    unfold inI64; omega)
  refine ⟨bs, h.ext, h.htb, h.row.congr fun i _ => ?_, fun u hu => ?_⟩
  · by_cases e : i < v
    · rw [if_pos e, if_pos (by omega), if_neg (by omega)]
    · rw [if_neg e]
      by_cases e2 : i = v
      · subst e2; rw [if_pos rfl, if_pos (by omega), if_pos rfl]
      · rw [if_neg e2, if_neg (by omega)]
  · by_cases e : u = v
    · subst e; simp only [if_true]; exact h1
    · simp only [if_neg e]; exact h.ints u (by omega)
/-- All numbers are there: what is read. -/
theorem ToAt.reads {W0 wr : World} {N : Net} {st : Nat → Nat → Bool} {tb : Nat} {R : Nat → Value} {T : Nat → List Nat} (h : ToAt W0 wr N st tb N.ends.length R T) {en ep : Nat} (he : en < N.ends.length) (hp : ep < (gr N.ends en).length) :
    ∃ b o c, wr.cell? ⟨tb, en, none⟩ = some (.slice (some ⟨b, o, none⟩) (gr N.ends en).length c) ∧ wr.cell? ⟨b, o + ep, none⟩ = some (.int .i64 (cnt (st en) ep)) := by
  obtain ⟨a, b, o, c, e1, e2, e3, e4, e5⟩ := (h.ints en he).read
  rw [length_cnts] at e1 e2 e5
  obtain ⟨_, h6, rfl, _⟩ := e5 ep hp
  obtain rfl := e2 (by omega)
  rw [gi_cnts hp] at h6
  refine ⟨b, o, c, ?_, h6⟩
  rw [h.row.cell he, if_pos he, e1]
end Go.Proofs.Ytkeiaahlifdbiaa
