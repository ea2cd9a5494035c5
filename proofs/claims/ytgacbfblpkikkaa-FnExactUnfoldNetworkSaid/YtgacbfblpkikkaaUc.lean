/- UnfoldNetwork: the nodes one by one, and the joins one by one. -/
import Derived.Test.YtgacbfblpkikkaaUb
import Derived.Test.YtgacbfblpkikkaaSd
namespace Go.Proofs.Ytgacbfblpkikkaa
open Go.RowKit

theorem take_snoc {Q : List Wk} {i : Nat} (h : i < Q.length) : Q.take (i + 1) = Q.take i ++ [wkAt Q i] := by
  rw [List.take_add_one, wk_get h, List.getElem?_eq_getElem h]
  rfl
/-- A node more. -/
theorem un0_step (N : Net) (t : Nat) {Q : List Wk} {i : Nat} (h : i < Q.length) : unNet0 N t (Q.take (i + 1)) = addIn (addRow (unNet0 N t (Q.take i)) (List.replicate (walkPorts N t (wkAt Q i)) (0, 0))) (gi N.inputs (wkAt Q i).node) := by
  rw [take_snoc h]
  simp [unNet0, addIn, addRow]
theorem un0_start (N : Net) (t : Nat) (Q : List Wk) : unNet0 N t (Q.take 0) = zeroNet := by simp [unNet0, zeroNet]
theorem un0_end (N : Net) (t : Nat) (Q : List Wk) : unNet0 N t (Q.take Q.length) = unNet0 N t Q := by rw [List.take_length]
/-- The joins that come later do not matter. -/
theorem link_prefix (M : Net) (E F : List (Int × Int)) : ∀ i, 2 * i ≤ E.length → linkTo M (E ++ F) i = linkTo M E i
  | 0, _ => rfl
  | i + 1, h => by
    have a := gn_app_lt (a := E) (b := F) (i := 2 * i) (by omega)
    have b := gn_app_lt (a := E) (b := F) (i := 2 * i + 1) (by omega)
    rw [linkTo, linkTo, link_prefix M E F i (by omega), ge, ge, ge, ge, a.1, a.2, b.1, b.2]
/-- The join of walk m + 1, as one call of join makes it. -/
def unEdge (t : Nat) (Q : List Wk) (m : Nat) : List (Int × Int) := [(((wkAt Q (m + 1)).src : Int), ((wkAt Q (m + 1)).port : Int)), (((m + 1 : Nat) : Int), backPort t (wkAt Q (m + 1)))]
theorem unTo_step (N : Net) (t : Nat) (Q : List Wk) (m : Nat) : unTo N t Q (m + 1) = linkTo (unTo N t Q m) (unEdge t Q m) 1 := by
  have hl := unE_len t Q m
  have e : unE t Q (m + 1) = unE t Q m ++ unEdge t Q m := by rw [unE, List.append_assoc]; rfl
  obtain ⟨a1, a2⟩ := gn_app_ge (a := unE t Q m) (b := unEdge t Q m) (i := 2 * m) (by omega)
  obtain ⟨b1, b2⟩ := gn_app_ge (a := unE t Q m) (b := unEdge t Q m) (i := 2 * m + 1) (by omega)
  rw [hl] at a1 a2 b1 b2
  rw [show 2 * m - 2 * m = 0 by omega] at a1 a2
  rw [show 2 * m + 1 - 2 * m = 1 by omega] at b1 b2
  rw [unTo, e, linkTo, link_prefix _ _ _ m (by omega), ge, ge, a1, a2, b1, b2]
  rfl
theorem unTo_zero (N : Net) (t : Nat) (Q : List Wk) : unTo N t Q 0 = unNet0 N t Q := rfl
/-- Both ports of that join are there. -/
theorem unEdge_ports {N : Net} {v t k : Nat} {Q : List Wk} (h : UnI N v t k Q) {m : Nat} (hm : m + 2 ≤ Q.length) : PortsOK (unTo N t Q m) (unEdge t Q m) := by
  intro i hi
  have hi2 : i < 2 := hi
  have hb := back_in h (j := m + 1) (by omega) (by omega)
  obtain ⟨s1, s2, s3, s4, s5, s6, s7, s8⟩ := h.son (m + 1) (by omega) (by omega)
  have hL : (unTo N t Q m).ends.length = Q.length := by rw [unTo, linkTo_len, un0_len]
  have hR : ∀ j, j < Q.length → (gr (unTo N t Q m).ends j).length = walkPorts N t (wkAt Q j) := fun j hj => by rw [unTo, linkTo_row, un0_row N t hj]
  rcases (by omega : i = 0 ∨ i = 1) with rfl | rfl
  · have e1 : gn (unEdge t Q m) 0 = ((wkAt Q (m + 1)).src : Int) := rfl
    have e2 : gp (unEdge t Q m) 0 = ((wkAt Q (m + 1)).port : Int) := rfl
    rw [e1, e2, hL, Int.toNat_natCast, hR _ (by omega), walkPorts, if_neg (by omega)]
    omega
  · have e1 : gn (unEdge t Q m) 1 = ((m + 1 : Nat) : Int) := rfl
    have e2 : gp (unEdge t Q m) 1 = backPort t (wkAt Q (m + 1)) := rfl
    rw [e1, e2, hL, Int.toNat_natCast, hR _ (by omega)]
    omega
end Go.Proofs.Ytgacbfblpkikkaa
