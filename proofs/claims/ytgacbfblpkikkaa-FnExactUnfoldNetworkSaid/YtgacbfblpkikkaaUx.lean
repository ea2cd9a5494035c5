/- UnfoldNetwork, plainly: the network of the walks, and that it is one when all walks are gone on from. -/
import Derived.Test.YtgacbfblpkikkaaUw
namespace Go.Proofs.Ytgacbfblpkikkaa
open Go.RowKit

/-- The port of a walk's own node that leads back. -/
def backPort (t : Nat) (w : Wk) : Int := if w.steps = t then 0 else w.came
def walkPorts (N : Net) (t : Nat) (w : Wk) : Nat := if w.steps = t then min t 1 else (gr N.ends w.node).length
/-- The first m joins: walk m + 1 with the walk that it goes on from. -/
def unE (t : Nat) (Q : List Wk) : Nat → List (Int × Int)
  | 0 => []
  | m + 1 => (unE t Q m ++ [(((wkAt Q (m + 1)).src : Int), ((wkAt Q (m + 1)).port : Int))]) ++ [(((m + 1 : Nat) : Int), backPort t (wkAt Q (m + 1)))]
theorem unE_len (t : Nat) (Q : List Wk) : ∀ m, (unE t Q m).length = 2 * m
  | 0 => rfl
  | m + 1 => by rw [unE, List.length_append, List.length_append, unE_len t Q m]; simp; omega
theorem unE_get (t : Nat) (Q : List Wk) : ∀ m i, i < 2 * m → gn (unE t Q m) i = (if i % 2 = 0 then ((wkAt Q (i / 2 + 1)).src : Int) else ((i / 2 + 1 : Nat) : Int)) ∧ gp (unE t Q m) i = if i % 2 = 0 then ((wkAt Q (i / 2 + 1)).port : Int) else backPort t (wkAt Q (i / 2 + 1))
  | 0, i, h => absurd h (by omega)
  | m + 1, i, h => by
    have hl := unE_len t Q m
    by_cases h1 : i < 2 * m
    · obtain ⟨e1, e2⟩ := unE_get t Q m i h1
      rw [unE, List.append_assoc, (gn_app_lt (by omega)).1, (gn_app_lt (by omega)).2]
      exact ⟨e1, e2⟩
    · by_cases h2 : i = 2 * m
      · have := gn_fst (unE t Q m) (((wkAt Q (m + 1)).src : Int), ((wkAt Q (m + 1)).port : Int)) (((m + 1 : Nat) : Int), backPort t (wkAt Q (m + 1)))
        rw [hl] at this
        rw [h2, unE, this.1, this.2, if_pos (by omega), if_pos (by omega), show 2 * m / 2 + 1 = m + 1 by omega]
        exact ⟨rfl, rfl⟩
      · have := gn_snd (unE t Q m) (((wkAt Q (m + 1)).src : Int), ((wkAt Q (m + 1)).port : Int)) (((m + 1 : Nat) : Int), backPort t (wkAt Q (m + 1)))
        rw [hl] at this
        rw [show i = 2 * m + 1 by omega, unE, this.1, this.2, if_neg (by omega), if_neg (by omega), show (2 * m + 1) / 2 + 1 = m + 1 by omega]
        exact ⟨rfl, rfl⟩

/-- The walks' nodes, nothing joined. -/
def unNet0 (N : Net) (t : Nat) (Q : List Wk) : Net := ⟨Q.map fun w => List.replicate (walkPorts N t w) (0, 0), [], Q.map fun w => gi N.inputs w.node⟩
def unTo (N : Net) (t : Nat) (Q : List Wk) (m : Nat) : Net := linkTo (unNet0 N t Q) (unE t Q m) m
def unNet (N : Net) (t : Nat) (Q : List Wk) : Net := unTo N t Q (Q.length - 1)
theorem un0_len (N : Net) (t : Nat) (Q : List Wk) : (unNet0 N t Q).ends.length = Q.length := by simp [unNet0]
theorem un0_row (N : Net) (t : Nat) {Q : List Wk} {j : Nat} (h : j < Q.length) : (gr (unNet0 N t Q).ends j).length = walkPorts N t (wkAt Q j) := by
  rw [wk_get h]
  simp [unNet0, gr, List.getD, h]
theorem un0_input (N : Net) (t : Nat) {Q : List Wk} {j : Nat} (h : j < Q.length) : gi (unNet0 N t Q).inputs j = gi N.inputs (wkAt Q j).node := by
  rw [wk_get h]
  simp [unNet0, gi, List.getD, h]

/-- The port that leads back is there. -/
theorem back_in {N : Net} {v t k : Nat} {Q : List Wk} (h : UnI N v t k Q) {j : Nat} (h0 : 0 < j) (hj : j < Q.length) : 0 ≤ backPort t (wkAt Q j) ∧ backPort t (wkAt Q j) < walkPorts N t (wkAt Q j) := by
  obtain ⟨s1, s2, s3, s4, s5, s6, s7, s8⟩ := h.son j h0 hj
  unfold backPort walkPorts
  by_cases e : (wkAt Q j).steps = t
  · rw [if_pos e, if_pos e]; omega
  · rw [if_neg e, if_neg e]; omega
theorem un_ports {N : Net} {v t k : Nat} {Q : List Wk} (h : UnI N v t k Q) {m : Nat} (hm : m + 1 ≤ Q.length) : PortsOK (unNet0 N t Q) (unE t Q m) := by
  intro i hi
  rw [unE_len] at hi
  obtain ⟨e1, e2⟩ := unE_get t Q m i hi
  rw [un0_len]
  have hb := back_in h (j := i / 2 + 1) (by omega) (by omega)
  obtain ⟨s1, s2, s3, s4, s5, s6, s7, s8⟩ := h.son (i / 2 + 1) (by omega) (by omega)
  by_cases hp : i % 2 = 0
  · rw [if_pos hp] at e1 e2
    rw [e1, e2, Int.toNat_natCast, un0_row N t (by omega), walkPorts, if_neg (by omega)]
    omega
  · rw [if_neg hp] at e1 e2
    rw [e1, e2, Int.toNat_natCast, un0_row N t (by omega)]
    omega
theorem un_once {N : Net} {v t k : Nat} {Q : List Wk} (h : UnI N v t k Q) {m : Nat} (hm : m + 1 ≤ Q.length) : Once (unE t Q m) := by
  intro i j hi hj en ep
  rw [unE_len] at hi hj
  obtain ⟨a1, a2⟩ := unE_get t Q m i hi
  obtain ⟨b1, b2⟩ := unE_get t Q m j hj
  rw [a1, b1] at en
  rw [a2, b2] at ep
  have key : ∀ x y, 0 < x → x < Q.length → 0 < y → y < Q.length → (wkAt Q x).src = y → ((wkAt Q x).port : Int) = backPort t (wkAt Q y) → False := fun x y hx0 hx hy0 hy e1 e2 => by
    obtain ⟨s1, s2, s3, s4, s5, s6, s7, s8⟩ := h.son x hx0 hx
    rw [e1] at s3 s6
    rw [backPort, if_neg (by omega)] at e2
    exact s6 e2
  by_cases pi : i % 2 = 0 <;> by_cases pj : j % 2 = 0
  · rw [if_pos pi, if_pos pj] at en ep
    have := h.one (i / 2 + 1) (j / 2 + 1) (by omega) (by omega) (by omega) (by omega) (by omega) (by omega)
    omega
  · rw [if_pos pi, if_neg pj] at en ep
    exact (key _ _ (by omega) (by omega) (by omega) (by omega) (by omega) ep).elim
  · rw [if_neg pi, if_pos pj] at en ep
    exact (key _ _ (by omega) (by omega) (by omega) (by omega) (by omega) ep.symm).elim
  · rw [if_neg pi, if_neg pj] at en
    omega

/-- Where all walks are gone on from, the network of the walks is one. -/
theorem un_good {N : Net} {v t k : Nat} {Q : List Wk} (hN : Good N) (h : UnI N v t k Q) (hk : Q.length ≤ k) (hq : Q.length ≤ 40) : Good (unNet N t Q) := by
  have pos := h.pos
  obtain ⟨hg, hE, -, hi1, hi2⟩ := hN
  have hl : (unNet N t Q).ends.length = Q.length := by rw [unNet, unTo, linkTo_len, un0_len]
  have hp := linkTo_parts (unNet0 N t Q) (unE t Q (Q.length - 1)) (Q.length - 1)
  refine ⟨by omega, ?_, ?_, ?_⟩
  · refine link_ends (unE_len t Q _) (un_ports h (by omega)) (un_once h (by omega)) (fun j hj => ?_) (fun j i hj hi => ?_)
    · rw [un0_len] at hj
      rw [un0_row N t hj, walkPorts]
      have := (hE _ (h.node j hj).1).1
      split <;> omega
    · rw [un0_len] at hj
      rw [un0_row N t hj] at hi
      have own : 0 < j → (i : Int) = backPort t (wkAt Q j) → ∃ x, x < 2 * (Q.length - 1) ∧ gn (unE t Q (Q.length - 1)) x = j ∧ gp (unE t Q (Q.length - 1)) x = i := fun h0 hb => by
        obtain ⟨e1, e2⟩ := unE_get t Q (Q.length - 1) (2 * (j - 1) + 1) (by omega)
        refine ⟨2 * (j - 1) + 1, by omega, ?_, ?_⟩
        · rw [e1, if_neg (by omega)]; omega
        · rw [e2, if_neg (by omega), show (2 * (j - 1) + 1) / 2 + 1 = j by omega, hb]
      have h0 : j = 0 → (wkAt Q j).steps = 0 ∧ (wkAt Q j).came = -1 := fun e => by rw [e, h.root]; exact ⟨rfl, rfl⟩
      by_cases hs : (wkAt Q j).steps = t
      · rw [walkPorts, if_pos hs] at hi
        refine own (by
          rcases Nat.eq_zero_or_pos j with e | e
          · have z := (h0 e).1
            rw [z] at hs
            rw [← hs] at hi
            exact absurd hi (by simp)
          · exact e) ?_
        have hm := Nat.min_le_right t 1
        have hi0 : i < 1 := Nat.lt_of_lt_of_le hi hm
        clear own h0 hi hm
        rw [backPort, if_pos hs]; omega
      · rw [walkPorts, if_neg hs] at hi
        by_cases hc : (i : Int) = (wkAt Q j).came
        · refine own (by
            rcases Nat.eq_zero_or_pos j with e | e
            · have z := (h0 e).2
              omega
            · exact e) ?_
          rw [backPort, if_neg hs]; exact hc
        · obtain ⟨x, x1, x2, x3, x4⟩ := h.all j i (by omega) hj (by have := (h.node j hj).2; omega) hi hc
          obtain ⟨e1, e2⟩ := unE_get t Q (Q.length - 1) (2 * (x - 1)) (by omega)
          refine ⟨2 * (x - 1), by omega, ?_, ?_⟩
          · rw [e1, if_pos (by omega), show 2 * (x - 1) / 2 + 1 = x by omega, x3]
          · rw [e2, if_pos (by omega), show 2 * (x - 1) / 2 + 1 = x by omega, x4]
  · have e : (unNet N t Q).ids = [] := hp.1
    rw [e]
    exact ⟨.inl rfl, fun i hi => absurd hi (by simp)⟩
  · have e : (unNet N t Q).inputs = (unNet0 N t Q).inputs := hp.2
    have l : (unNet0 N t Q).inputs.length = Q.length := by simp [unNet0]
    rw [e, hl]
    refine ⟨by rw [l], fun j hj => ?_⟩
    rw [l] at hj
    rw [un0_input N t hj]
    exact hi2 _ (by have := (h.node j hj).1; omega)

/-- The list stays once all its walks are gone on from, and no walk is ever lost. -/
theorem unq_mono (N : Net) (v t : Nat) {i j : Nat} (h : i ≤ j) : (unq N v t i).length ≤ (unq N v t j).length := by
  induction j with
  | zero => rw [show i = 0 by omega]; exact Nat.le_refl _
  | succ j ih =>
    by_cases e : i = j + 1
    · rw [e]; exact Nat.le_refl _
    · refine Nat.le_trans (ih (by omega)) ?_
      rw [unq]
      split
      · rw [List.length_append]; omega
      · exact Nat.le_refl _
theorem unq_done (N : Net) (v t : Nat) {i j : Nat} (h : i ≤ j) (hd : (unq N v t i).length ≤ i) : unq N v t j = unq N v t i := by
  induction j with
  | zero => rw [show i = 0 by omega]
  | succ j ih =>
    by_cases e : i = j + 1
    · rw [e]
    · rw [unq, ih (by omega), if_neg (by omega)]
/-- All walks, as far as they are at most 40. -/
def walksOfAll (N : Net) (v t : Nat) : List Wk := unq N v t 41
def UnB (N : Net) (v t : Int) : Prop := Good N ∧ (0 ≤ v ∧ v < N.ends.length) ∧ (0 ≤ t ∧ t ≤ 80) ∧ (walksOfAll N v.toNat t.toNat).length ≤ 40
/-- Both loops stop at the first k that reaches the end of the list or finds it too long. -/
theorem un_stop {N : Net} {v t k : Nat} (hk : k ≤ 40) : ((unq N v t k).length ≤ k → walksOfAll N v t = unq N v t k) ∧ (40 < (unq N v t k).length → 40 < (walksOfAll N v t).length) :=
  ⟨fun h => unq_done N v t (by omega) h, fun h => Nat.lt_of_lt_of_le h (unq_mono N v t (by omega))⟩
theorem un_all {N : Net} {v t : Nat} (hN : Good N) (hv : v < N.ends.length) (h : (walksOfAll N v t).length ≤ 40) : Good (unNet N t (walksOfAll N v t)) :=
  un_good hN (unq_inv hN.2.1 hv 41) (Nat.le_trans h (by omega)) h
end Go.Proofs.Ytgacbfblpkikkaa
