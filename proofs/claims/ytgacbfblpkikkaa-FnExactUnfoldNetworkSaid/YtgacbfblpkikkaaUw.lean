/- UnfoldNetwork, plainly: the list of walks as both functions make it, and the network of it. -/
import Derived.Test.YtgacbfblpkikkaaLg
namespace Go.Proofs.Ytgacbfblpkikkaa
open Go.RowKit

/-- A walk: where it ends, how long it is, the port that it came by (-1: it has no step), the walk that it goes on from and through which port. -/
structure Wk where
  node : Nat
  steps : Nat
  came : Int
  src : Nat
  port : Nat
deriving Inhabited
def wkAt (Q : List Wk) (j : Nat) : Wk := Q.getD j default
theorem wk_get {Q : List Wk} {j : Nat} (h : j < Q.length) : wkAt Q j = Q[j] := by simp [wkAt, List.getD, h]
theorem wk_left {Q L : List Wk} {j : Nat} (h : j < Q.length) : wkAt (Q ++ L) j = wkAt Q j := by simp [wkAt, List.getD, List.getElem?_append_left h]
theorem wk_right {Q L : List Wk} {j : Nat} (h : Q.length ≤ j) : wkAt (Q ++ L) j = wkAt L (j - Q.length) := by simp [wkAt, List.getD, List.getElem?_append_right h]
/-- The ports through which a walk goes on. -/
def onward (N : Net) (w : Wk) : List Nat := (List.range (gr N.ends w.node).length).filter fun i => decide ((i : Int) ≠ w.came)
def goOn (N : Net) (k : Nat) (w : Wk) (i : Nat) : Wk := ⟨(gn (gr N.ends w.node) i).toNat, w.steps + 1, gp (gr N.ends w.node) i, k, i⟩
def longer (N : Net) (k : Nat) (w : Wk) : List Wk := (onward N w).map (goOn N k w)
theorem longer_get {N : Net} {k : Nat} {w : Wk} {a : Nat} (h : a < (longer N k w).length) : ∃ i, i < (gr N.ends w.node).length ∧ (i : Int) ≠ w.came ∧ wkAt (longer N k w) a = goOn N k w i := by
  have hm := List.getElem_mem h
  rw [← wk_get h] at hm
  obtain ⟨i, hi, e⟩ := List.mem_map.1 hm
  simp only [onward, List.mem_filter, List.mem_range, decide_eq_true_eq] at hi
  exact ⟨i, hi.1, hi.2, e.symm⟩
theorem longer_inj {N : Net} {k : Nat} {w : Wk} {a b : Nat} (ha : a < (longer N k w).length) (hb : b < (longer N k w).length) (h : (wkAt (longer N k w) a).port = (wkAt (longer N k w) b).port) : a = b := by
  have hn : (onward N w).Nodup := List.Pairwise.filter _ List.nodup_range
  have la : a < (onward N w).length := by simpa [longer] using ha
  have lb : b < (onward N w).length := by simpa [longer] using hb
  rw [wk_get ha, wk_get hb] at h
  have e : (onward N w)[a] = (onward N w)[b] := by simpa [longer, goOn] using h
  exact (List.getElem_inj hn).1 e
theorem longer_all {N : Net} {k : Nat} {w : Wk} {i : Nat} (h : i < (gr N.ends w.node).length) (hc : (i : Int) ≠ w.came) : ∃ a, a < (longer N k w).length ∧ wkAt (longer N k w) a = goOn N k w i := by
  have hm : goOn N k w i ∈ longer N k w := List.mem_map.2 ⟨i, by simp [onward, h, hc], rfl⟩
  obtain ⟨a, ha, e⟩ := List.getElem_of_mem hm
  exact ⟨a, ha, by rw [wk_get ha]; exact e⟩

/-- The walks when the first k of them have been gone on from. -/
def unq (N : Net) (v t : Nat) : Nat → List Wk
  | 0 => [⟨v, 0, -1, 0, 0⟩]
  | k + 1 => if k < (unq N v t k).length ∧ (wkAt (unq N v t k) k).steps < t then unq N v t k ++ longer N k (wkAt (unq N v t k) k) else unq N v t k

structure UnI (N : Net) (v t k : Nat) (Q : List Wk) : Prop where
  pos : 0 < Q.length
  root : wkAt Q 0 = ⟨v, 0, -1, 0, 0⟩
  node : ∀ j, j < Q.length → (wkAt Q j).node < N.ends.length ∧ (wkAt Q j).steps ≤ t
  son : ∀ j, 0 < j → j < Q.length → (wkAt Q j).src < j ∧ (wkAt Q j).src < k ∧ (wkAt Q (wkAt Q j).src).steps < t ∧ (wkAt Q j).steps = (wkAt Q (wkAt Q j).src).steps + 1 ∧ (wkAt Q j).port < (gr N.ends (wkAt Q (wkAt Q j).src).node).length ∧ ((wkAt Q j).port : Int) ≠ (wkAt Q (wkAt Q j).src).came ∧ 0 ≤ (wkAt Q j).came ∧ (wkAt Q j).came < (gr N.ends (wkAt Q j).node).length
  one : ∀ i j, 0 < i → i < Q.length → 0 < j → j < Q.length → (wkAt Q i).src = (wkAt Q j).src → (wkAt Q i).port = (wkAt Q j).port → i = j
  all : ∀ p i, p < k → p < Q.length → (wkAt Q p).steps < t → i < (gr N.ends (wkAt Q p).node).length → (i : Int) ≠ (wkAt Q p).came → ∃ j, 0 < j ∧ j < Q.length ∧ (wkAt Q j).src = p ∧ (wkAt Q j).port = i

theorem unq_inv {N : Net} {v t : Nat} (hN : EndsOK N.ends) (hv : v < N.ends.length) : ∀ k, UnI N v t k (unq N v t k)
  | 0 => by
    have r : wkAt (unq N v t 0) 0 = ⟨v, 0, -1, 0, 0⟩ := rfl
    have l : (unq N v t 0).length = 1 := rfl
    refine ⟨by omega, r, fun j hj => ?_, fun j h0 hj => absurd hj (by omega), fun i j h0 hi h1 hj => absurd hi (by omega), fun p i hp => absurd hp (by omega)⟩
    rw [show j = 0 by omega, r]
    exact ⟨hv, Nat.zero_le _⟩
  | k + 1 => by
    have ih := unq_inv (t := t) hN hv k
    rw [unq]
    generalize unq N v t k = Q at ih
    by_cases h : k < Q.length ∧ (wkAt Q k).steps < t
    · rw [if_pos h]
      obtain ⟨hk, ht⟩ := h
      generalize hw : wkAt Q k = w at ht
      obtain ⟨n1, n2⟩ := ih.node k hk
      rw [hw] at n1 n2
      have hlen : (Q ++ longer N k w).length = Q.length + (longer N k w).length := List.length_append
      have new : ∀ j, Q.length ≤ j → j < (Q ++ longer N k w).length → ∃ i, i < (gr N.ends w.node).length ∧ (i : Int) ≠ w.came ∧ wkAt (Q ++ longer N k w) j = goOn N k w i := fun j h1 h2 => by
        obtain ⟨i, a, b, c⟩ := longer_get (N := N) (k := k) (w := w) (a := j - Q.length) (by omega)
        exact ⟨i, a, b, by rw [wk_right h1, c]⟩
      have old : ∀ j, j < Q.length → wkAt (Q ++ longer N k w) j = wkAt Q j := fun j hj => wk_left hj
      have okay : ∀ i, i < (gr N.ends w.node).length → 0 ≤ gn (gr N.ends w.node) i ∧ gn (gr N.ends w.node) i < N.ends.length ∧ 0 ≤ gp (gr N.ends w.node) i ∧ gp (gr N.ends w.node) i < (gr N.ends (gn (gr N.ends w.node) i).toNat).length := fun i hi => ((hN w.node n1).2 i hi).1
      have pos := ih.pos
      refine ⟨by omega, by rw [old 0 pos]; exact ih.root, fun j hj => ?_, fun j h0 hj => ?_, fun i j h0 hi h1 hj es ep => ?_, fun p i hp hpl hs hi hc => ?_⟩
      · by_cases hl : j < Q.length
        · rw [old j hl]; exact ih.node j hl
        · obtain ⟨i, a, b, c⟩ := new j (by omega) hj
          obtain ⟨o1, o2, o3, o4⟩ := okay i a
          rw [c]
          simp only [goOn]
          omega
      · by_cases hl : j < Q.length
        · obtain ⟨s1, s2, s3, s4, s5, s6, s7, s8⟩ := ih.son j h0 hl
          rw [old j hl, old _ (by omega)]
          exact ⟨s1, by omega, s3, s4, s5, s6, s7, s8⟩
        · obtain ⟨i, a, b, c⟩ := new j (by omega) hj
          obtain ⟨o1, o2, o3, o4⟩ := okay i a
          rw [c]
          simp only [goOn]
          rw [old k hk, hw]
          exact ⟨by omega, by omega, ht, rfl, a, b, o3, o4⟩
      · by_cases hl : i < Q.length
        · by_cases hm : j < Q.length
          · rw [old i hl, old j hm] at es ep
            exact ih.one i j h0 hl h1 hm es ep
          · obtain ⟨x, a, b, c⟩ := new j (by omega) hj
            have := (ih.son i h0 hl).2.1
            rw [old i hl, c] at es
            simp only [goOn] at es
            omega
        · obtain ⟨x, a, b, c⟩ := new i (by omega) hi
          by_cases hm : j < Q.length
          · have := (ih.son j h1 hm).2.1
            rw [old j hm, c] at es
            simp only [goOn] at es
            omega
          · rw [wk_right (by omega), wk_right (by omega)] at ep
            have := longer_inj (by omega) (by omega) ep
            omega
      · by_cases hl : p < Q.length
        · rw [old p hl] at hs hi hc
          by_cases hpk : p = k
          · subst hpk
            rw [hw] at hi hc
            obtain ⟨a, ha, e⟩ := longer_all (k := p) hi hc
            refine ⟨Q.length + a, by omega, by omega, ?_, ?_⟩ <;> rw [wk_right (by omega), show Q.length + a - Q.length = a by omega, e] <;> rfl
          · obtain ⟨j, j1, j2, j3, j4⟩ := ih.all p i (by omega) hl hs hi hc
            exact ⟨j, j1, by omega, by rw [old j j2]; exact j3, by rw [old j j2]; exact j4⟩
        · omega
    · rw [if_neg h]
      refine ⟨ih.pos, ih.root, ih.node, fun j h0 hj => ?_, ih.one, fun p i hp hpl hs hi hc => ?_⟩
      · obtain ⟨s1, s2, s3⟩ := ih.son j h0 hj
        exact ⟨s1, by omega, s3⟩
      · by_cases hpk : p = k
        · subst hpk
          exact absurd ⟨hpl, hs⟩ h
        · exact ih.all p i (by omega) hpl hs hi hc
end Go.Proofs.Ytgacbfblpkikkaa
