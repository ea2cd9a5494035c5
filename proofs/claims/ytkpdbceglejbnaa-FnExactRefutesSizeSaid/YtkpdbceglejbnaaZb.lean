/- Distances are those of shortest walks: neighbours differ by at most one, and each node but the first has one before it. -/
import Derived.Test.YtkpdbceglejbnaaZa
namespace Go.Proofs.Ytkpdbceglejbnaa
open Go.RowKit

/-- What holds of the distances once k nodes have been looked at. -/
structure BFS (N : Net) (x : Int) (k : Nat) (F Q : List Int) : Prop where
  mono : ∀ i j, i ≤ j → j < Q.length → gi F (gi Q i).toNat ≤ gi F (gi Q j).toNat
  top : k < Q.length → ∀ j, j < Q.length → gi F (gi Q j).toNat ≤ gi F (gi Q k).toNat + 1
  near : ∀ i, i < k → i < Q.length → ∀ j, j < (rw' N (gi Q i)).length → gi F (gn (rw' N (gi Q i)) j).toNat ≤ gi F (gi Q i).toNat + 1
  par : ∀ u ∈ Q, u ≠ x → ∃ p ∈ Q, ∃ j, j < (rw' N p).length ∧ gn (rw' N p) j = u ∧ gi F u.toNat = gi F p.toNat + 1
  zero : gi F x.toNat = 0
theorem bfs_to {N : Net} (hN : Leads' N) {x : Int} (hx : 0 ≤ x ∧ x < N.ends.length) : ∀ k, k ≤ (wk N x).length → BFS N x k (dK N x k) (wkTo N x k)
  | 0, _ => by
    have h0 : gi (dK N x 0) x.toNat = 0 := by show gi ((List.replicate N.ends.length (-1 : Int)).set x.toNat 0) x.toNat = 0; rw [setgi (by simp; omega), if_pos rfl]
    refine ⟨fun i j hij hj => ?_, fun hk j hj => ?_, fun i hi => absurd hi (by omega), fun u hu hne => ?_, h0⟩
    · simp only [wkTo, List.length_singleton] at hj
      obtain rfl : j = 0 := by omega
      obtain rfl : i = 0 := by omega
      exact Int.le_refl _
    · simp only [wkTo, List.length_singleton] at hj
      obtain rfl : j = 0 := by omega
      omega
    · simp only [wkTo, List.mem_singleton] at hu
      exact absurd hu hne
  | k + 1, hk => by
    obtain ⟨w1, w2, w3⟩ := wk_at' hN hx (k := k) (by omega)
    have ih := bfs_to hN hx k (by omega)
    have hd := dok_to hN hx k (by omega)
    have hv := wkTo_range hN hx k _ (gi_in w1)
    have hrg := hd.rng (gi (wkTo N x k) k).toNat (by omega)
    have hgt := hd.got hv.1 hv.2 (gi_in w1)
    have hr : ∀ i, i < (rw' N (gi (wkTo N x k) k)).length → 0 ≤ gn (rw' N (gi (wkTo N x k) k)) i ∧ gn (rw' N (gi (wkTo N x k) k)) i < (N.ends.length : Int) := fun i hi => hN.row hv.1 hv.2 hi
    obtain ⟨e1, e2⟩ := dR_inv hd (wkTo_range hN hx k) (d := gi (dK N x k) (gi (wkTo N x k) k).toNat + 1) (by omega) (by omega) hr _ (Nat.le_refl _)
    have hF : dK N x (k + 1) = dR (dK N x k) (rw' N (gi (wkTo N x k) k)) (gi (dK N x k) (gi (wkTo N x k) k).toNat + 1) (rw' N (gi (wkTo N x k) k)).length := by rw [dK, w2]
    rw [← hF] at e1 e2
    rw [← wkTo_go w1] at e2
    have hb := wkTo_begins N x k (k + 1) (by omega)
    have hbl := hb.len
    have hall : ∀ z ∈ wkTo N x (k + 1), gi (dK N x (k + 1)) z.toNat ≤ gi (dK N x k) (gi (wkTo N x k) k).toNat + 1 := fun z hz => by
      by_cases hzq : z ∈ wkTo N x k
      · rw [e1 z hzq]
        obtain ⟨j, hj, rfl⟩ := in_gi hzq
        exact ih.top w1 j hj
      · rw [e2 z hz hzq]; exact Int.le_refl _
    have hold : ∀ i, i < (wkTo N x k).length → gi (dK N x (k + 1)) (gi (wkTo N x (k + 1)) i).toNat = gi (dK N x k) (gi (wkTo N x k) i).toNat := fun i hi => by
      rw [hb.at hi, e1 _ (gi_in hi)]
    have hnew : ∀ i, (wkTo N x k).length ≤ i → i < (wkTo N x (k + 1)).length → gi (wkTo N x (k + 1)) i ∉ wkTo N x k := fun i hi hi2 hm => by
      obtain ⟨t, ht, he⟩ := in_gi hm
      rw [← hb.at ht] at he
      have h1 := idx_gi (wkTo_nodup N x (k + 1)) hi2
      have h2 := idx_gi (wkTo_nodup N x (k + 1)) (i := t) (by omega)
      rw [he] at h2
      omega
    have hmono : ∀ i j, i ≤ j → j < (wkTo N x (k + 1)).length → gi (dK N x (k + 1)) (gi (wkTo N x (k + 1)) i).toNat ≤ gi (dK N x (k + 1)) (gi (wkTo N x (k + 1)) j).toNat := fun i j hij hj => by
      by_cases hjl : j < (wkTo N x k).length
      · rw [hold j hjl, hold i (by omega)]
        exact ih.mono i j hij hjl
      · rw [e2 _ (gi_in hj) (hnew j (by omega) hj)]
        exact hall _ (gi_in (by omega))
    refine ⟨hmono, fun hk1 j hj => ?_, fun i hi hil j hj => ?_, fun u hu hne => ?_, ?_⟩
    · have h1 := hall _ (gi_in hj)
      have h2 := hmono k (k + 1) (by omega) hk1
      rw [hold k w1] at h2
      omega
    · have hik : i < (wkTo N x k).length := by omega
      have e : gi (wkTo N x (k + 1)) i = gi (wkTo N x k) i := hb.at hik
      rw [hold i hik]
      rw [e] at hj ⊢
      have hcl := wkTo_closed (N := N) (v := x) (k + 1) i (by omega) hil j (by rw [e]; exact hj)
      rw [e] at hcl
      by_cases hi2 : i = k
      · subst hi2
        exact hall _ hcl
      · have hn := ih.near i (by omega) hik j hj
        have hcl2 := wkTo_closed (N := N) (v := x) k i (by omega) hik j hj
        rw [e1 _ hcl2]
        exact hn
    · by_cases huq : u ∈ wkTo N x k
      · obtain ⟨p, hp, j, hj, he, hd2⟩ := ih.par u huq hne
        exact ⟨p, hb.has hp, j, hj, he, by rw [e1 u huq, e1 p hp]; exact hd2⟩
      · have hu2 := hu
        rw [wkTo_go w1] at hu2
        rcases (addTo_mem _ _ _ _).1 hu2 with h3 | ⟨t, ht, he⟩
        · exact absurd h3 huq
        · exact ⟨gi (wkTo N x k) k, hb.has (gi_in w1), t, ht, he, by rw [e2 u hu huq, e1 _ (gi_in w1)]⟩
    · rw [e1 x (by have := gi_in (wkTo_pos N x k); rw [wkTo_first] at this; exact this)]
      exact ih.zero
/-- One is joined with the other. -/
def Adj (N : Net) (u w : Int) : Prop := ∃ j, j < (rw' N u).length ∧ gn (rw' N u) j = w
theorem adj_symm {N : Net} (hG : Good N) {u w : Int} (hu : 0 ≤ u ∧ u < N.ends.length) (h : Adj N u w) : Adj N w u := by
  obtain ⟨j, hj, rfl⟩ := h
  have := (hG.2.1 u.toNat (by omega)).2 j hj
  obtain ⟨⟨a1, a2, a3, a4⟩, b1, -⟩ := this
  refine ⟨(gp (gr N.ends u.toNat) j).toNat, ?_, ?_⟩
  · unfold rw'; omega
  · unfold rw'; rw [b1]; omega
structure Far (N : Net) (x : Int) : Prop where
  ok : DOK N.ends.length (dst N x) (wk N x)
  zero : gi (dst N x) x.toNat = 0
  here : x ∈ wk N x
  near : ∀ u ∈ wk N x, ∀ w, Adj N u w → w ∈ wk N x ∧ gi (dst N x) w.toNat ≤ gi (dst N x) u.toNat + 1
  par : ∀ u ∈ wk N x, u ≠ x → ∃ p ∈ wk N x, Adj N p u ∧ gi (dst N x) u.toNat = gi (dst N x) p.toNat + 1
theorem far {N : Net} (hN : Leads' N) {x : Int} (hx : 0 ≤ x ∧ x < N.ends.length) : Far N x := by
  have h := bfs_to hN hx _ (Nat.le_refl _)
  rw [wk_len' hN hx] at h
  have hw := wk_ok hN hx
  refine ⟨dst_ok hN hx, h.zero, by have := gi_in (wkTo_pos N x N.ends.length); rw [wkTo_first] at this; exact this, fun u hu w ⟨j, hj, he⟩ => ?_, fun u hu hne => ?_⟩
  · subst he
    refine ⟨hw.closed u hu j hj, ?_⟩
    obtain ⟨i, hi, rfl⟩ := in_gi hu
    exact h.near i hi hi j hj
  · obtain ⟨p, hp, j, hj, he, hd⟩ := h.par u hu hne
    exact ⟨p, hp, ⟨j, hj, he⟩, hd⟩
/-- A walk of k steps. -/
inductive Wlk (N : Net) (x : Int) : Nat → Int → Prop
  | nil : Wlk N x 0 x
  | go {k : Nat} {u w : Int} : Wlk N x k u → Adj N u w → Wlk N x (k + 1) w
theorem Wlk.le {N : Net} (hN : Leads' N) {x : Int} (hx : 0 ≤ x ∧ x < N.ends.length) {k : Nat} {u : Int} (h : Wlk N x k u) : u ∈ wk N x ∧ gi (dst N x) u.toNat ≤ (k : Int) := by
  have F := far hN hx
  induction h with
  | nil => exact ⟨F.here, by rw [F.zero]; exact Int.le_refl _⟩
  | go _ ha ih =>
    have := F.near _ ih.1 _ ha
    exact ⟨this.1, by have := ih.2; push_cast; omega⟩
theorem wlk_of {N : Net} (hN : Leads' N) {x : Int} (hx : 0 ≤ x ∧ x < N.ends.length) : ∀ (k : Nat) (u : Int), u ∈ wk N x → gi (dst N x) u.toNat = (k : Int) → Wlk N x k u
  | 0, u, hu, he => by
    have F := far hN hx
    by_cases e : u = x
    · subst e; exact .nil
    · obtain ⟨p, hp, _, hd⟩ := F.par u hu e
      have hr := (wk_ok hN hx).range p hp
      have := F.ok.got hr.1 hr.2 hp
      have := F.ok.rng p.toNat (by omega)
      omega
  | k + 1, u, hu, he => by
    have F := far hN hx
    by_cases e : u = x
    · subst e; rw [F.zero] at he; omega
    · obtain ⟨p, hp, ha, hd⟩ := F.par u hu e
      exact .go (wlk_of hN hx k p hp (by omega)) ha
theorem Wlk.front {N : Net} {x y : Int} {k : Nat} {u : Int} (ha : Adj N x y) (h : Wlk N y k u) : Wlk N x (k + 1) u := by
  induction h with
  | nil => exact .go .nil ha
  | go _ hb ih => exact .go ih hb
theorem Wlk.inn {N : Net} (hN : Leads' N) {x : Int} (hx : 0 ≤ x ∧ x < N.ends.length) {k : Nat} {u : Int} (h : Wlk N x k u) : 0 ≤ u ∧ u < N.ends.length := (wk_ok hN hx).range u (h.le hN hx).1
theorem Wlk.back {N : Net} (hG : Good N) {x : Int} (hx : 0 ≤ x ∧ x < N.ends.length) {k : Nat} {u : Int} (h : Wlk N x k u) : Wlk N u k x := by
  induction h with
  | nil => exact .nil
  | go h1 ha ih => exact Wlk.front (adj_symm hG (h1.inn (good_w hG).leads hx) ha) ih
/-- The distance is the same in the other direction. -/
theorem dst_symm {N : Net} (hG : Good N) {x y : Int} (hx : 0 ≤ x ∧ x < N.ends.length) (hy : 0 ≤ y ∧ y < N.ends.length) : gi (dst N x) y.toNat = gi (dst N y) x.toNat := by
  have hN := (good_w hG).leads
  have key : ∀ x y : Int, 0 ≤ x ∧ x < N.ends.length → 0 ≤ y ∧ y < N.ends.length → gi (dst N x) y.toNat ≠ -1 → gi (dst N y) x.toNat ≠ -1 ∧ gi (dst N y) x.toNat ≤ gi (dst N x) y.toNat := fun x y hx hy hne => by
    have F := far hN hx
    have G := far hN hy
    have hm := F.ok.inn hy.1 hy.2 hne
    have hr := F.ok.rng y.toNat (by omega)
    obtain ⟨k, hk⟩ := Int.eq_ofNat_of_zero_le (show 0 ≤ gi (dst N x) y.toNat by omega)
    have := ((wlk_of hN hx k y hm hk).back hG hx).le hN hy
    exact ⟨G.ok.got hx.1 hx.2 this.1, by omega⟩
  have r1 := (far hN hx).ok.rng y.toNat (by omega)
  have r2 := (far hN hy).ok.rng x.toNat (by omega)
  by_cases e : gi (dst N x) y.toNat = -1
  · by_cases e2 : gi (dst N y) x.toNat = -1
    · omega
    · exact absurd e (key y x hy hx e2).1
  · have k1 := key x y hx hy e
    have k2 := key y x hy hx k1.1
    omega
end Go.Proofs.Ytkpdbceglejbnaa
