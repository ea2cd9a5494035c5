/- Distances along a walk, as plain mathematics. -/
import Derived.Test.YtkpdbceglejbnaaZp
namespace Go.Proofs.Ytkpdbceglejbnaa
open Go.RowKit

/-- The distances once j of the ends of a row have been looked at. -/
def dR (F : List Int) (r : List (Int × Int)) (d : Int) : Nat → List Int
  | 0 => F
  | j + 1 => if gi (dR F r d j) (gn r j).toNat = -1 then (dR F r d j).set (gn r j).toNat d else dR F r d j
/-- The distances once k nodes of the walk have been looked at. -/
def dK (N : Net) (x : Int) : Nat → List Int
  | 0 => (List.replicate N.ends.length (-1)).set x.toNat 0
  | k + 1 => dR (dK N x k) (rw' N (gi (wk N x) k)) (gi (dK N x k) (gi (wk N x) k).toNat + 1) (rw' N (gi (wk N x) k)).length
def dst (N : Net) (x : Int) : List Int := dK N x (wk N x).length
/-- The distances that are there are those of the nodes of a list. -/
structure DOK (n : Nat) (F Q : List Int) : Prop where
  len : F.length = n
  has : ∀ i : Nat, i < n → (gi F i ≠ -1 ↔ (i : Int) ∈ Q)
  rng : ∀ i : Nat, i < n → -1 ≤ gi F i ∧ gi F i < (Q.length : Int)
theorem DOK.out {n : Nat} {F Q : List Int} (h : DOK n F Q) {z : Int} (h0 : 0 ≤ z) (h1 : z < (n : Int)) (he : gi F z.toNat = -1) : z ∉ Q := by
  have := h.has z.toNat (by omega)
  rw [Int.toNat_of_nonneg h0] at this
  exact fun k => absurd he (this.2 k)
theorem DOK.inn {n : Nat} {F Q : List Int} (h : DOK n F Q) {z : Int} (h0 : 0 ≤ z) (h1 : z < (n : Int)) (he : gi F z.toNat ≠ -1) : z ∈ Q := by
  have := h.has z.toNat (by omega)
  rw [Int.toNat_of_nonneg h0] at this
  exact this.1 he
theorem DOK.got {n : Nat} {F Q : List Int} (h : DOK n F Q) {z : Int} (h0 : 0 ≤ z) (h1 : z < (n : Int)) (he : z ∈ Q) : gi F z.toNat ≠ -1 := by
  have := h.has z.toNat (by omega)
  rw [Int.toNat_of_nonneg h0] at this
  exact this.2 he
theorem DOK.step {n : Nat} {F Q : List Int} (h : DOK n F Q) {z d : Int} (h0 : 0 ≤ z) (h1 : z < (n : Int)) (d0 : 0 ≤ d) (d1 : d ≤ (Q.length : Int)) :
    DOK n (if gi F z.toNat = -1 then F.set z.toNat d else F) (addOne Q z) := by
  have hl := h.len
  split
  · rename_i he
    rw [addOne_new (h.out h0 h1 he)]
    refine ⟨by simp [hl], fun i hi => ?_, fun i hi => ?_⟩
    · rw [setgi (by omega), List.mem_append, List.mem_singleton, ← h.has i hi]
      by_cases e : i = z.toNat
      · simp only [if_pos e]; constructor
        · intro _; right; omega
        · intro _; omega
      · simp only [if_neg e]; constructor
        · intro k; exact .inl k
        · rintro (k | k)
          · exact k
          · omega
    · rw [setgi (by omega)]
      have := h.rng i hi
      simp only [List.length_append, List.length_singleton]
      split <;> omega
  · rename_i he
    rw [addOne_in (h.inn h0 h1 he)]
    exact h
theorem DOK.row {n : Nat} {F Q : List Int} (h : DOK n F Q) {r : List (Int × Int)} {d : Int} (d0 : 0 ≤ d) (d1 : d ≤ (Q.length : Int)) (hr : ∀ i, i < r.length → 0 ≤ gn r i ∧ gn r i < (n : Int)) :
    ∀ j, j ≤ r.length → DOK n (dR F r d j) (addTo Q r j)
  | 0, _ => h
  | j + 1, hj => by
    have ih := DOK.row h d0 d1 hr j (by omega)
    have := (addTo_begins Q r 0 j (by omega)).len
    have := hr j (by omega)
    simp only [addTo] at *
    exact ih.step (by omega) (by omega) d0 (by omega)
theorem wk_at' {N : Net} (hN : Leads' N) {x : Int} (hx : 0 ≤ x ∧ x < N.ends.length) {k : Nat} (hk : k < (wk N x).length) : k < (wkTo N x k).length ∧ gi (wk N x) k = gi (wkTo N x k) k ∧ k < N.ends.length := by
  have hl := wkTo_len hN hx N.ends.length
  have hkn : k < N.ends.length := by unfold wk at hk; omega
  have hlt : k < (wkTo N x k).length := by
    by_cases h : k < (wkTo N x k).length
    · exact h
    · have := wk_done (N := N) (v := x) (k := k) (by omega) (by omega)
      rw [this] at hk
      omega
  exact ⟨hlt, (wk_begins (N := N) (v := x) (by omega)).at hlt, hkn⟩
theorem dok_zero {N : Net} {x : Int} (hx : 0 ≤ x ∧ x < N.ends.length) : DOK N.ends.length (dK N x 0) (wkTo N x 0) := by
  have hg : ∀ i, gi (dK N x 0) i = if i = x.toNat then 0 else gi (List.replicate N.ends.length (-1 : Int)) i := fun i => setgi (by simp; omega)
  refine ⟨by simp [dK], fun i hi => ?_, fun i hi => ?_⟩
  · rw [hg]
    simp only [wkTo, List.mem_singleton]
    by_cases e : i = x.toNat
    · rw [if_pos e]; exact ⟨fun _ => by omega, fun _ => by omega⟩
    · rw [if_neg e]
      have : gi (List.replicate N.ends.length (-1 : Int)) i = -1 := by simp [gi, List.getD, hi]
      rw [this]
      exact ⟨fun h => absurd rfl h, fun h => by omega⟩
  · rw [hg]
    have : gi (List.replicate N.ends.length (-1 : Int)) i = -1 := by simp [gi, List.getD, hi]
    simp only [wkTo, List.length_singleton]
    split <;> omega
theorem dok_next {N : Net} (hN : Leads' N) {x : Int} (hx : 0 ≤ x ∧ x < N.ends.length) {k : Nat} (hk : k < (wkTo N x k).length) {F : List Int} (h : DOK N.ends.length F (wkTo N x k)) :
    ∀ j, j ≤ (rw' N (gi (wkTo N x k) k)).length → DOK N.ends.length (dR F (rw' N (gi (wkTo N x k) k)) (gi F (gi (wkTo N x k) k).toNat + 1) j) (addTo (wkTo N x k) (rw' N (gi (wkTo N x k) k)) j) := by
  have hv := wkTo_range hN hx k _ (gi_in hk)
  have hr := h.rng (gi (wkTo N x k) k).toNat (by omega)
  have hg := h.got hv.1 hv.2 (gi_in hk)
  exact h.row (by omega) (by omega) fun i hi => hN.row hv.1 hv.2 hi
theorem dok_to {N : Net} (hN : Leads' N) {x : Int} (hx : 0 ≤ x ∧ x < N.ends.length) : ∀ k, k ≤ (wk N x).length → DOK N.ends.length (dK N x k) (wkTo N x k)
  | 0, _ => dok_zero hx
  | k + 1, hk => by
    obtain ⟨w1, w2, w3⟩ := wk_at' hN hx (k := k) (by omega)
    have := dok_next hN hx w1 (dok_to hN hx k (by omega)) _ (Nat.le_refl _)
    rw [wkTo_go w1, dK, w2]
    exact this
theorem wk_len' {N : Net} (hN : Leads' N) {x : Int} (hx : 0 ≤ x ∧ x < N.ends.length) : wkTo N x (wk N x).length = wk N x := by
  have := wkTo_len hN hx N.ends.length
  by_cases e : (wk N x).length < (wkTo N x (wk N x).length).length
  · have := (wk_begins (N := N) (v := x) (k := (wk N x).length) (by unfold wk; omega)).len
    omega
  · exact (wk_done (by omega) (by unfold wk; omega)).symm
theorem dst_ok {N : Net} (hN : Leads' N) {x : Int} (hx : 0 ≤ x ∧ x < N.ends.length) : DOK N.ends.length (dst N x) (wk N x) := by
  have := dok_to hN hx _ (Nat.le_refl _)
  rw [wk_len' hN hx] at this
  exact this
/-- Distances are -1 or at most the number of nodes. -/
theorem dst_small {N : Net} (hG : GoodW N) {x : Int} (hx : 0 ≤ x ∧ x < N.ends.length) : (dst N x).length = N.ends.length ∧ ∀ i, i < N.ends.length → -1 ≤ gi (dst N x) i ∧ gi (dst N x) i < (N.ends.length : Int) := by
  have h := dst_ok hG.leads hx
  have := (wk_ok hG.leads hx).len
  exact ⟨h.len, fun i hi => by have := h.rng i hi; omega⟩
/-- A row that is looked at: what was there stays, and what is new has the distance d. -/
theorem dR_inv {n : Nat} {F Q : List Int} {r : List (Int × Int)} {d : Int} (h : DOK n F Q) (hq : ∀ z ∈ Q, 0 ≤ z ∧ z < (n : Int)) (d0 : 0 ≤ d) (d1 : d ≤ (Q.length : Int)) (hr : ∀ i, i < r.length → 0 ≤ gn r i ∧ gn r i < (n : Int)) :
    ∀ j, j ≤ r.length → (∀ z ∈ Q, gi (dR F r d j) z.toNat = gi F z.toNat) ∧ ∀ z ∈ addTo Q r j, z ∉ Q → gi (dR F r d j) z.toNat = d
  | 0, _ => ⟨fun _ _ => rfl, fun z h1 h2 => absurd h1 h2⟩
  | j + 1, hj => by
    obtain ⟨i1, i2⟩ := dR_inv h hq d0 d1 hr j (by omega)
    have hd := h.row d0 d1 hr j (by omega)
    have hrj := hr j (by omega)
    have hin := addTo_range (l := Q) (r := r) (n := (n : Int)) (j := j) hq (fun i hi => hr i (by omega))
    simp only [dR]
    split
    · rename_i he
      have hout := hd.out hrj.1 hrj.2 he
      have hlen := hd.len
      have key : ∀ z : Int, 0 ≤ z → z ≠ gn r j → gi ((dR F r d j).set (gn r j).toNat d) z.toNat = gi (dR F r d j) z.toNat := fun z hz hne => by
        rw [setgi (by omega), if_neg (by omega)]
      refine ⟨fun z hz => ?_, fun z hz hz2 => ?_⟩
      · rw [key z (hq z hz).1 fun e => hout (e ▸ (addTo_mem Q r j z).2 (.inl hz))]
        exact i1 z hz
      · rcases addOne_mem.1 hz with h3 | rfl
        · rw [key z (hin z h3).1 fun e => hout (e ▸ h3)]
          exact i2 z h3 hz2
        · rw [setgi (by omega), if_pos rfl]
    · rename_i he
      have hi := hd.inn hrj.1 hrj.2 he
      refine ⟨i1, fun z hz hz2 => i2 z ?_ hz2⟩
      rcases addOne_mem.1 hz with h3 | rfl
      · exact h3
      · exact hi
end Go.Proofs.Ytkpdbceglejbnaa
