/- Counts and sums of a list, as plain mathematics: who is alone, who is the leader. -/
import Derived.Test.YtkpdbceglejbnaaTka
namespace Go.Proofs.Ytkpdbceglejbnaa

/-- How many of the first k elements lie in lo..hi. -/
def cbT (l : List Int) (lo hi : Int) : Nat → Nat
  | 0 => 0
  | k + 1 => if lo ≤ gi l k ∧ gi l k ≤ hi then cbT l lo hi k + 1 else cbT l lo hi k
theorem cbT_le (l : List Int) (lo hi : Int) : ∀ k, cbT l lo hi k ≤ k
  | 0 => Nat.le_refl _
  | k + 1 => by have := cbT_le l lo hi k; simp only [cbT]; split <;> omega
theorem cbT_zero {l : List Int} {x : Int} : ∀ k, cbT l x x k = 0 ↔ ∀ u, u < k → gi l u ≠ x
  | 0 => by simp [cbT]
  | k + 1 => by
    have ih := cbT_zero (l := l) (x := x) k
    simp only [cbT]
    by_cases e : gi l k = x
    · rw [if_pos ⟨by omega, by omega⟩]
      exact ⟨fun h => by omega, fun h => absurd e (h k (by omega))⟩
    · rw [if_neg (by omega), ih]
      refine ⟨fun h u hu => ?_, fun h u hu => h u (by omega)⟩
      by_cases e' : u = k
      · subst e'; exact e
      · exact h u (by omega)
theorem cbT_one {l : List Int} {x : Int} : ∀ k, cbT l x x k = 1 ↔ ∃ v, v < k ∧ gi l v = x ∧ ∀ u, u < k → gi l u = x → u = v
  | 0 => by simp [cbT]
  | k + 1 => by
    have ih := cbT_one (l := l) (x := x) k
    have iz := cbT_zero (l := l) (x := x) k
    simp only [cbT]
    by_cases e : gi l k = x
    · rw [if_pos ⟨by omega, by omega⟩]
      have hz : cbT l x x k + 1 = 1 ↔ cbT l x x k = 0 := by omega
      rw [hz, iz]
      constructor
      · refine fun h => ⟨k, by omega, e, fun u hu hx => ?_⟩
        by_cases e' : u = k
        · exact e'
        · exact absurd hx (h u (by omega))
      · rintro ⟨v, hv, hx, hu⟩ u hk hxu
        have a := hu u (by omega) hxu
        have b := hu k (by omega) e
        omega
    · rw [if_neg (by omega), ih]
      constructor
      · rintro ⟨v, hv, hx, hu⟩
        refine ⟨v, by omega, hx, fun u hk hxu => ?_⟩
        by_cases e' : u = k
        · subst e'; exact absurd hxu e
        · exact hu u (by omega) hxu
      · rintro ⟨v, hv, hx, hu⟩
        by_cases e' : v = k
        · subst e'; exact absurd hx e
        · exact ⟨v, by omega, hx, fun u hk => hu u (by omega)⟩
theorem alone_cb {c : List Int} {v : Nat} (h : v < c.length) : Alone c v ↔ cbT c (gi c v) (gi c v) c.length = 1 := by
  rw [cbT_one]
  constructor
  · exact fun k => ⟨v, h, rfl, fun u hu e => k.2 u hu e⟩
  · rintro ⟨x, hx, e, k⟩
    have := k v h rfl
    subst this
    exact ⟨h, fun u hu e => k u hu e⟩
/-- All are 0 or 1 exactly if as many as there are are 0 or 1. -/
theorem cbT_01 {l : List Int} : ∀ k, cbT l 0 0 k + cbT l 1 1 k ≤ k ∧ (cbT l 0 0 k + cbT l 1 1 k = k ↔ ∀ u, u < k → 0 ≤ gi l u ∧ gi l u ≤ 1)
  | 0 => by simp [cbT]
  | k + 1 => by
    obtain ⟨i1, i2⟩ := cbT_01 (l := l) k
    simp only [cbT]
    by_cases e0 : gi l k = 0
    · rw [if_pos (show (0 : Int) ≤ gi l k ∧ gi l k ≤ 0 by omega), if_neg (show ¬ ((1 : Int) ≤ gi l k ∧ gi l k ≤ 1) by omega)]
      refine ⟨by omega, ⟨fun h u hu => ?_, fun h => ?_⟩⟩
      · by_cases e' : u = k
        · subst e'; omega
        · exact i2.1 (by omega) u (by omega)
      · have := i2.2 fun u hu => h u (by omega)
        omega
    · by_cases e1 : gi l k = 1
      · rw [if_neg (show ¬ ((0 : Int) ≤ gi l k ∧ gi l k ≤ 0) by omega), if_pos (show (1 : Int) ≤ gi l k ∧ gi l k ≤ 1 by omega)]
        refine ⟨by omega, ⟨fun h u hu => ?_, fun h => ?_⟩⟩
        · by_cases e' : u = k
          · subst e'; omega
          · exact i2.1 (by omega) u (by omega)
        · have := i2.2 fun u hu => h u (by omega)
          omega
      · rw [if_neg (show ¬ ((0 : Int) ≤ gi l k ∧ gi l k ≤ 0) by omega), if_neg (show ¬ ((1 : Int) ≤ gi l k ∧ gi l k ≤ 1) by omega)]
        refine ⟨by omega, ⟨fun h => by omega, fun h => ?_⟩⟩
        have := h k (by omega)
        omega
theorem lead_mid (l : List Int) : LeadOK l ↔ AllIn l 0 1 ∧ cbT l 1 1 l.length = 1 := by
  rw [cbT_one]
  constructor
  · rintro ⟨v, hv, h1, h0⟩
    refine ⟨fun u hu => ?_, v, hv, h1, fun u hu e => ?_⟩
    · by_cases e : u = v
      · subst e; omega
      · have := h0 u hu e; omega
    · by_cases x : u = v
      · exact x
      · have := h0 u hu x; omega
  · rintro ⟨ha, v, hv, h1, hu⟩
    refine ⟨v, hv, h1, fun u hk huv => ?_⟩
    have := ha u hk
    by_cases e : gi l u = 1
    · exact absurd (hu u hk e) huv
    · omega
theorem lead_impl {l : List Int} : LeadOK l ↔ cbT l 1 1 l.length = 1 ∧ (cbT l 0 0 l.length : Int) = (l.length : Int) - 1 := by
  rw [lead_mid]
  obtain ⟨h1, h2⟩ := cbT_01 (l := l) l.length
  constructor
  · rintro ⟨ha, hc⟩
    have := h2.2 ha
    exact ⟨hc, by omega⟩
  · rintro ⟨hc, h0⟩
    exact ⟨h2.1 (by omega), hc⟩
/-- The sum of the first k elements. -/
def smT (l : List Int) : Nat → Int
  | 0 => 0
  | k + 1 => smT l k + gi l k
theorem smT_range {l : List Int} (h : AllIn l 0 99) : ∀ k, k ≤ l.length → 0 ≤ smT l k ∧ smT l k ≤ 99 * (k : Int)
  | 0, _ => by simp [smT]
  | k + 1, hk => by
    have := smT_range h k (by omega)
    have := h k (by omega)
    simp only [smT]
    omega
theorem smT_cb {l : List Int} (h : AllIn l 0 1) : ∀ k, k ≤ l.length → smT l k = (cbT l 1 1 k : Int)
  | 0, _ => rfl
  | k + 1, hk => by
    have ih := smT_cb h k (by omega)
    have := h k (by omega)
    simp only [smT, cbT]
    by_cases e : gi l k = 1
    · rw [if_pos ⟨by omega, by omega⟩, ih]; omega
    · rw [if_neg (by omega), ih]; omega
theorem lead_spec {l : List Int} : LeadOK l ↔ AllIn l 0 1 ∧ smT l l.length = 1 := by
  rw [lead_mid]
  constructor
  · rintro ⟨ha, hc⟩
    exact ⟨ha, by rw [smT_cb ha _ (Nat.le_refl _)]; omega⟩
  · rintro ⟨ha, hc⟩
    rw [smT_cb ha _ (Nat.le_refl _)] at hc
    exact ⟨ha, by omega⟩

/-- The first number below n for which p holds, -1 if there is none. -/
def ixP (p : Nat → Bool) : Nat → Int
  | 0 => -1
  | k + 1 => if ixP p k = -1 then (if p k = true then (k : Int) else -1) else ixP p k
theorem ixP_none {p : Nat → Bool} : ∀ k, (∀ j, j < k → p j = false) → ixP p k = -1
  | 0, _ => rfl
  | k + 1, h => by
    have ih := ixP_none (p := p) k fun j hj => h j (by omega)
    simp only [ixP]
    rw [if_pos ih, if_neg (by rw [h k (by omega)]; simp)]
theorem ixP_hit {p : Nat → Bool} {k : Nat} (h : ∀ j, j < k → p j = false) (hk : p k = true) : ∀ n, k < n → ixP p n = (k : Int)
  | 0, hn => by omega
  | n + 1, hn => by
    simp only [ixP]
    by_cases e : n = k
    · subst e
      rw [if_pos (ixP_none _ h), if_pos hk]
    · have ih := ixP_hit h hk n (by omega)
      rw [if_neg (by omega), ih]
theorem ix_alone (c : List Int) : ixP (fun v => dec (Alone c v)) c.length = alV c := by
  rcases al_cases c with ⟨v, h⟩ | h
  · rw [(al_t h).1, ixP_hit (k := v) (fun j hj => dec_false (h.2 j hj)) (dec_true h.1) _ h.1.1]
  · rw [(al_f h).1, ixP_none _ fun j hj => dec_false (h j hj)]
end Go.Proofs.Ytkpdbceglejbnaa
