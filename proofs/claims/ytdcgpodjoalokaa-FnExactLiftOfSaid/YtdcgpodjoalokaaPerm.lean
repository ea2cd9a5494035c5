/- Permutations: what both nePerm and isPermutation look for; a permutation takes every value. No condition but that the count is that of a list. -/
import Derived.Test.YtdcgpodjoalokaaKd
namespace Go.Proofs.Ytdcgpodjoalokaa
open Go.RowKit

def PermAt (l : List Int) (n : Nat) (i : Nat) : Prop := InB (gi l i) 0 ((n : Int) - 1) ∧ ¬ Has (l.take i) (gi l i)
def PermOK (l : List Int) (n : Nat) : Prop := l.length = n ∧ ∀ i, i < l.length → PermAt l n i

theorem onto_of_inj : ∀ (n : Nat) (f : Nat → Nat), (∀ i, i < n → f i < n) → (∀ i j, i < n → j < n → f i = f j → i = j) → ∀ j, j < n → ∃ i, i < n ∧ f i = j
  | 0, _, _, _, j, hj => absurd hj (by omega)
  | n + 1, f, hf, hinj, j, hj => by
    have hfn := hf n (by omega)
    have ih := onto_of_inj n (fun i => if f i = n then f n else f i) (fun i hi => by
      have h1 := hf i (by omega)
      by_cases e : f i = n
      · simp only [if_pos e]
        by_cases e2 : f n = n
        · have := hinj i n (by omega) (by omega) (by omega); omega
        · omega
      · simp only [if_neg e]; omega) (fun i k hi hk e => by
      by_cases e1 : f i = n
      · by_cases e2 : f k = n
        · exact hinj i k (by omega) (by omega) (by omega)
        · simp only [if_pos e1, if_neg e2] at e
          have := hinj n k (by omega) (by omega) e; omega
      · by_cases e2 : f k = n
        · simp only [if_neg e1, if_pos e2] at e
          have := hinj i n (by omega) (by omega) e; omega
        · simp only [if_neg e1, if_neg e2] at e
          exact hinj i k (by omega) (by omega) e)
    by_cases hja : j = f n
    · exact ⟨n, by omega, hja.symm⟩
    · by_cases hjn : j = n
      · obtain ⟨i, hi, e⟩ := ih (f n) (by omega)
        by_cases e1 : f i = n
        · exact ⟨i, by omega, by omega⟩
        · simp only [if_neg e1] at e
          have := hinj i n (by omega) (by omega) e; omega
      · obtain ⟨i, hi, e⟩ := ih j (by omega)
        by_cases e1 : f i = n
        · simp only [if_pos e1] at e; omega
        · simp only [if_neg e1] at e; exact ⟨i, by omega, e⟩

theorem perm_range {l : List Int} {n : Nat} (h : PermOK l n) {i : Nat} (hi : i < n) : ∃ k : Nat, gi l i = k ∧ k < n := by
  obtain ⟨⟨h1, h2⟩, _⟩ := h.2 i (by have := h.1; omega)
  exact ⟨(gi l i).toNat, by omega, by omega⟩
theorem perm_inj {l : List Int} {n : Nat} (h : PermOK l n) {i j : Nat} (hi : i < n) (hj : j < n) (e : gi l i = gi l j) : i = j := by
  have hl := h.1
  by_cases hij : i < j
  · exact absurd ⟨i, by simp; omega, by rw [gi_take hij]; exact e⟩ (h.2 j (by omega)).2
  · by_cases hji : j < i
    · exact absurd ⟨j, by simp; omega, by rw [gi_take hji]; exact e.symm⟩ (h.2 i (by omega)).2
    · omega
theorem perm_onto {l : List Int} {n : Nat} (h : PermOK l n) {k : Nat} (hk : k < n) : ∃ i, i < n ∧ gi l i = k := by
  obtain ⟨i, hi, e⟩ := onto_of_inj n (fun i => (gi l i).toNat) (fun i hi => by obtain ⟨k, e, hk⟩ := perm_range h hi; show (gi l i).toNat < n; omega) (fun i j hi hj e => by
    obtain ⟨a, ea, _⟩ := perm_range h hi
    obtain ⟨b, eb, _⟩ := perm_range h hj
    have e' : (gi l i).toNat = (gi l j).toNat := e
    exact perm_inj h hi hj (by omega)) k hk
  obtain ⟨a, ea, _⟩ := perm_range h hi
  have e' : (gi l i).toNat = k := e
  exact ⟨i, hi, by omega⟩

theorem Try.info4 : (Try.prog.info? 4).map (fun i => (i.zero, i.size, i.bytes)) = some (some (.bool false), 1, 1) := by kernel_rfl
/-- Which numbers the first k ones of l name. -/
noncomputable def seenRow (l : List Int) (k : Nat) (j : Nat) : Value := .bool (dec (Has (l.take k) j))
theorem seen_step {w : World} {b : Nat} {l : List Int} {k n y : Nat} (hk : k < l.length) (hy : gi l k = y) (h : w.rowIs b 4 n (seenRow l k)) : (w.setCell ⟨b, y, none⟩ (.bool true)).rowIs b 4 n (seenRow l (k + 1)) :=
  (h.set y _).congr fun i _ => by
    unfold seenRow
    have hlt : (l.take k).length = k := by simp; omega
    have hlt1 : (l.take (k + 1)).length = k + 1 := by simp; omega
    by_cases e : i = y
    · subst e
      rw [if_pos rfl, dec_true]
      exact ⟨k, by omega, by rw [gi_take (by omega)]; exact hy⟩
    · rw [if_neg e]
      congr 1
      refine dec_congr ⟨fun ⟨j, h1, h2⟩ => ⟨j, by omega, ?_⟩, fun ⟨j, h1, h2⟩ => ⟨j, ?_, ?_⟩⟩
      · rw [gi_take (by omega)]; rw [gi_take (by omega)] at h2; exact h2
      · by_cases ej : j = k
        · subst ej; rw [gi_take (by omega)] at h2; omega
        · omega
      · rw [gi_take (by omega)] at h2
        by_cases ej : j = k
        · subst ej; omega
        · rw [gi_take (by omega)]; exact h2

end Go.Proofs.Ytdcgpodjoalokaa
