/- Sorted and compacted: the plain mathematics. -/
import Derived.Test.YtdcgpodjoalokaaMed
import Derived.Lib.SlicesCompact
namespace Go.Proofs.Ytdcgpodjoalokaa
open Go.RowKit

theorem bang_gi {zs : List Int} {j : Nat} (h : j < zs.length) : zs.toArray[j]! = gi zs j := by simp [gi, List.getD, h, getElem!_pos]
theorem compact_upto {zs : List Int} (hs : ∀ i j, i ≤ j → j < zs.length → gi zs i ≤ gi zs j) : ∀ m, m ≤ zs.length → (Lib.compactUpTo zs.toArray m).Pairwise (· < ·) ∧ ∀ x, x ∈ Lib.compactUpTo zs.toArray m ↔ ∃ j, j < m ∧ x = gi zs j
  | 0, _ => by
    refine ⟨by simp [Lib.compactUpTo], fun x => ?_⟩
    simp [Lib.compactUpTo]
  | m + 1, hm => by
    obtain ⟨h1, h2⟩ := compact_upto hs m (by omega)
    rw [Lib.compactUpTo_succ]
    have hb := bang_gi (zs := zs) (j := m) (by omega)
    by_cases hk : Lib.keeps zs.toArray m = true
    · rw [if_pos hk, hb]
      refine ⟨List.pairwise_append.2 ⟨h1, by simp, fun a ha b hb' => ?_⟩, fun x => ?_⟩
      · obtain rfl := List.mem_singleton.1 hb'
        obtain ⟨j, hj, rfl⟩ := (h2 a).1 ha
        simp only [Lib.keeps, decide_eq_true_eq] at hk
        rcases hk with hk | hk
        · omega
        · rw [hb, bang_gi (by omega)] at hk
          have := hs j (m - 1) (by omega) (by omega)
          have := hs (m - 1) m (by omega) (by omega)
          omega
      · rw [List.mem_append, h2 x, List.mem_singleton]
        constructor
        · rintro (⟨j, hj, e⟩ | e)
          · exact ⟨j, by omega, e⟩
          · exact ⟨m, by omega, e⟩
        · rintro ⟨j, hj, e⟩
          by_cases he : j = m
          · subst he; exact .inr e
          · exact .inl ⟨j, by omega, e⟩
    · rw [if_neg hk, List.append_nil]
      refine ⟨h1, fun x => ?_⟩
      rw [h2 x]
      simp only [Lib.keeps, decide_eq_true_eq, not_or, Decidable.not_not] at hk
      obtain ⟨hk1, hk2⟩ := hk
      rw [hb, bang_gi (by omega)] at hk2
      constructor
      · rintro ⟨j, hj, e⟩
        exact ⟨j, by omega, e⟩
      · rintro ⟨j, hj, e⟩
        by_cases he : j = m
        · subst he; exact ⟨j - 1, by omega, by rw [e, hk2]⟩
        · exact ⟨j, by omega, e⟩
/-- What the program hands back. -/
def sortedL (A : List Int) : List Int := Lib.compact (A.mergeSort fun x y => decide (x ≤ y))
theorem sorted_gi (A : List Int) : ∀ i j, i ≤ j → j < (A.mergeSort fun x y => decide (x ≤ y)).length → gi (A.mergeSort fun x y => decide (x ≤ y)) i ≤ gi (A.mergeSort fun x y => decide (x ≤ y)) j := by
  intro i j hij hj
  have hp := List.pairwise_mergeSort (le := fun x y : Int => decide (x ≤ y)) (fun a b c h1 h2 => by simp at *; omega) (fun a b => by simp; omega) A
  by_cases e : i = j
  · subst e; exact Int.le_refl _
  · have := List.pairwise_iff_getElem.1 hp i j (by omega) hj (by omega)
    have h1 : i < (A.mergeSort fun x y => decide (x ≤ y)).length := by omega
    simp only [gi, List.getD, List.getElem?_eq_getElem h1, List.getElem?_eq_getElem hj, Option.getD_some]
    simpa using this
theorem sortedL_incr (A : List Int) : (sortedL A).Pairwise (· < ·) := (compact_upto (sorted_gi A) _ (Nat.le_refl _)).1
theorem mem_sortedL {A : List Int} {x : Int} : x ∈ sortedL A ↔ x ∈ A := by
  have h := (compact_upto (sorted_gi A) _ (Nat.le_refl _)).2 x
  rw [show x ∈ sortedL A ↔ _ from h]
  rw [← (List.mergeSort_perm A fun x y => decide (x ≤ y)).mem_iff]
  exact ⟨fun ⟨j, hj, e⟩ => has_mem.1 ⟨j, hj, e.symm⟩, fun hx => let ⟨j, hj, e⟩ := has_mem.2 hx; ⟨j, hj, e.symm⟩⟩
theorem sorted_reach {M : Mach} : sortedL (roundsL M (startAll M) M.sts.toNat) = reachL M := by
  obtain ⟨h1, h2⟩ := foldl_put (roundsL M (startAll M) M.sts.toNat) [] List.Pairwise.nil
  refine incr_eq (sortedL_incr _) h1 fun x => ?_
  rw [mem_sortedL, show x ∈ reachL M ↔ _ from h2 x]
  simp
end Go.Proofs.Ytdcgpodjoalokaa
