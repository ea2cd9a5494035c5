/- Ranks of numbers: how many are less, and where they stand in the list put in order. Plain mathematics. -/
import Derived.Test.YtkpdbceglejbnaaWi
namespace Go.Proofs.Ytkpdbceglejbnaa
open Go.RowKit

/-- How many numbers of the list are less than x. -/
def lessC (l : List Int) (x : Int) : Nat := l.countP fun y => decide (y < x)
def rankL (l : List Int) : List Int := l.map fun x => 1 + (lessC l x : Int)
theorem rankL_len (l : List Int) : (rankL l).length = l.length := by simp [rankL]
theorem gi_rank {l : List Int} {i : Nat} (h : i < l.length) : gi (rankL l) i = 1 + (lessC l (gi l i) : Int) := by
  simp [rankL, gi, h]
theorem lessC_le (l : List Int) (x : Int) : lessC l x ≤ l.length := List.countP_le_length
theorem lessC_lt {l : List Int} {x : Int} (h : x ∈ l) : lessC l x < l.length := by
  obtain ⟨a, b, rfl⟩ := List.append_of_mem h
  have h1 : List.countP (fun y => decide (y < x)) a ≤ a.length := List.countP_le_length
  have h2 : List.countP (fun y => decide (y < x)) b ≤ b.length := List.countP_le_length
  simp [lessC, List.countP_append]
  omega
theorem lessC_mono (l : List Int) {x y : Int} (h : x < y) (hx : x ∈ l) : lessC l x < lessC l y := by
  obtain ⟨a, b, rfl⟩ := List.append_of_mem hx
  have m : ∀ c : List Int, List.countP (fun z => decide (z < x)) c ≤ List.countP (fun z => decide (z < y)) c := fun c => List.countP_mono_left fun z _ hz => by simp at hz ⊢; omega
  have h1 := m a
  have h2 := m b
  simp [lessC, List.countP_append, h]
  omega
theorem lessC_perm {l s : List Int} (h : l.Perm s) (x : Int) : lessC l x = lessC s x := h.countP_eq _

/-- The first number below n for which p holds, -1 if there is none. -/
def ixR (p : Nat → Bool) : Nat → Int
  | 0 => -1
  | k + 1 => if ixR p k = -1 then (if p k = true then (k : Int) else -1) else ixR p k
theorem ixR_none {p : Nat → Bool} : ∀ k, (∀ j, j < k → p j = false) → ixR p k = -1
  | 0, _ => rfl
  | k + 1, h => by
    have ih := ixR_none (p := p) k fun j hj => h j (by omega)
    simp only [ixR]
    rw [if_pos ih, if_neg (by rw [h k (by omega)]; simp)]
theorem ixR_hit {p : Nat → Bool} {k : Nat} (h : ∀ j, j < k → p j = false) (hk : p k = true) : ∀ n, k < n → ixR p n = (k : Int)
  | 0, hn => by omega
  | n + 1, hn => by
    simp only [ixR]
    by_cases e : n = k
    · subst e
      rw [if_pos (ixR_none _ h), if_pos hk]
    · have ih := ixR_hit h hk n (by omega)
      rw [if_neg (by omega), ih]

/-- In a list in order, the first place of x is the number of those that are less. -/
theorem ix_sorted {s : List Int} (hs : s.Pairwise (· ≤ ·)) {x : Int} (hx : x ∈ s) : ixR (fun i => gi s i == x) s.length = (lessC s x : Int) := by
  have key : ∀ (s : List Int), s.Pairwise (· ≤ ·) → x ∈ s → lessC s x < s.length ∧ (∀ j, j < lessC s x → gi s j < x) ∧ gi s (lessC s x) = x := by
    intro s
    induction s with
    | nil => intro _ h; cases h
    | cons a t ih =>
      intro hp hm
      obtain ⟨ha, ht⟩ := List.pairwise_cons.1 hp
      by_cases e : a < x
      · have hm' : x ∈ t := by
          rcases List.mem_cons.1 hm with rfl | h
          · omega
          · exact h
        obtain ⟨i0, i1, i2⟩ := ih ht hm'
        have hc : lessC (a :: t) x = lessC t x + 1 := by simp [lessC, e]
        rw [hc]
        refine ⟨by simp; exact i0, fun j hj => ?_, ?_⟩
        · match j with
          | 0 => simpa [gi] using e
          | j + 1 => have := i1 j (by omega); simpa [gi] using this
        · simpa [gi] using i2
      · have hall : ∀ y ∈ t, ¬ y < x := fun y hy => by have := ha y hy; omega
        have hc : lessC (a :: t) x = 0 := by
          simp only [lessC, List.countP_eq_zero]
          intro y hy
          rcases List.mem_cons.1 hy with rfl | h
          · simp; omega
          · have := hall y h; simp; omega
        have hax : a = x := by
          rcases List.mem_cons.1 hm with h | h
          · exact h.symm
          · have := ha x h; omega
        rw [hc]
        exact ⟨by simp, fun j hj => absurd hj (by omega), by simpa [gi] using hax⟩
  obtain ⟨h1, h2, h3⟩ := key s hs hx
  exact ixR_hit (fun j hj => by have := h2 j hj; simp; omega) (by simp [h3]) _ h1

theorem sortI_pair (l : List Int) : (l.mergeSort fun x y => decide (x ≤ y)).Pairwise (· ≤ ·) := by
  have h := List.pairwise_mergeSort (le := fun (x y : Int) => decide (x ≤ y)) (by intro a b c h1 h2; simp at h1 h2 ⊢; omega) (by intro a b; simp; omega) l
  exact h.imp fun h => by simpa using h
theorem gi_memR {l : List Int} {i : Nat} (h : i < l.length) : gi l i ∈ l := by
  have : gi l i = l[i] := by simp [gi, h]
  rw [this]; exact List.getElem_mem h
theorem ix_rank {l : List Int} {i : Nat} (h : i < l.length) : ixR (fun j => gi (l.mergeSort fun x y => decide (x ≤ y)) j == gi l i) l.length + 1 = gi (rankL l) i := by
  have hp := List.mergeSort_perm l (fun x y => decide (x ≤ y))
  have hx : gi l i ∈ l.mergeSort fun x y => decide (x ≤ y) := hp.mem_iff.2 (gi_memR h)
  have k := ix_sorted (sortI_pair l) hx
  rw [hp.length_eq] at k
  rw [k, gi_rank h, lessC_perm hp]; omega

/-- The inner loop: the rank after k numbers. -/
theorem lessC_succ (l : List Int) (x : Int) {k : Nat} (h : k < l.length) : lessC (l.take (k + 1)) x = lessC (l.take k) x + (if gi l k < x then 1 else 0) := by
  have : gi l k = l[k] := by simp [gi, h]
  rw [this]
  have e : l.take (k + 1) = l.take k ++ [l[k]] := (List.take_append_getElem h).symm
  unfold lessC
  rw [e, List.countP_append]
  by_cases c : l[k] < x <;> simp [c]

def RankB (N : Net) : Prop := Good N ∧ 0 < N.ids.length
noncomputable def rankAns (N : Net) : Net := if dec (RankB N) = true then withIds N (rankL N.ids) else zeroNet
theorem rankAns_t {N : Net} (h : RankB N) : rankAns N = withIds N (rankL N.ids) := by simp [rankAns, dec_true h]
theorem rankAns_f {N : Net} (h : ¬ (RankB N)) : rankAns N = zeroNet := by simp [rankAns, dec_false h]
theorem rank_ok {N : Net} (h : RankB N) : IdsOK (rankL N.ids) N.ends.length := by
  have hI := h.1.2.2.1
  have hn := h.1.1
  have hp := h.2
  refine ⟨.inr (by have := hI.1; rw [rankL_len]; omega), fun i hi => ?_⟩
  rw [rankL_len] at hi
  have hlt := lessC_lt (gi_memR hi)
  refine ⟨?_, ?_⟩
  · rw [gi_rank hi]
    unfold InB
    have := hI.1
    omega
  · rintro ⟨j, hj, e⟩
    simp only [List.length_take, rankL_len] at hj
    have e1 : gi ((rankL N.ids).take i) j = gi (rankL N.ids) j := by simp [gi, show j < i by omega]
    rw [e1, gi_rank hi, gi_rank (show j < N.ids.length by omega)] at e
    have hne : gi N.ids j ≠ gi N.ids i := fun hq => (hI.2 i hi).2 ⟨j, by simp; omega, by rw [← hq]; simp [gi, show j < i by omega]⟩
    rcases Int.lt_or_lt_of_ne hne with q | q
    · have := lessC_mono N.ids q (gi_memR (by omega)); omega
    · have := lessC_mono N.ids q (gi_memR hi); omega
theorem rankAns_small (N : Net) : (rankAns N).small := by
  by_cases h : RankB N
  · rw [rankAns_t h]; exact good_small ((ids_good h.1).2 (rank_ok h))
  · rw [rankAns_f h]; exact zero_small
theorem ids_rank {N : Net} (h : RankB N) : idsAns N (rankL N.ids) = rankAns N := by rw [rankAns_t h, idsAns_t ⟨h.1, rank_ok h⟩]
end Go.Proofs.Ytkpdbceglejbnaa
