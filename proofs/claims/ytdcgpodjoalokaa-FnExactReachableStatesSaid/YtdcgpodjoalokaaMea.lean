/- ReachableStates: the plain mathematics. -/
import Derived.Test.YtdcgpodjoalokaaMc
namespace Go.Proofs.Ytdcgpodjoalokaa
open Go.RowKit

/-- A clause is looked at: its next state is appended where its state is there and has no output. -/
def addC (M : Mach) (l : List Int) (c : Cl) : List Int := if c.st ∈ l ∧ gi M.out c.st.toNat = -1 then l ++ [c.nx] else l
def roundTo (M : Mach) (l : List Int) : Nat → List Int
  | 0 => l
  | k + 1 => addC M (roundTo M l k) (gc M.cls k)
def roundL (M : Mach) (l : List Int) : List Int := roundTo M l M.cls.length
def roundsL (M : Mach) (l : List Int) : Nat → List Int
  | 0 => l
  | p + 1 => roundL M (roundsL M l p)
def ClosedL (M : Mach) (l : List Int) : Prop := ∀ k, k < M.cls.length → (gc M.cls k).st ∈ l → gi M.out (gc M.cls k).st.toNat = -1 → (gc M.cls k).nx ∈ l
theorem mem_addC {M : Mach} {l : List Int} {c : Cl} {x : Int} (h : x ∈ l) : x ∈ addC M l c := by
  unfold addC
  split
  · simp [h]
  · exact h
theorem mem_roundTo {M : Mach} {l : List Int} {x : Int} (h : x ∈ l) : ∀ k, x ∈ roundTo M l k
  | 0 => h
  | k + 1 => mem_addC (mem_roundTo h k)
theorem mem_roundsL {M : Mach} {l : List Int} {x : Int} (h : x ∈ l) : ∀ p, x ∈ roundsL M l p
  | 0 => h
  | p + 1 => mem_roundTo (mem_roundsL h p) _
/-- What is within a closed list stays within it. -/
theorem roundTo_in {M : Mach} {l S : List Int} (hS : ClosedL M S) (h : ∀ x ∈ l, x ∈ S) : ∀ k, k ≤ M.cls.length → ∀ x ∈ roundTo M l k, x ∈ S
  | 0, _ => h
  | k + 1, hk => by
    intro x hx
    have ih := roundTo_in hS h k (by omega)
    simp only [roundTo] at hx
    unfold addC at hx
    split at hx
    · rename_i hc
      rcases List.mem_append.1 hx with hx | hx
      · exact ih x hx
      · obtain rfl := List.mem_singleton.1 hx
        exact hS k (by omega) (ih _ hc.1) hc.2
    · exact ih x hx
theorem roundsL_in {M : Mach} {l S : List Int} (hS : ClosedL M S) (h : ∀ x ∈ l, x ∈ S) : ∀ p, ∀ x ∈ roundsL M l p, x ∈ S
  | 0 => h
  | p + 1 => roundTo_in hS (roundsL_in hS h p) _ (Nat.le_refl _)
theorem round_gains {M : Mach} {l : List Int} (h : ¬ ClosedL M l) : ∃ k, k < M.cls.length ∧ (gc M.cls k).nx ∈ roundL M l ∧ (gc M.cls k).nx ∉ l := by
  apply Classical.byContradiction
  intro hn
  refine h fun k hk h1 h2 => ?_
  apply Classical.byContradiction
  intro hx
  refine hn ⟨k, hk, ?_, hx⟩
  have h3 : (gc M.cls k).nx ∈ roundTo M l (k + 1) := by
    show _ ∈ addC M (roundTo M l k) (gc M.cls k)
    unfold addC
    rw [if_pos ⟨mem_roundTo h1 k, h2⟩]
    simp
  have h4 : ∀ j, (gc M.cls k).nx ∈ roundTo M l (k + 1 + j) := fun j => by
    induction j with
    | zero => exact h3
    | succ j ih => exact mem_addC ih
  have h5 := h4 (M.cls.length - (k + 1))
  rw [show k + 1 + (M.cls.length - (k + 1)) = M.cls.length by omega] at h5
  exact h5
/-- How many states below n a list has. -/
def cntL (n : Nat) (l : List Int) : Nat := ((List.range n).filter fun (s : Nat) => decide ((s : Int) ∈ l)).length
theorem cntL_le (n : Nat) (l : List Int) : cntL n l ≤ n := by
  have := List.length_filter_le (fun s : Nat => decide ((s : Int) ∈ l)) (List.range n)
  simpa [cntL] using this
theorem cntL_succ (n : Nat) (l : List Int) : cntL (n + 1) l = cntL n l + if (n : Int) ∈ l then 1 else 0 := by
  unfold cntL
  rw [List.range_succ, List.filter_append, List.length_append]
  by_cases h : (n : Int) ∈ l <;> simp [h]
theorem cntL_mono {l m : List Int} (h : ∀ x ∈ l, x ∈ m) : ∀ n, cntL n l ≤ cntL n m
  | 0 => by simp [cntL]
  | n + 1 => by
    have := cntL_mono h n
    rw [cntL_succ, cntL_succ]
    by_cases h1 : (n : Int) ∈ l
    · rw [if_pos h1, if_pos (h _ h1)]; omega
    · rw [if_neg h1]; split <;> omega
theorem cntL_lt {l m : List Int} (h : ∀ x ∈ l, x ∈ m) {s : Nat} (h1 : (s : Int) ∈ m) (h2 : (s : Int) ∉ l) : ∀ n, s < n → cntL n l < cntL n m
  | 0, hn => by omega
  | n + 1, hn => by
    rw [cntL_succ, cntL_succ]
    by_cases e : s = n
    · subst e
      have := cntL_mono h s
      rw [if_neg h2, if_pos h1]; omega
    · have := cntL_lt h h1 h2 n (by omega)
      by_cases h3 : (n : Int) ∈ l
      · rw [if_pos h3, if_pos (h _ h3)]; omega
      · rw [if_neg h3]; split <;> omega
theorem closed_round {M : Mach} {l : List Int} (h : ClosedL M l) : ClosedL M (roundL M l) := fun k hk h1 h2 =>
  mem_roundTo (h k hk (roundTo_in h (fun _ hx => hx) _ (Nat.le_refl _) _ h1) h2) _
/-- After as many rounds as there are states nothing new is reached. -/
theorem rounds_closed {M : Mach} {l : List Int} {n : Nat} (hn : ∀ k, k < M.cls.length → 0 ≤ (gc M.cls k).nx ∧ (gc M.cls k).nx < (n : Int)) {s : Nat} (hs : (s : Int) ∈ l) (hsn : s < n) : ClosedL M (roundsL M l n) := by
  have key : ∀ p, ClosedL M (roundsL M l p) ∨ p + 1 ≤ cntL n (roundsL M l p) := by
    intro p
    induction p with
    | zero =>
      right
      have := cntL_lt (l := []) (m := l) (by simp) hs (by simp) n hsn
      show 0 + 1 ≤ cntL n l
      omega
    | succ p ih =>
      by_cases hc : ClosedL M (roundsL M l p)
      · exact .inl (closed_round hc)
      · obtain ⟨k, hk, h1, h2⟩ := round_gains hc
        obtain ⟨z, hz⟩ := Int.eq_ofNat_of_zero_le (hn k hk).1
        have hz2 : z < n := by have := (hn k hk).2; omega
        rw [hz] at h1 h2
        have := cntL_lt (l := roundsL M l p) (m := roundsL M l (p + 1)) (fun x hx => mem_roundTo hx _) h1 h2 n hz2
        rcases ih with ih | ih
        · exact (hc ih).elim
        · right; omega
  rcases key n with h | h
  · exact h
  · have := cntL_le n (roundsL M l n)
    omega
/-- Two closed lists that have the starts, each the least: the same members. -/
theorem least_same {M : Mach} {l A B : List Int} (hA : ClosedL M A) (hlA : ∀ x ∈ l, x ∈ A) (hB : ClosedL M B) (hlB : ∀ x ∈ l, x ∈ B) (mA : ∀ S, ClosedL M S → (∀ x ∈ l, x ∈ S) → ∀ x ∈ A, x ∈ S) (mB : ∀ S, ClosedL M S → (∀ x ∈ l, x ∈ S) → ∀ x ∈ B, x ∈ S) (x : Int) : x ∈ A ↔ x ∈ B :=
  ⟨mA B hB hlB x, mB A hA hlA x⟩
/-- Increasing lists with the same members are the same. -/
theorem incr_eq : ∀ {a b : List Int}, a.Pairwise (· < ·) → b.Pairwise (· < ·) → (∀ x, x ∈ a ↔ x ∈ b) → a = b
  | [], [], _, _, _ => rfl
  | [], y :: b, _, _, h => by have := (h y).2 (by simp); simp at this
  | x :: a, [], _, _, h => by have := (h x).1 (by simp); simp at this
  | x :: a, y :: b, ha, hb, h => by
    obtain ⟨h1, h2⟩ := List.pairwise_cons.1 ha
    obtain ⟨h3, h4⟩ := List.pairwise_cons.1 hb
    have e : x = y := by
      rcases List.mem_cons.1 ((h x).1 (by simp)) with e | e
      · exact e
      · rcases List.mem_cons.1 ((h y).2 (by simp)) with e2 | e2
        · exact e2.symm
        · have := h1 y e2; have := h3 x e; omega
    subst e
    have : a = b := incr_eq h2 h4 fun z => by
      constructor
      · intro hz
        rcases List.mem_cons.1 ((h z).1 (by simp [hz])) with e | e
        · subst e; have := h1 _ hz; omega
        · exact e
      · intro hz
        rcases List.mem_cons.1 ((h z).2 (by simp [hz])) with e | e
        · subst e; have := h3 _ hz; omega
        · exact e
    rw [this]
end Go.Proofs.Ytdcgpodjoalokaa
