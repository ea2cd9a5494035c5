/- Lists with keys: the order of codes, insertion, and the product over equal keys, which is the same for every order of the list. -/
import Derived.Test.YtdoaopeegcakiaaAub
namespace Go.Proofs.Ytdoaopeegcakiaa

/-- Lexicographically before. -/
def before : List Int → List Int → Bool
  | _, [] => false
  | [], _ :: _ => true
  | a :: l, b :: m => if a = b then before l m else decide (a < b)
theorem before_irr : ∀ l : List Int, before l l = false
  | [] => rfl
  | a :: l => by simp only [before, if_pos]; exact before_irr l
theorem before_tri : ∀ l m : List Int, before l m = false → before m l = false → l = m
  | [], [], _, _ => rfl
  | [], b :: m, h, _ => by simp [before] at h
  | a :: l, [], _, h => by simp [before] at h
  | a :: l, b :: m, h, k => by
    simp only [before] at h k
    by_cases e : a = b
    · subst e
      rw [if_pos rfl] at h k
      rw [before_tri l m h k]
    · rw [if_neg e] at h
      rw [if_neg fun x => e x.symm] at k
      have h1 := of_decide_eq_false h
      have h2 := of_decide_eq_false k
      omega
theorem before_trans : ∀ l m p : List Int, before l m = true → before m p = true → before l p = true
  | [], _, [], _, h => by simp [before] at h
  | [], _, c :: p, _, _ => rfl
  | a :: l, [], _, h, _ => by simp [before] at h
  | a :: l, b :: m, [], _, h => by simp [before] at h
  | a :: l, b :: m, c :: p, h, k => by
    simp only [before] at h k ⊢
    by_cases e : a = b
    · subst e
      rw [if_pos rfl] at h
      by_cases e2 : a = c
      · subst e2
        rw [if_pos rfl] at k ⊢
        exact before_trans l m p h k
      · rw [if_neg e2] at k ⊢; exact k
    · rw [if_neg e] at h
      have h1 := of_decide_eq_true h
      by_cases e2 : b = c
      · subst e2
        rw [if_neg e]; exact h
      · rw [if_neg e2] at k
        have h2 := of_decide_eq_true k
        rw [if_neg (by omega : ¬ a = c)]
        exact decide_eq_true (by omega)

section
variable (key : Nat → List Int) (cn : Nat → Nat)
/-- Behind all keys that are not greater. -/
def insR (r : Nat) : List Nat → List Nat
  | [] => [r]
  | a :: l => if before (key r) (key a) = true then r :: a :: l else a :: insR r l
theorem insR_perm (r : Nat) : ∀ l, (insR key r l).Perm (r :: l)
  | [] => List.Perm.refl _
  | a :: l => by
    simp only [insR]
    by_cases h : before (key r) (key a) = true
    · rw [if_pos h]
    · rw [if_neg h]
      exact ((insR_perm r l).cons a).trans (List.Perm.swap r a l)
/-- No key stands behind a greater one. -/
def SortedK (l : List Nat) : Prop := l.Pairwise fun a b => before (key b) (key a) = false
theorem insR_sorted (r : Nat) : ∀ l, SortedK key l → SortedK key (insR key r l)
  | [], _ => by simp [SortedK, insR]
  | a :: l, h => by
    unfold SortedK at h
    obtain ⟨h1, h2⟩ := List.pairwise_cons.1 h
    simp only [insR]
    by_cases hb : before (key r) (key a) = true
    · rw [if_pos hb]
      refine List.pairwise_cons.2 ⟨fun x hx => ?_, h⟩
      cases hx' : before (key x) (key r) with
      | false => rfl
      | true =>
        have t := before_trans _ _ _ hx' hb
        rcases List.mem_cons.1 hx with rfl | hx
        · rw [before_irr] at t; cases t
        · rw [h1 x hx] at t; cases t
    · rw [if_neg hb]
      refine List.pairwise_cons.2 ⟨fun x hx => ?_, insR_sorted r l h2⟩
      rcases List.mem_cons.1 ((insR_perm key r l).mem_iff.1 hx) with rfl | hx
      · simpa using hb
      · exact h1 x hx

/-- The product of the counts and of how many with the same key stand behind. -/
def GG : List Nat → Nat
  | [] => 1
  | r :: l => (l.countP (fun x => decide (key x = key r)) + 1) * cn r * GG l
theorem GG_perm {l m : List Nat} (h : l.Perm m) : GG key cn l = GG key cn m := by
  induction h with
  | nil => rfl
  | cons x h ih => simp only [GG]; rw [ih, h.countP_eq]
  | swap x y l =>
    simp only [GG, List.countP_cons]
    by_cases e : key x = key y
    · have e1 : decide (key x = key y) = true := by simp [e]
      have e2 : decide (key y = key x) = true := by simp [e]
      rw [e1, e2, e]
      simp only [if_pos]
      ac_rfl
    · have e1 : decide (key x = key y) = false := by simp [e]
      have e2 : decide (key y = key x) = false := by simp; exact fun h => e h.symm
      rw [e1, e2]
      simp only [Bool.false_eq_true, if_false, Nat.add_zero]
      ac_rfl
  | trans _ _ h1 h2 => exact h1.trans h2

/-- The number in a row of equal keys. -/
def runK (l : List Nat) : Nat → Nat
  | 0 => 0
  | i + 1 => if 0 < i ∧ key (l.getD (i - 1) 0) ≠ key (l.getD i 0) then 1 else runK l i + 1
def prodK (l : List Nat) : Nat → Nat
  | 0 => 1
  | i + 1 => prodK l i * (runK key l (i + 1) * cn (l.getD i 0))
theorem runK_cnt {l : List Nat} (h : SortedK key l) : ∀ i, i < l.length → runK key l (i + 1) = (l.take i).countP (fun x => decide (key x = key (l.getD i 0))) + 1
  | 0, _ => by simp [runK]
  | i + 1, hi => by
    have ih := runK_cnt h i (by omega)
    have hp := List.pairwise_iff_getElem.1 h
    have gd : ∀ j (hj : j < l.length), l.getD j 0 = l[j] := fun j hj => by simp [List.getD, hj]
    rw [runK, show i + 1 - 1 = i from rfl, List.take_add_one, List.getElem?_eq_getElem (by omega : i < l.length), List.countP_append]
    simp only [Option.toList_some]
    by_cases e : key (l.getD i 0) = key (l.getD (i + 1) 0)
    · rw [if_neg fun h => h.2 e, ih, e]
      rw [gd i (by omega)] at e
      simp [e]
    · rw [if_pos ⟨by omega, e⟩]
      rw [gd i (by omega)] at e
      have z1 : (l.take i).countP (fun x => decide (key x = key (l.getD (i + 1) 0))) = 0 := by
        rw [List.countP_eq_zero]
        intro x hx he
        have he := of_decide_eq_true he
        obtain ⟨j, hj, rfl⟩ := List.getElem_of_mem hx
        have hj' : j < i := by simpa [Nat.min_eq_left (by omega : i ≤ l.length)] using (by simpa using hj : j < min i l.length)
        rw [List.getElem_take] at he
        have a := hp j i (by omega) (by omega) hj'
        have b := hp i (i + 1) (by omega) hi (by omega)
        rw [gd (i + 1) hi] at he e
        rw [he] at a
        exact e (before_tri _ _ a b)
      rw [z1]
      simpa using e
theorem prodK_GG {l : List Nat} (h : SortedK key l) : ∀ i, i ≤ l.length → prodK key cn l i = GG key cn (l.take i).reverse
  | 0, _ => by simp [prodK, GG]
  | i + 1, hi => by
    have gd : l.getD i 0 = l[i] := by simp [List.getD, show i < l.length by omega]
    rw [prodK, prodK_GG h i (by omega), runK_cnt key h i (by omega), List.take_add_one, List.getElem?_eq_getElem (by omega : i < l.length)]
    simp only [Option.toList_some, List.reverse_append, List.reverse_cons, List.reverse_nil, List.nil_append, List.singleton_append, GG, List.countP_reverse, gd]
    ac_rfl
theorem prodK_all {l m : List Nat} (h : SortedK key l) (hp : l.Perm m) : prodK key cn l l.length = GG key cn m := by
  rw [prodK_GG key cn h _ (Nat.le_refl _), List.take_length]
  exact GG_perm key cn ((List.reverse_perm l).trans hp)
theorem prodK_mono {l : List Nat} (hc : ∀ x ∈ l, 1 ≤ cn x) : ∀ i j, i ≤ j → j ≤ l.length → prodK key cn l i ≤ prodK key cn l j := by
  intro i j hij
  induction j with
  | zero => intro _; obtain rfl : i = 0 := by omega
            exact Nat.le_refl _
  | succ j ih =>
    intro hj
    by_cases e : i = j + 1
    · subst e; exact Nat.le_refl _
    · refine Nat.le_trans (ih (by omega) (by omega)) ?_
      rw [prodK]
      have h1 : 1 ≤ cn (l.getD j 0) := hc _ (by simp [List.getD, show j < l.length by omega])
      have h2 : 1 ≤ runK key l (j + 1) := by simp only [runK]; split <;> omega
      exact Nat.le_mul_of_pos_right _ (Nat.mul_pos h2 h1)
end
end Go.Proofs.Ytdoaopeegcakiaa
