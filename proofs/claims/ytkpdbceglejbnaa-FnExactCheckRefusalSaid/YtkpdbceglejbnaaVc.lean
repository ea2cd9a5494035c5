/- Classes by an equivalence: numbered in the order of their least elements; finer ones; the greatest element of a list. -/
import Derived.Test.YtkpdbceglejbnaaKa
namespace Go.Proofs.Ytkpdbceglejbnaa

/-- The least number below v that same joins with v, or v itself. -/
def firstOf (same : Nat → Nat → Bool) (v : Nat) : Nat := ((List.range v).find? fun u => same u v).getD v

theorem firstOf_eq {same : Nat → Nat → Bool} {v f : Nat} (h : f ≤ v) (h1 : ∀ u, u < f → same u v = false) (h2 : f < v → same f v = true) : firstOf same v = f := by
  unfold firstOf
  by_cases hf : f < v
  · have : (List.range v).find? (fun u => same u v) = some f := by
      rw [List.find?_range_eq_some]
      exact ⟨by simpa using h2 hf, List.mem_range.2 hf, fun j hj => by simp [h1 j hj]⟩
    rw [this]; rfl
  · have : (List.range v).find? (fun u => same u v) = none := by
      rw [List.find?_range_eq_none]
      intro u hu
      simp [h1 u (by omega)]
    rw [this]; simp; omega

theorem firstOf_spec (same : Nat → Nat → Bool) (v : Nat) : firstOf same v ≤ v ∧ (∀ u, u < firstOf same v → same u v = false) ∧ (firstOf same v < v → same (firstOf same v) v = true) := by
  unfold firstOf
  rcases h : (List.range v).find? (fun u => same u v) with _ | f
  · rw [List.find?_range_eq_none] at h
    refine ⟨Nat.le_refl _, fun u hu => ?_, fun hh => absurd hh (by simp)⟩
    have := h u hu
    simpa using this
  · rw [List.find?_range_eq_some] at h
    obtain ⟨h1, h2, h3⟩ := h
    have := List.mem_range.1 h2
    exact ⟨by simp; omega, fun u hu => by have := h3 u hu; simpa using this, fun _ => h1⟩

/-- The numbers of the classes of 0, .., v - 1, and how many classes there are. -/
def numTo (same : Nat → Nat → Bool) : Nat → List Int × Nat
  | 0 => ([], 0)
  | v + 1 => if firstOf same v = v then ((numTo same v).1 ++ [((numTo same v).2 : Int)], (numTo same v).2 + 1) else ((numTo same v).1 ++ [gi (numTo same v).1 (firstOf same v)], (numTo same v).2)
def num (same : Nat → Nat → Bool) (n : Nat) : List Int := (numTo same n).1
def cnt (same : Nat → Nat → Bool) (n : Nat) : Nat := (numTo same n).2

theorem num_len (same : Nat → Nat → Bool) : ∀ n, (num same n).length = n
  | 0 => rfl
  | n + 1 => by
    have := num_len same n
    unfold num at this ⊢
    rw [numTo]
    split <;> simp [this]

theorem gi_app (l m : List Int) (i : Nat) : gi (l ++ m) i = if i < l.length then gi l i else gi m (i - l.length) := by
  unfold gi
  by_cases h : i < l.length
  · simp [h, List.getD, List.getElem?_append_left h]
  · simp [h, List.getD, List.getElem?_append_right (Nat.le_of_not_lt h)]

theorem num_succ_rep {same : Nat → Nat → Bool} {n : Nat} (h : firstOf same n = n) : num same (n + 1) = num same n ++ [(cnt same n : Int)] ∧ cnt same (n + 1) = cnt same n + 1 := by
  unfold num cnt; rw [numTo, if_pos h]; exact ⟨rfl, rfl⟩
theorem num_succ_old {same : Nat → Nat → Bool} {n : Nat} (h : firstOf same n ≠ n) : num same (n + 1) = num same n ++ [gi (num same n) (firstOf same n)] ∧ cnt same (n + 1) = cnt same n := by
  unfold num cnt; rw [numTo, if_neg h]; exact ⟨rfl, rfl⟩

theorem num_old {same : Nat → Nat → Bool} {n u : Nat} (h : u < n) : gi (num same (n + 1)) u = gi (num same n) u := by
  by_cases e : firstOf same n = n
  · rw [(num_succ_rep e).1, gi_app, if_pos (by rw [num_len]; exact h)]
  · rw [(num_succ_old e).1, gi_app, if_pos (by rw [num_len]; exact h)]

theorem num_at {same : Nat → Nat → Bool} {u : Nat} : ∀ {n : Nat}, u < n → gi (num same n) u = gi (num same (u + 1)) u
  | 0, h => absurd h (by omega)
  | n + 1, h => by
    by_cases e : u = n
    · subst e; rfl
    · rw [num_old (by omega)]; exact num_at (by omega)

theorem num_congr {same same' : Nat → Nat → Bool} : ∀ {n : Nat}, (∀ u v, u < v → v < n → same u v = same' u v) → numTo same n = numTo same' n
  | 0, _ => rfl
  | n + 1, h => by
    have ih := num_congr (n := n) fun u v hu hv => h u v hu (by omega)
    have hf : firstOf same n = firstOf same' n := by
      obtain ⟨a, b, c⟩ := firstOf_spec same' n
      exact firstOf_eq a (fun u hu => by rw [h u n (by omega) (by omega)]; exact b u hu) (fun hh => by rw [h _ n hh (by omega)]; exact c hh)
    rw [numTo, numTo, ih, hf]

/-- What a relation must be. -/
structure Equ (same : Nat → Nat → Bool) (n : Nat) : Prop where
  refl : ∀ v, v < n → same v v = true
  symm : ∀ u v, u < n → v < n → same u v = true → same v u = true
  trans : ∀ u v x, u < n → v < n → x < n → same u v = true → same v x = true → same u x = true

theorem first_like {same : Nat → Nat → Bool} {n v : Nat} (h : Equ same n) (hv : v < n) : same (firstOf same v) v = true := by
  obtain ⟨a, _, c⟩ := firstOf_spec same v
  by_cases e : firstOf same v < v
  · exact c e
  · have : firstOf same v = v := by omega
    rw [this]; exact h.refl v hv

theorem first_idem {same : Nat → Nat → Bool} {n v : Nat} (h : Equ same n) (hv : v < n) : firstOf same (firstOf same v) = firstOf same v := by
  obtain ⟨a, b, c⟩ := firstOf_spec same v
  refine firstOf_eq (Nat.le_refl _) (fun u hu => ?_) (fun hh => absurd hh (by omega))
  rcases hs : same u (firstOf same v) with _ | _
  · rfl
  · have := h.trans u _ v (by omega) (by omega) hv hs (first_like h hv)
    rw [b u hu] at this; exact absurd this (by simp)

theorem first_same {same : Nat → Nat → Bool} {n u v : Nat} (h : Equ same n) (hu : u < n) (hv : v < n) : firstOf same u = firstOf same v ↔ same u v = true := by
  have key : ∀ u v, u < n → v < n → same u v = true → firstOf same u ≤ firstOf same v := fun u v hu hv hs => by
    obtain ⟨a, b, c⟩ := firstOf_spec same u
    obtain ⟨a', b', c'⟩ := firstOf_spec same v
    rcases Nat.lt_or_ge (firstOf same v) (firstOf same u) with hlt | hge
    · have h1 := h.trans _ v u (by omega) hv hu (first_like h hv) (h.symm _ _ hu hv hs)
      rw [b _ hlt] at h1; exact absurd h1 (by simp)
    · exact hge
  constructor
  · intro e
    have hl := (firstOf_spec same u).1
    have h1 := first_like h hu
    have h2 := first_like h hv
    rw [← e] at h2
    exact h.trans _ _ _ hu (by omega) hv (h.symm _ _ (by omega) hu h1) h2
  · intro hs
    exact Nat.le_antisymm (key u v hu hv hs) (key v u hv hu (h.symm _ _ hu hv hs))

theorem cnt_mono {same : Nat → Nat → Bool} {m : Nat} : ∀ {n : Nat}, m ≤ n → cnt same m ≤ cnt same n
  | 0, h => by have : m = 0 := by omega
               subst this; exact Nat.le_refl _
  | n + 1, h => by
    by_cases e : m = n + 1
    · subst e; exact Nat.le_refl _
    · have := cnt_mono (same := same) (n := n) (m := m) (by omega)
      by_cases hf : firstOf same n = n
      · have := (num_succ_rep hf).2; omega
      · have := (num_succ_old hf).2; omega

theorem cnt_le (same : Nat → Nat → Bool) : ∀ n, cnt same n ≤ n
  | 0 => Nat.le_refl _
  | n + 1 => by
    have := cnt_le same n
    by_cases hf : firstOf same n = n
    · have := (num_succ_rep hf).2; omega
    · have := (num_succ_old hf).2; omega

theorem cl_rep {same : Nat → Nat → Bool} {v : Nat} (h : firstOf same v = v) : gi (num same (v + 1)) v = (cnt same v : Int) := by
  rw [(num_succ_rep h).1, gi_app, if_neg (by rw [num_len]; omega), num_len, Nat.sub_self]; rfl
theorem cl_at {same : Nat → Nat → Bool} {n v : Nat} (h : Equ same n) (hv : v < n) : gi (num same n) v = (cnt same (firstOf same v) : Int) := by
  rw [num_at hv]
  obtain ⟨a, b, c⟩ := firstOf_spec same v
  by_cases e : firstOf same v = v
  · rw [cl_rep e, e]
  · rw [(num_succ_old e).1, gi_app, if_neg (by rw [num_len]; omega), num_len, Nat.sub_self]
    show gi (num same v) (firstOf same v) = _
    rw [num_at (by omega), cl_rep (first_idem h hv)]

theorem cl_same {same : Nat → Nat → Bool} {n u v : Nat} (h : Equ same n) (hu : u < n) (hv : v < n) : gi (num same n) u = gi (num same n) v ↔ same u v = true := by
  rw [cl_at h hu, cl_at h hv, ← first_same h hu hv]
  refine ⟨fun e => ?_, fun e => by rw [e]⟩
  have e : cnt same (firstOf same u) = cnt same (firstOf same v) := by omega
  have key : ∀ a b, firstOf same a = a → a < b → cnt same a < cnt same b := fun a b ha hab => by
    have h1 := (num_succ_rep ha).2
    have h2 := cnt_mono (same := same) (m := a + 1) (n := b) hab
    omega
  rcases Nat.lt_trichotomy (firstOf same u) (firstOf same v) with hl | hl | hl
  · have := key _ _ (first_idem h hu) hl; omega
  · exact hl
  · have := key _ _ (first_idem h hv) hl; omega

theorem cl_range {same : Nat → Nat → Bool} {n v : Nat} (h : Equ same n) (hv : v < n) : 0 ≤ gi (num same n) v ∧ gi (num same n) v < (cnt same n : Int) := by
  rw [cl_at h hv]
  have h1 := (num_succ_rep (first_idem h hv)).2
  have h2 := cnt_mono (same := same) (m := firstOf same v + 1) (n := n) (by have := (firstOf_spec same v).1; omega)
  omega

/-- The last class is taken by a node. -/
theorem cl_last {same : Nat → Nat → Bool} : ∀ {n : Nat}, 0 < n → (∀ v, v < n → same v v = true) → 0 < cnt same n ∧ ∃ v, v < n ∧ gi (num same n) v = (cnt same n : Int) - 1
  | 0, h, _ => absurd h (by omega)
  | n + 1, h, hr => by
    by_cases hf : firstOf same n = n
    · have := (num_succ_rep hf).2
      exact ⟨by omega, n, by omega, by rw [cl_rep hf, this]; omega⟩
    · have h0 : 0 < n := by
        rcases Nat.eq_zero_or_pos n with e | e
        · subst e; exact absurd (by have := (firstOf_spec same 0).1; omega) hf
        · exact e
      have := (num_succ_old hf).2
      obtain ⟨a, v, b, c⟩ := cl_last h0 fun v hv => hr v (by omega)
      exact ⟨by omega, v, by omega, by rw [num_old b, this]; exact c⟩

/-- The greatest element of a list; 0 at least. -/
def maxI (l : List Int) : Int := l.foldl max 0

theorem foldl_max (l : List Int) : ∀ a : Int, a ≤ l.foldl max a ∧ (∀ x ∈ l, x ≤ l.foldl max a) ∧ (l.foldl max a = a ∨ l.foldl max a ∈ l) := by
  induction l with
  | nil => intro a; exact ⟨Int.le_refl _, by simp, .inl rfl⟩
  | cons y l ih =>
    intro a
    obtain ⟨h1, h2, h3⟩ := ih (max a y)
    simp only [List.foldl_cons]
    refine ⟨by omega, fun x hx => ?_, ?_⟩
    · rcases List.mem_cons.1 hx with rfl | hx
      · omega
      · exact h2 x hx
    · rcases h3 with h3 | h3
      · rcases Int.le_total a y with hy | hy
        · right; rw [h3]; simp [show max a y = y by omega]
        · left; rw [h3]; omega
      · right; simp [h3]

theorem maxI_eq {l : List Int} {m : Int} (h0 : 0 ≤ m) (h1 : ∀ x ∈ l, x ≤ m) (h2 : m ∈ l) : maxI l = m := by
  obtain ⟨a, b, c⟩ := foldl_max l 0
  have := b m h2
  unfold maxI
  rcases c with c | c
  · omega
  · have := h1 _ c; omega

theorem gi_mem {l : List Int} {i : Nat} (h : i < l.length) : gi l i ∈ l := by
  unfold gi; simp [List.getD, h]
theorem mem_gi {l : List Int} {x : Int} (h : x ∈ l) : ∃ i, i < l.length ∧ gi l i = x := by
  obtain ⟨i, hi, rfl⟩ := List.mem_iff_getElem.1 h
  exact ⟨i, hi, by simp [gi, List.getD, hi]⟩

theorem maxI_num {same : Nat → Nat → Bool} {n : Nat} (h : Equ same n) (hn : 0 < n) : maxI (num same n) = (cnt same n : Int) - 1 := by
  obtain ⟨a, v, b, c⟩ := cl_last hn h.refl
  refine maxI_eq (by omega) (fun x hx => ?_) ?_
  · obtain ⟨i, hi, rfl⟩ := mem_gi hx
    rw [num_len] at hi
    have := (cl_range h hi).2; omega
  · rw [← c]; exact gi_mem (by rw [num_len]; exact b)

/-- A finer relation has more classes; with as many it is the same one. -/
theorem finer_rep {same same' : Nat → Nat → Bool} {n v : Nat} (hr : ∀ u v, u < n → v < n → same' u v = true → same u v = true) (hv : v < n) (h : firstOf same v = v) : firstOf same' v = v := by
  obtain ⟨a, b, c⟩ := firstOf_spec same v
  refine firstOf_eq (Nat.le_refl _) (fun u hu => ?_) (fun hh => absurd hh (by omega))
  rcases hs : same' u v with _ | _
  · rfl
  · have := hr u v (by omega) hv hs
    rw [b u (by omega)] at this; exact absurd this (by simp)

theorem finer_cnt {same same' : Nat → Nat → Bool} {n : Nat} (hr : ∀ u v, u < n → v < n → same' u v = true → same u v = true) : ∀ m k, k + m ≤ n → cnt same' k + cnt same (k + m) ≤ cnt same' (k + m) + cnt same k
  | 0, k, _ => by simp only [Nat.add_zero]; omega
  | m + 1, k, h => by
    have ih := finer_cnt hr m k (by omega)
    show cnt same' k + cnt same (k + m + 1) ≤ cnt same' (k + m + 1) + cnt same k
    by_cases e : firstOf same (k + m) = k + m
    · have e' := finer_rep hr (by omega) e
      have := (num_succ_rep e).2
      have := (num_succ_rep e').2
      omega
    · have := (num_succ_old e).2
      have := cnt_mono (same := same') (m := k + m) (n := k + m + 1) (by omega)
      omega

theorem finer_le {same same' : Nat → Nat → Bool} {n : Nat} (hr : ∀ u v, u < n → v < n → same' u v = true → same u v = true) : cnt same n ≤ cnt same' n := by
  have := finer_cnt hr n 0 (by omega)
  have h0 : cnt same 0 = 0 := rfl
  have h0' : cnt same' 0 = 0 := rfl
  simp only [Nat.zero_add] at this
  omega

theorem finer_same {same same' : Nat → Nat → Bool} {n : Nat} (h : Equ same n) (h' : Equ same' n) (hr : ∀ u v, u < n → v < n → same' u v = true → same u v = true) (hc : cnt same n = cnt same' n) :
    ∀ u v, u < n → v < n → same u v = same' u v := by
  have hrep : ∀ v, v < n → firstOf same' v = v → firstOf same v = v := fun v hv e' => by
    rcases Decidable.em (firstOf same v = v) with e | e
    · exact e
    · have h1 := finer_cnt hr v 0 (by omega)
      have h2 := finer_cnt hr (n - (v + 1)) (v + 1) (by omega)
      have h3 := (num_succ_rep e').2
      have h4 := (num_succ_old e).2
      have h0 : cnt same 0 = 0 := rfl
      have h0' : cnt same' 0 = 0 := rfl
      rw [show v + 1 + (n - (v + 1)) = n by omega] at h2
      simp only [Nat.zero_add] at h1
      omega
  have hfirst : ∀ v, v < n → firstOf same' v = firstOf same v := fun v hv => by
    have hl := (firstOf_spec same' v).1
    have e1 := hrep _ (by omega) (first_idem h' hv)
    have e2 := (first_same h (u := firstOf same' v) (v := v) (by omega) hv).2 (hr _ _ (by omega) hv (first_like h' hv))
    omega
  intro u v hu hv
  rw [Bool.eq_iff_iff, ← first_same h hu hv, ← first_same h' hu hv, hfirst u hu, hfirst v hv]
end Go.Proofs.Ytkpdbceglejbnaa
