/- The contract of the model's DoubleCover. -/
import Derived.Test.YtkeiaahlifdbiaaDd
namespace Go.Proofs.Ytkeiaahlifdbiaa
open Go.RowKit

/-- Rows of which some first ends are there. -/
def partNet (T : List (List (Int × Int))) (c : Nat → Nat) (inp : List Int) : Net := ⟨(List.range T.length).map fun v => (gr T v).take (c v), [], inp⟩
theorem partNet_len (T : List (List (Int × Int))) (c : Nat → Nat) (inp : List Int) : (partNet T c inp).ends.length = T.length := by simp [partNet]
theorem gr_partNet (T : List (List (Int × Int))) (c : Nat → Nat) (inp : List Int) {v : Nat} (h : v < T.length) : gr (partNet T c inp).ends v = (gr T v).take (c v) := by simp [gr, partNet, h]
theorem part_add {T : List (List (Int × Int))} {c c' : Nat → Nat} {inp : List Int} {k : Nat} (hk : k < T.length) (hc : c k < (gr T k).length) (h1 : c' k = c k + 1) (h2 : ∀ v, v ≠ k → c' v = c v) :
    addEnd (partNet T c inp) k (gn (gr T k) (c k), gp (gr T k) (c k)) = partNet T c' inp :=
  net_same (by rw [addEnd_len, partNet_len, partNet_len]) (fun v hv => by
    rw [addEnd_len, partNet_len] at hv
    rw [gr_addEnd _ _ _ _ (by rw [partNet_len]; exact hk), gr_partNet _ _ _ hv, gr_partNet _ _ _ hv, gr_partNet _ _ _ hk]
    by_cases e : v = k
    · subst e
      rw [if_pos rfl, h1, ge_get _ hc, List.take_succ_eq_append_getElem hc]
    · rw [if_neg e, h2 v e]) rfl rfl
theorem part_same {T : List (List (Int × Int))} {c c' : Nat → Nat} {inp : List Int} (h : ∀ v, v < T.length → (gr T v).take (c v) = (gr T v).take (c' v)) : partNet T c inp = partNet T c' inp :=
  net_same (by rw [partNet_len, partNet_len]) (fun v hv => by
    rw [partNet_len] at hv
    rw [gr_partNet _ _ _ hv, gr_partNet _ _ _ hv, h v hv]) rfl rfl
theorem part_none (T : List (List (Int × Int))) : partNet T (fun _ => 0) (List.replicate T.length 0) = blank T.length 0 :=
  net_same (by rw [partNet_len]; simp [blank]) (fun v hv => by
    rw [partNet_len] at hv
    rw [gr_partNet _ _ _ hv]
    simp [blank, gr, hv]) rfl rfl
theorem part_all {T : List (List (Int × Int))} {c : Nat → Nat} {inp : List Int} (h : ∀ v, v < T.length → (gr T v).length ≤ c v) : partNet T c inp = ⟨T, [], inp⟩ :=
  net_same (partNet_len _ _ _) (fun v hv => by
    rw [partNet_len] at hv
    rw [gr_partNet _ _ _ hv, List.take_of_length_le (h v hv)]) rfl rfl
/-- How many ends of each row are there when node v is under way: i ends in its first copy, j in its second one. -/
def cntAt (N : Net) (v i j : Nat) (u : Nat) : Nat :=
  if u < N.ends.length then (if u < v then 7 else if u = v then i else 0) else (if u - N.ends.length < v then 7 else if u - N.ends.length = v then j else 0)
/-- Inputs of the first v nodes, in both copies. -/
def inpAt (N : Net) (v b : Nat) : List Int := (List.range (N.ends.length + N.ends.length)).map fun u => if u < N.ends.length then (if u < v + b then gi N.inputs u else 0) else (if u - N.ends.length < v then gi N.inputs (u - N.ends.length) else 0)
theorem inpAt_len (N : Net) (v b : Nat) : (inpAt N v b).length = N.ends.length + N.ends.length := by simp [inpAt]
theorem gi_inpAt (N : Net) (v b : Nat) {u : Nat} (h : u < N.ends.length + N.ends.length) : gi (inpAt N v b) u = if u < N.ends.length then (if u < v + b then gi N.inputs u else 0) else (if u - N.ends.length < v then gi N.inputs (u - N.ends.length) else 0) := by simp [gi, inpAt, h]
theorem gi_setl (l : List Int) (k : Nat) (x : Int) (i : Nat) (hk : k < l.length) : gi (l.set k x) i = if i = k then x else gi l i := by
  unfold gi
  rw [List.getD_eq_getElem?_getD, List.getElem?_set]
  by_cases e : k = i
  · subst e; simp [hk]
  · rw [if_neg e, if_neg (fun h => e h.symm), List.getD_eq_getElem?_getD]
theorem inp_first {N : Net} {v : Nat} (h : v < N.ends.length) : (inpAt N v 0).set v (gi N.inputs v) = inpAt N v 1 :=
  ints_eq (by simp [inpAt_len]) fun i hi => by
    have hi : i < N.ends.length + N.ends.length := by simpa [inpAt_len] using hi
    rw [gi_setl _ _ _ _ (by rw [inpAt_len]; omega), gi_inpAt _ _ _ hi, gi_inpAt _ _ _ hi]
    by_cases e : i = v
    · subst e
      rw [if_pos rfl, if_pos h, if_pos (by omega)]
    · rw [if_neg e]
      by_cases hn : i < N.ends.length
      · rw [if_pos hn, if_pos hn]
        by_cases hv : i < v
        · rw [if_pos (by omega), if_pos (by omega)]
        · rw [if_neg (by omega), if_neg (by omega)]
      · rw [if_neg hn, if_neg hn]
theorem inp_second {N : Net} {v : Nat} (h : v < N.ends.length) : (inpAt N v 1).set (N.ends.length + v) (gi N.inputs v) = inpAt N (v + 1) 0 :=
  ints_eq (by simp [inpAt_len]) fun i hi => by
    have hi : i < N.ends.length + N.ends.length := by simpa [inpAt_len] using hi
    rw [gi_setl _ _ _ _ (by rw [inpAt_len]; omega), gi_inpAt _ _ _ hi, gi_inpAt _ _ _ hi]
    by_cases e : i = N.ends.length + v
    · subst e
      rw [if_pos rfl, if_neg (by omega), if_pos (by omega), Nat.add_sub_cancel_left]
    · rw [if_neg e]
      by_cases hn : i < N.ends.length
      · rw [if_pos hn, if_pos hn]
      · rw [if_neg hn, if_neg hn]
        by_cases hv : i - N.ends.length < v
        · rw [if_pos hv, if_pos (by omega)]
        · rw [if_neg hv, if_neg (by omega)]
theorem inp_none (N : Net) : inpAt N 0 0 = List.replicate (N.ends.length + N.ends.length) 0 :=
  ints_eq (by simp [inpAt_len]) fun i hi => by
    rw [inpAt_len] at hi
    rw [gi_inpAt _ _ _ hi]
    have : gi (List.replicate (N.ends.length + N.ends.length) (0 : Int)) i = 0 := by simp [gi, List.getD, hi]
    rw [this]
    by_cases hn : i < N.ends.length
    · rw [if_pos hn, if_neg (by omega)]
    · rw [if_neg hn, if_neg (by omega)]
theorem inp_all {N : Net} (h : N.inputs.length = N.ends.length) : inpAt N N.ends.length 0 = N.inputs ++ N.inputs :=
  ints_eq (by simp [inpAt_len, h]) fun i hi => by
    rw [inpAt_len] at hi
    rw [gi_inpAt _ _ _ hi, gi_app, h]
    by_cases hn : i < N.ends.length
    · rw [if_pos hn, if_pos hn, if_pos (by omega)]
    · rw [if_neg hn, if_neg hn, if_pos (by omega)]
/-- The model's network under construction. -/
def dbNet (N : Net) (v i j : Nat) (b : Nat) : Net := partNet (dcRows N) (cntAt N v i j) (inpAt N v b)
theorem dbNet_len (N : Net) (v i j b : Nat) : (dbNet N v i j b).ends.length = N.ends.length + N.ends.length := by rw [dbNet, partNet_len, dcRows_len]
theorem dbNet_none (N : Net) : dbNet N 0 0 0 0 = blank (N.ends.length + N.ends.length) 0 := by
  have := part_none (dcRows N)
  rw [dcRows_len] at this
  rw [← this, dbNet, inp_none]
  refine part_same fun v hv => ?_
  congr 1
  unfold cntAt
  split <;> (rw [if_neg (by omega)]; split <;> rfl)
theorem dbNet_first {N : Net} {v i : Nat} (hv : v < N.ends.length) (hi : i < (gr N.ends v).length) :
    gr (dbNet N v i i 0).ends v = (shiftRow N.ends.length (gr N.ends v)).take i ∧ addEnd (dbNet N v i i 0) v (gn (gr N.ends v) i + (N.ends.length : Int), gp (gr N.ends v) i) = dbNet N v (i + 1) i 0 := by
  have hc : ∀ i j, cntAt N v i j v = i := fun i j => by unfold cntAt; rw [if_pos hv, if_neg (by omega), if_pos rfl]
  have hk : v < (dcRows N).length := by rw [dcRows_len]; omega
  refine ⟨by rw [dbNet, gr_partNet _ _ _ hk, hc, dcRows_l N hv], ?_⟩
  have := part_add (T := dcRows N) (c := cntAt N v i i) (c' := cntAt N v (i + 1) i) (inp := inpAt N v 0) (k := v) hk (by rw [hc, dcRows_l N hv, length_shiftRow]; exact hi) (by rw [hc, hc]) (fun u hu => by
    unfold cntAt
    by_cases h : u < N.ends.length
    · rw [if_pos h, if_pos h, if_neg hu, if_neg hu]
    · rw [if_neg h, if_neg h])
  rw [hc, dcRows_l N hv, gn_shiftRow _ _ _ hi, gp_shiftRow _ _ _ hi] at this
  exact this
theorem dbNet_second {N : Net} {v i : Nat} (hv : v < N.ends.length) (hi : i < (gr N.ends v).length) :
    gr (dbNet N v (i + 1) i 0).ends (N.ends.length + v) = (gr N.ends v).take i ∧ addEnd (dbNet N v (i + 1) i 0) (N.ends.length + v) (gn (gr N.ends v) i, gp (gr N.ends v) i) = dbNet N v (i + 1) (i + 1) 0 := by
  have hc : ∀ i j, cntAt N v i j (N.ends.length + v) = j := fun i j => by unfold cntAt; rw [if_neg (by omega), if_neg (by omega), if_pos (by omega)]
  have hk : N.ends.length + v < (dcRows N).length := by rw [dcRows_len]; omega
  refine ⟨by rw [dbNet, gr_partNet _ _ _ hk, hc, dcRows_r N hv], ?_⟩
  have := part_add (T := dcRows N) (c := cntAt N v (i + 1) i) (c' := cntAt N v (i + 1) (i + 1)) (inp := inpAt N v 0) (k := N.ends.length + v) hk (by rw [hc, dcRows_r N hv]; exact hi) (by rw [hc, hc]) (fun u hu => by
    unfold cntAt
    by_cases h : u < N.ends.length
    · rw [if_pos h, if_pos h]
    · rw [if_neg h, if_neg h, if_neg (show ¬ u - N.ends.length = v by omega), if_neg (show ¬ u - N.ends.length = v by omega)])
  rw [hc, dcRows_r N hv] at this
  exact this
theorem dbNet_next {N : Net} (h6 : ∀ v, v < N.ends.length → (gr N.ends v).length ≤ 6) {v : Nat} (hv : v < N.ends.length) (inp : List Int) :
    partNet (dcRows N) (cntAt N v (gr N.ends v).length (gr N.ends v).length) inp = partNet (dcRows N) (cntAt N (v + 1) 0 0) inp :=
  part_same fun u hu => by
    rw [dcRows_len] at hu
    have hd : ∀ m, 6 ≤ m ∨ (gr (dcRows N) u).length ≤ m → (gr (dcRows N) u).take m = gr (dcRows N) u := fun m hm => List.take_of_length_le (by
      rcases hm with hm | hm
      · by_cases h : u < N.ends.length
        · rw [dcRows_l N h, length_shiftRow]; have := h6 u h; omega
        · obtain ⟨x, rfl⟩ : ∃ x, u = N.ends.length + x := ⟨u - N.ends.length, by omega⟩
          rw [dcRows_r N (by omega)]; have := h6 x (by omega); omega
      · exact hm)
    unfold cntAt
    by_cases h : u < N.ends.length
    · rw [if_pos h, if_pos h]
      by_cases h1 : u < v
      · rw [if_pos h1, if_pos (by omega)]
      · by_cases h2 : u = v
        · subst h2
          rw [if_neg (by omega), if_pos rfl, if_pos (by omega), hd 7 (.inl (by omega)), hd _ (.inr (by rw [dcRows_l N h, length_shiftRow]; exact Nat.le_refl _))]
        · rw [if_neg h1, if_neg h2, if_neg (by omega)]
          split <;> rfl
    · rw [if_neg h, if_neg h]
      obtain ⟨x, rfl⟩ : ∃ x, u = N.ends.length + x := ⟨u - N.ends.length, by omega⟩
      rw [Nat.add_sub_cancel_left]
      by_cases h1 : x < v
      · rw [if_pos h1, if_pos (by omega)]
      · by_cases h2 : x = v
        · subst h2
          rw [if_neg (by omega), if_pos rfl, if_pos (by omega), hd 7 (.inl (by omega)), hd _ (.inr (by rw [dcRows_r N (by omega)]; exact Nat.le_refl _))]
        · rw [if_neg h1, if_neg h2, if_neg (by omega)]
          split <;> rfl
theorem dbNet_all {N : Net} (h : Good N) : dbNet N N.ends.length 0 0 0 = dcNet N := by
  rw [dbNet, inp_all (by have := h.2.2.2.1; omega)]
  refine part_all fun v hv => ?_
  rw [dcRows_len] at hv
  unfold cntAt
  by_cases hn : v < N.ends.length
  · rw [if_pos hn, if_pos hn, dcRows_l N hn, length_shiftRow]
    have := (h.2.1 v hn).1; omega
  · obtain ⟨x, rfl⟩ : ∃ x, v = N.ends.length + x := ⟨v - N.ends.length, by omega⟩
    rw [if_neg hn, Nat.add_sub_cancel_left, if_pos (by omega), dcRows_r N (by omega)]
    have := (h.2.1 x (by omega)).1; omega
end Go.Proofs.Ytkeiaahlifdbiaa
