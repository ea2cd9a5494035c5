/- The girth as plain mathematics: an edge is left out, and the distance of its ends is measured. -/
import Derived.Test.YtkeiaahlifdbiaaZbk
import Derived.Test.YtkeiaahlifdbiaaRz
import Derived.Test.YtkeiaahlifdbiaaEq
namespace Go.Proofs.Ytkeiaahlifdbiaa
open Go.RowKit

theorem cnt_congr {f g : Nat → Bool} : ∀ n, (∀ i, i < n → f i = g i) → cnt f n = cnt g n
  | 0, _ => rfl
  | n + 1, h => by
    rw [cnt_succ, cnt_succ, cnt_congr n fun i hi => h i (by omega), h n (by omega)]
theorem nth_congr {f g : Nat → Bool} {n : Nat} (h : ∀ i, i < n → f i = g i) (q : Nat) : nth f n q = nth g n q := by
  have : stay f n = stay g n := List.filter_congr fun i hi => h i (List.mem_range.1 hi)
  unfold nth
  rw [this]
theorem gr_cut (N : Net) (st : Nat → Nat → Bool) {v : Nat} (hv : v < N.ends.length) : gr (cutNet N st).ends v = cutRow N st v := by simp [gr, cutNet, List.getD, hv]
theorem cut_len (N : Net) (st : Nat → Nat → Bool) : (cutNet N st).ends.length = N.ends.length := by simp [cutNet]
/-- What is cut on both sides is a network. -/
theorem cut_good {N : Net} {st : Nat → Nat → Bool} (hg : Good N) (hs : ∀ v, v < N.ends.length → ∀ i, i < (gr N.ends v).length → st (gn (gr N.ends v) i).toNat (gp (gr N.ends v) i).toNat = st v i) : Good (cutNet N st) := by
  refine ⟨by rw [cut_len]; exact hg.1, fun v hv => ?_, by rw [cut_len]; exact hg.2.2.1, by rw [cut_len]; exact hg.2.2.2⟩
  rw [cut_len] at hv
  have hr := hg.2.1 v hv
  unfold RowOK
  rw [gr_cut N st hv]
  have hlen : (cutRow N st v).length = cnt (st v) (gr N.ends v).length := by unfold cutRow; rw [length_planRow]
  refine ⟨by rw [hlen]; exact Nat.le_trans (cnt_le _ _) hr.1, fun q hq => ?_⟩
  rw [hlen] at hq
  obtain ⟨hi, hst, hc⟩ := nth_spec (st v) hq
  obtain ⟨i, hii⟩ : ∃ i, i = nth (st v) (gr N.ends v).length q := ⟨_, rfl⟩
  rw [← hii] at hi hst hc
  have e1 : gn (cutRow N st v) q = gn (gr N.ends v) i := by unfold cutRow; rw [gn_planRow hq, hii]
  have e2 : gp (cutRow N st v) q = (cnt (st (gn (gr N.ends v) i).toNat) (gp (gr N.ends v) i).toNat : Nat) := by unfold cutRow; rw [gp_planRow hq, hii]
  obtain ⟨⟨a1, a2, a3, a4⟩, b1, b2⟩ := hr.2 i hi
  have hsy := hs v hv i hi
  obtain ⟨x, hx⟩ := Int.eq_ofNat_of_zero_le a1
  obtain ⟨p, hp⟩ := Int.eq_ofNat_of_zero_le a3
  rw [hx] at a2 a4 b1 b2 e1 e2 hsy
  rw [hp] at a4 b1 b2 e2 hsy
  simp only [Int.toNat_natCast] at a4 b1 b2 e2 hsy
  have hxn : x < N.ends.length := by omega
  have hpl : p < (gr N.ends x).length := by omega
  have hkp : cnt (st x) p < cnt (st x) (gr N.ends x).length := by
    have h1 := cnt_mono (st x) (show p + 1 ≤ (gr N.ends x).length by omega)
    rw [cnt_succ, hsy, if_pos hst] at h1
    omega
  have hnc : nth (st x) (gr N.ends x).length (cnt (st x) p) = p := nth_cnt (st x) hpl (by rw [hsy]; exact hst)
  unfold JoinOK PortOK
  rw [gr_cut N st hv, e1, e2, cut_len, Int.toNat_natCast, Int.toNat_natCast, gr_cut N st hxn]
  refine ⟨⟨by omega, by omega, by omega, ?_⟩, ?_, ?_⟩
  · unfold cutRow; rw [length_planRow]; omega
  · unfold cutRow; rw [gn_planRow hkp, hnc]; exact b1
  · unfold cutRow
    rw [gp_planRow hkp, hnc, b1, b2, Int.toNat_natCast, Int.toNat_natCast, hc]
theorem cut_congr {N : Net} {st st' : Nat → Nat → Bool} (hg : Good N) (h : ∀ v, v < N.ends.length → ∀ i, i < (gr N.ends v).length → st v i = st' v i) : cutNet N st = cutNet N st' := by
  have e : (List.range N.ends.length).map (cutRow N st) = (List.range N.ends.length).map (cutRow N st') := List.map_congr_left fun v hv => by
    have hvn := List.mem_range.1 hv
    unfold cutRow planRow
    rw [cnt_congr _ (h v hvn)]
    refine List.map_congr_left fun q hq => ?_
    have hq := List.mem_range.1 hq
    rw [nth_congr (h v hvn)]
    have hi := (nth_spec (st' v) hq).1
    obtain ⟨⟨a1, a2, a3, a4⟩, -⟩ := (hg.2.1 v hvn).2 _ hi
    have e : cnt (st (gn (gr N.ends v) (nth (st' v) (gr N.ends v).length q)).toNat) (gp (gr N.ends v) (nth (st' v) (gr N.ends v).length q)).toNat = cnt (st' (gn (gr N.ends v) (nth (st' v) (gr N.ends v).length q)).toNat) (gp (gr N.ends v) (nth (st' v) (gr N.ends v).length q)).toNat := cnt_congr _ fun i hi2 => h _ (by omega) i (by omega)
    simp only [e]
  unfold cutNet
  rw [e]
/-- A stub. -/
def IsStub (N : Net) (v i : Nat) : Prop := gn (gr N.ends v) i = (v : Int) ∧ gp (gr N.ends v) i = (i : Int)
/-- The other end of a port. -/
structure Oth (N : Net) (v i w j : Nat) : Prop where
  hv : v < N.ends.length
  hi : i < (gr N.ends v).length
  hw : w < N.ends.length
  hj : j < (gr N.ends w).length
  n1 : gn (gr N.ends v) i = (w : Int)
  p1 : gp (gr N.ends v) i = (j : Int)
  n2 : gn (gr N.ends w) j = (v : Int)
  p2 : gp (gr N.ends w) j = (i : Int)
theorem oth {N : Net} (hg : Good N) {v i : Nat} (hv : v < N.ends.length) (hi : i < (gr N.ends v).length) : ∃ w j, Oth N v i w j := by
  obtain ⟨⟨a1, a2, a3, a4⟩, b1, b2⟩ := (hg.2.1 v hv).2 i hi
  obtain ⟨x, hx⟩ := Int.eq_ofNat_of_zero_le a1
  obtain ⟨p, hp⟩ := Int.eq_ofNat_of_zero_le a3
  rw [hx] at a2 a4 b1 b2
  rw [hp] at a4 b1 b2
  simp only [Int.toNat_natCast] at a4 b1 b2
  exact ⟨x, p, hv, hi, by omega, by omega, hx, hp, b1, b2⟩
theorem Oth.symm {N : Net} {v i w j : Nat} (h : Oth N v i w j) : Oth N w j v i := ⟨h.hw, h.hj, h.hv, h.hi, h.n2, h.p2, h.n1, h.p1⟩
theorem st0_iff {N : Net} {x y v i : Nat} : st0 N x y v i = true ↔ ¬ (v = x ∧ i = y) ∧ ¬ (gn (gr N.ends v) i = (x : Int) ∧ gp (gr N.ends v) i = (y : Int)) := by
  unfold st0
  simp only [Bool.and_eq_true, Bool.not_eq_true', Bool.and_eq_false_iff, beq_eq_false_iff_ne, ne_eq]
  omega
theorem st0_sym {N : Net} {x y v i w j : Nat} (h : Oth N v i w j) : st0 N x y w j = st0 N x y v i := by
  rw [Bool.eq_iff_iff, st0_iff, st0_iff, h.n1, h.p1, h.n2, h.p2]
  omega
theorem st0_oth {N : Net} {x y x' y' v i w j : Nat} (h : Oth N x y x' y') (k : Oth N v i w j) : st0 N x' y' v i = st0 N x y v i := by
  rw [Bool.eq_iff_iff, st0_iff, st0_iff, k.n1, k.p1]
  have a : (v = x ∧ i = y) → (w = x' ∧ j = y') := by
    rintro ⟨rfl, rfl⟩
    have := h.n1; have := k.n1; have := h.p1; have := k.p1
    omega
  have b : (w = x' ∧ j = y') → (v = x ∧ i = y) := by
    rintro ⟨rfl, rfl⟩
    have := h.n2; have := k.n2; have := h.p2; have := k.p2
    omega
  have c : (v = x' ∧ i = y') → (w = x ∧ j = y) := by
    rintro ⟨rfl, rfl⟩
    have := h.n2; have := k.n1; have := h.p2; have := k.p1
    omega
  have d : (w = x ∧ j = y) → (v = x' ∧ i = y') := by
    rintro ⟨rfl, rfl⟩
    have := h.n1; have := k.n2; have := h.p1; have := k.p2
    omega
  constructor
  · rintro ⟨h1, h2⟩
    exact ⟨fun e => h2 (by have := a e; omega), fun e => h1 (d (by omega))⟩
  · rintro ⟨h1, h2⟩
    exact ⟨fun e => h2 (by have := c e; omega), fun e => h1 (b (by omega))⟩
/-- The network without an edge. -/
def woE (N : Net) (v i : Nat) : Net := cutNet N (st0 N v i)
theorem wo_good {N : Net} (hg : Good N) (v i : Nat) : Good (woE N v i) := cut_good hg fun u hu k hk => by
  obtain ⟨w, j, h⟩ := oth hg hu hk
  rw [h.n1, h.p1, Int.toNat_natCast, Int.toNat_natCast]
  exact st0_sym h
theorem wo_len (N : Net) (v i : Nat) : (woE N v i).ends.length = N.ends.length := cut_len _ _
theorem wo_oth {N : Net} (hg : Good N) {v i w j : Nat} (h : Oth N v i w j) : woE N w j = woE N v i := cut_congr hg fun u hu k hk => by
  obtain ⟨w', j', k'⟩ := oth hg hu hk
  exact st0_oth h k'
/-- The distance of the ends of an edge without it. -/
def avd (N : Net) (v i : Nat) : Int := gi (dst (woE N v i) v) (gn (gr N.ends v) i).toNat
theorem avd_range {N : Net} (hg : Good N) {v i : Nat} (hv : v < N.ends.length) (hi : i < (gr N.ends v).length) : -1 ≤ avd N v i ∧ avd N v i < 40 := by
  obtain ⟨w, j, h⟩ := oth hg hv hi
  have hw := good_w (wo_good hg v i)
  have := (dst_small hw (x := (v : Int)) (by rw [wo_len]; omega)).2 w (by rw [wo_len]; exact h.hw)
  have := hw.most
  unfold avd
  rw [h.n1, Int.toNat_natCast]
  omega
theorem avd_oth {N : Net} (hg : Good N) {v i w j : Nat} (h : Oth N v i w j) : avd N w j = avd N v i := by
  have := dst_symm (wo_good hg v i) (x := (w : Int)) (y := (v : Int)) (by rw [wo_len]; have := h.hw; omega) (by rw [wo_len]; have := h.hv; omega)
  unfold avd
  rw [h.n1, h.n2, wo_oth hg h]
  simpa using this
/-- The least length so far. -/
def gStep (g d : Int) : Int := if d ≠ -1 ∧ (g = 0 ∨ d + 1 < g) then d + 1 else g
/-- g is one more than the least of those distances that there are, 0 if there is none. -/
def GM (S : Int → Prop) (g : Int) : Prop := (g = 0 ∧ ∀ d, S d → d = -1) ∨ (1 ≤ g ∧ S (g - 1) ∧ ∀ d, S d → d ≠ -1 → g ≤ d + 1)
theorem gm_step {S S' : Int → Prop} {g d0 : Int} (h : GM S g) (h0 : -1 ≤ d0) (hs : ∀ d, S' d ↔ S d ∨ d = d0) : GM S' (gStep g d0) := by
  unfold gStep
  rcases h with ⟨rfl, h⟩ | ⟨h1, h2, h3⟩
  · by_cases e : d0 = -1
    · rw [if_neg (by omega)]
      exact .inl ⟨rfl, fun d hd => by rcases (hs d).1 hd with k | k; exact h d k; omega⟩
    · rw [if_pos (by omega)]
      refine .inr ⟨by omega, (hs _).2 (.inr (by omega)), fun d hd hne => ?_⟩
      rcases (hs d).1 hd with k | k
      · exact absurd (h d k) hne
      · omega
  · by_cases e : d0 ≠ -1 ∧ (g = 0 ∨ d0 + 1 < g)
    · rw [if_pos e]
      refine .inr ⟨by omega, (hs _).2 (.inr (by omega)), fun d hd hne => ?_⟩
      rcases (hs d).1 hd with k | k
      · have := h3 d k hne; omega
      · omega
    · rw [if_neg e]
      refine .inr ⟨h1, (hs _).2 (.inl h2), fun d hd hne => ?_⟩
      rcases (hs d).1 hd with k | k
      · exact h3 d k hne
      · omega
theorem gm_one {S S' : Int → Prop} {g g' : Int} (h : GM S g) (k : GM S' g') (hs : ∀ d, S d ↔ S' d) : g = g' := by
  rcases h with ⟨rfl, h⟩ | ⟨h1, h2, h3⟩ <;> rcases k with ⟨rfl, k⟩ | ⟨k1, k2, k3⟩
  · rfl
  · have := h _ ((hs _).2 k2); omega
  · have := k _ ((hs _).1 h2); omega
  · have := h3 _ ((hs _).2 k2) (by omega)
    have := k3 _ ((hs _).1 h2) (by omega)
    omega
theorem gm_congr {S S' : Int → Prop} {g : Int} (h : GM S g) (hs : ∀ d, S d ↔ S' d) : GM S' g := by
  rcases h with ⟨rfl, h⟩ | ⟨h1, h2, h3⟩
  · exact .inl ⟨rfl, fun d hd => h d ((hs d).2 hd)⟩
  · exact .inr ⟨h1, (hs _).1 h2, fun d hd => h3 d ((hs d).2 hd)⟩
open Classical in
/-- The model's loop over the first j ports of a node. -/
noncomputable def gRow (N : Net) (v : Nat) (g : Int) : Nat → Int
  | 0 => g
  | j + 1 => if IsStub N v j then gRow N v g j else gStep (gRow N v g j) (avd N v j)
noncomputable def gTo (N : Net) : Nat → Int
  | 0 => 0
  | v + 1 => gRow N v (gTo N v) (gr N.ends v).length
noncomputable def girth (N : Net) : Int := gTo N N.ends.length
/-- The distances of the ports ahead of port j of node v. -/
def SetTo (N : Net) (v j : Nat) (d : Int) : Prop := ∃ u i, (u < v ∨ (u = v ∧ i < j)) ∧ u < N.ends.length ∧ i < (gr N.ends u).length ∧ ¬ IsStub N u i ∧ d = avd N u i
theorem gm_row {N : Net} (hg : Good N) {v : Nat} (hv : v < N.ends.length) {g : Int} (h : GM (SetTo N v 0) g) : ∀ j, j ≤ (gr N.ends v).length → GM (SetTo N v j) (gRow N v g j)
  | 0, _ => h
  | j + 1, hj => by
    have ih := gm_row hg hv h j (by omega)
    simp only [gRow]
    split
    · rename_i hs
      refine gm_congr ih fun d => ⟨?_, ?_⟩
      · rintro ⟨u, i, h1, h2, h3, h4, h5⟩; exact ⟨u, i, by omega, h2, h3, h4, h5⟩
      · rintro ⟨u, i, h1, h2, h3, h4, h5⟩
        refine ⟨u, i, ?_, h2, h3, h4, h5⟩
        by_cases e : u = v ∧ i = j
        · obtain ⟨rfl, rfl⟩ := e; exact absurd hs h4
        · omega
    · rename_i hs
      refine gm_step ih (avd_range hg hv (by omega)).1 fun d => ⟨?_, ?_⟩
      · rintro ⟨u, i, h1, h2, h3, h4, h5⟩
        by_cases e : u = v ∧ i = j
        · obtain ⟨rfl, rfl⟩ := e; exact .inr h5
        · exact .inl ⟨u, i, by omega, h2, h3, h4, h5⟩
      · rintro (⟨u, i, h1, h2, h3, h4, h5⟩ | h5)
        · exact ⟨u, i, by omega, h2, h3, h4, h5⟩
        · exact ⟨v, j, by omega, hv, by omega, hs, h5⟩
theorem gm_to {N : Net} (hg : Good N) : ∀ v, v ≤ N.ends.length → GM (SetTo N v 0) (gTo N v)
  | 0, _ => .inl ⟨rfl, by rintro d ⟨u, i, h1, -⟩; omega⟩
  | v + 1, hv => by
    have := gm_row hg (show v < N.ends.length by omega) (gm_to hg v (by omega)) _ (Nat.le_refl _)
    refine gm_congr this fun d => ⟨?_, ?_⟩
    · rintro ⟨u, i, h1, h2, h3, h4, h5⟩; exact ⟨u, i, by omega, h2, h3, h4, h5⟩
    · rintro ⟨u, i, h1, h2, h3, h4, h5⟩
      refine ⟨u, i, ?_, h2, h3, h4, h5⟩
      by_cases e : u = v
      · subst e; exact .inr ⟨rfl, h3⟩
      · omega
theorem gStep_range {g d : Int} (hg : 0 ≤ g ∧ g ≤ 40) (hd : -1 ≤ d ∧ d < 40) : 0 ≤ gStep g d ∧ gStep g d ≤ 40 := by
  unfold gStep; split <;> omega
theorem gRow_range {N : Net} (hG : Good N) {v : Nat} (hv : v < N.ends.length) {g : Int} (hg : 0 ≤ g ∧ g ≤ 40) : ∀ j, j ≤ (gr N.ends v).length → 0 ≤ gRow N v g j ∧ gRow N v g j ≤ 40
  | 0, _ => hg
  | j + 1, hj => by
    have ih := gRow_range hG hv hg j (by omega)
    simp only [gRow]
    split
    · exact ih
    · exact gStep_range ih (avd_range hG hv (by omega))
theorem gTo_range {N : Net} (hG : Good N) : ∀ v, v ≤ N.ends.length → 0 ≤ gTo N v ∧ gTo N v ≤ 40
  | 0, _ => by simp [gTo]
  | v + 1, hv => gRow_range hG (by omega) (gTo_range hG v (by omega)) _ (Nat.le_refl _)
/-- An edge of the list. -/
theorem rowEdges_mem (N : Net) (v : Nat) : ∀ k (e : List Int), e ∈ rowEdges N v k ↔ ∃ i, i < k ∧ First N v i ∧ e = quad N v i
  | 0, e => by simp [rowEdges]
  | k + 1, e => by
    have ih := rowEdges_mem N v k e
    by_cases hf : First N v k
    · simp only [rowEdges, portEdge_t hf, List.mem_append, List.mem_singleton, ih]
      constructor
      · rintro (⟨i, h1, h2⟩ | rfl)
        · exact ⟨i, by omega, h2⟩
        · exact ⟨k, by omega, hf, rfl⟩
      · rintro ⟨i, h1, h2, h3⟩
        by_cases e : i = k
        · subst e; exact .inr h3
        · exact .inl ⟨i, by omega, h2, h3⟩
    · simp only [rowEdges, portEdge_f hf, List.append_nil, ih]
      constructor
      · rintro ⟨i, h1, h2⟩; exact ⟨i, by omega, h2⟩
      · rintro ⟨i, h1, h2, h3⟩
        by_cases e : i = k
        · subst e; exact absurd h2 hf
        · exact ⟨i, by omega, h2, h3⟩
theorem edgesTo_mem (N : Net) : ∀ n (e : List Int), e ∈ edgesTo N n ↔ ∃ v i, v < n ∧ i < (gr N.ends v).length ∧ First N v i ∧ e = quad N v i
  | 0, e => by simp [edgesTo]
  | n + 1, e => by
    have ih := edgesTo_mem N n e
    simp only [edgesTo, List.mem_append, ih, rowEdges_mem]
    constructor
    · rintro (⟨v, i, h1, h2⟩ | ⟨i, h1, h2⟩)
      · exact ⟨v, i, by omega, h2⟩
      · exact ⟨n, i, by omega, h1, h2⟩
    · rintro ⟨v, i, h1, h2, h3, h4⟩
      by_cases e : v = n
      · subst e; exact .inr ⟨i, h2, h3, h4⟩
      · exact .inl ⟨v, i, by omega, h2, h3, h4⟩
/-- The distances of the first t edges of the list. -/
def SetE (N : Net) (t : Nat) (d : Int) : Prop := ∃ s, s < t ∧ s < (edgesTo N N.ends.length).length ∧ ∃ v i, v < N.ends.length ∧ i < (gr N.ends v).length ∧ gr (edgesTo N N.ends.length) s = quad N v i ∧ ¬ IsStub N v i ∧ d = avd N v i
theorem sets_same {N : Net} (hg : Good N) (d : Int) : SetE N (edgesTo N N.ends.length).length d ↔ SetTo N N.ends.length 0 d := by
  constructor
  · rintro ⟨s, -, -, v, i, h1, h2, -, h4, h5⟩
    exact ⟨v, i, .inl h1, h1, h2, h4, h5⟩
  · rintro ⟨v, i, -, hv, hi, hs, rfl⟩
    have key : ∀ v i, v < N.ends.length → i < (gr N.ends v).length → ¬ IsStub N v i → First N v i → SetE N (edgesTo N N.ends.length).length (avd N v i) := fun v i hv hi hs hf => by
      have hm := (edgesTo_mem N N.ends.length (quad N v i)).2 ⟨v, i, hv, hi, hf, rfl⟩
      obtain ⟨s, hs1, hs2⟩ := List.mem_iff_getElem.1 hm
      exact ⟨s, hs1, hs1, v, i, hv, hi, by simp [gr, List.getD, hs1, hs2], hs, rfl⟩
    by_cases hf : First N v i
    · exact key v i hv hi hs hf
    · obtain ⟨w, j, h⟩ := oth hg hv hi
      rw [← avd_oth hg h]
      refine key w j h.hw h.hj ?_ ?_
      · rintro ⟨e1, e2⟩
        have := h.n1; have := h.p1; have := h.n2; have := h.p2
        exact hs ⟨by omega, by omega⟩
      · unfold First at hf ⊢
        have := h.n1; have := h.p1; have := h.n2; have := h.p2
        omega
theorem girth_edges {N : Net} (hg : Good N) {g : Int} (h : GM (SetE N (edgesTo N N.ends.length).length) g) : g = girth N :=
  gm_one h (gm_to hg _ (Nat.le_refl _)) (sets_same hg)
end Go.Proofs.Ytkeiaahlifdbiaa
