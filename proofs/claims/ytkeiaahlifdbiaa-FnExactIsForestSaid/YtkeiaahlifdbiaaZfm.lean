/- Forests as plain mathematics: edges and components are as many as the nodes exactly if no edge can be left out without taking its ends apart. -/
import Derived.Test.YtkeiaahlifdbiaaZgm
namespace Go.Proofs.Ytkeiaahlifdbiaa
open Go.RowKit

/-- Two numbers are connected by pairs of a list. -/
inductive Cn (L : List (Nat × Nat)) : Nat → Nat → Prop
  | refl (u : Nat) : Cn L u u
  | step {u v b : Nat} : Cn L u v → ((v, b) ∈ L ∨ (b, v) ∈ L) → Cn L u b
theorem Cn.trans {L : List (Nat × Nat)} {u v x : Nat} (h : Cn L u v) (k : Cn L v x) : Cn L u x := by
  induction k with
  | refl => exact h
  | step _ ha ih => exact .step ih ha
theorem Cn.symm {L : List (Nat × Nat)} {u v : Nat} (h : Cn L u v) : Cn L v u := by
  induction h with
  | refl => exact .refl _
  | step _ ha ih => exact Cn.trans (.step (.refl _) ha.symm) ih
theorem Cn.mono {L L' : List (Nat × Nat)} (hs : ∀ e ∈ L, e ∈ L') {u v : Nat} (h : Cn L u v) : Cn L' u v := by
  induction h with
  | refl => exact .refl _
  | step _ ha ih => exact .step ih (ha.imp (hs _) (hs _))
/-- The least of those that are connected. -/
def Rp (L : List (Nat × Nat)) (u : Nat) : Prop := ∀ x, x < u → ¬ Cn L x u
open Classical in
/-- How many of the first k are the least ones of theirs. -/
noncomputable def rc (L : List (Nat × Nat)) : Nat → Nat
  | 0 => 0
  | k + 1 => if Rp L k then rc L k + 1 else rc L k
theorem rc_congr {L L' : List (Nat × Nat)} (h : ∀ u v, Cn L u v ↔ Cn L' u v) : ∀ k, rc L k = rc L' k
  | 0 => rfl
  | k + 1 => by
    have e : Rp L k ↔ Rp L' k := by unfold Rp; exact ⟨fun g x hx hc => g x hx ((h _ _).2 hc), fun g x hx hc => g x hx ((h _ _).1 hc)⟩
    simp only [rc]
    rw [rc_congr h k]
    by_cases p : Rp L k
    · rw [if_pos p, if_pos (e.1 p)]
    · rw [if_neg p, if_neg fun q => p (e.2 q)]
theorem rc_nil : ∀ k, rc [] k = k
  | 0 => rfl
  | k + 1 => by
    have h : ∀ u v, Cn [] u v → u = v := fun u v h => by
      induction h with
      | refl => rfl
      | step _ ha _ => rcases ha with ha | ha <;> simp at ha
    simp only [rc]
    rw [rc_nil k, if_pos (show Rp [] k from fun x hx hc => by have := h _ _ hc; omega)]
theorem cn_cons_in {L : List (Nat × Nat)} {e : Nat × Nat} (h : Cn L e.1 e.2) (u v : Nat) : Cn (e :: L) u v ↔ Cn L u v := by
  constructor
  · intro k
    induction k with
    | refl => exact .refl _
    | step _ ha ih =>
      rcases ha with ha | ha
      · rcases List.mem_cons.1 ha with rfl | ha
        · exact ih.trans h
        · exact .step ih (.inl ha)
      · rcases List.mem_cons.1 ha with rfl | ha
        · exact ih.trans h.symm
        · exact .step ih (.inr ha)
  · exact Cn.mono fun x hx => List.mem_cons_of_mem _ hx
theorem cn_cons {L : List (Nat × Nat)} {e : Nat × Nat} {u v : Nat} (k : Cn (e :: L) u v) : Cn L u v ∨ (Cn L u e.1 ∧ Cn L e.2 v) ∨ (Cn L u e.2 ∧ Cn L e.1 v) := by
  induction k with
  | refl => exact .inl (.refl _)
  | step _ ha ih =>
    rcases ha with ha | ha
    · rcases List.mem_cons.1 ha with rfl | ha
      · rcases ih with ih | ⟨i1, i2⟩ | ⟨i1, i2⟩
        · exact .inr (.inl ⟨ih, .refl _⟩)
        · exact .inr (.inl ⟨i1, .refl _⟩)
        · exact .inl i1
      · rcases ih with ih | ⟨i1, i2⟩ | ⟨i1, i2⟩
        · exact .inl (.step ih (.inl ha))
        · exact .inr (.inl ⟨i1, .step i2 (.inl ha)⟩)
        · exact .inr (.inr ⟨i1, .step i2 (.inl ha)⟩)
    · rcases List.mem_cons.1 ha with rfl | ha
      · rcases ih with ih | ⟨i1, i2⟩ | ⟨i1, i2⟩
        · exact .inr (.inr ⟨ih, .refl _⟩)
        · exact .inl i1
        · exact .inr (.inr ⟨i1, .refl _⟩)
      · rcases ih with ih | ⟨i1, i2⟩ | ⟨i1, i2⟩
        · exact .inl (.step ih (.inr ha))
        · exact .inr (.inl ⟨i1, .step i2 (.inr ha)⟩)
        · exact .inr (.inr ⟨i1, .step i2 (.inr ha)⟩)
theorem rep_of (L : List (Nat × Nat)) : ∀ (m a : Nat), a ≤ m → ∃ l, l ≤ a ∧ Cn L l a ∧ Rp L l
  | 0, a, h => ⟨a, Nat.le_refl _, .refl _, fun x hx => by omega⟩
  | m + 1, a, h => by
    by_cases hr : Rp L a
    · exact ⟨a, Nat.le_refl _, .refl _, hr⟩
    · obtain ⟨x, hx⟩ := Classical.not_forall.1 hr
      obtain ⟨hx1, hx2⟩ := Classical.not_imp.1 hx
      obtain ⟨l, h1, h2, h3⟩ := rep_of L m x (by omega)
      exact ⟨l, by omega, h2.trans (Classical.not_not.1 hx2), h3⟩
theorem rp_one {L : List (Nat × Nat)} {u v : Nat} (h : Rp L u) (k : Rp L v) (hc : Cn L u v) : u = v := by
  by_cases e : u < v
  · exact absurd hc (k u e)
  · by_cases e2 : v < u
    · exact absurd hc.symm (h v e2)
    · omega
theorem rp_le {L : List (Nat × Nat)} {u v : Nat} (h : Rp L u) (hc : Cn L v u) : u ≤ v := by
  by_cases e : v < u
  · exact absurd hc (h v e)
  · omega
theorem rc_join {L : List (Nat × Nat)} {e : Nat × Nat} (h : ¬ Cn L e.1 e.2) : ∃ m, (m ≤ e.1 ∨ m ≤ e.2) ∧ ∀ k, rc L k = rc (e :: L) k + (if m < k then 1 else 0) := by
  obtain ⟨a, a1, a2, a3⟩ := rep_of L e.1 e.1 (Nat.le_refl _)
  obtain ⟨b, b1, b2, b3⟩ := rep_of L e.2 e.2 (Nat.le_refl _)
  have hab : a ≠ b := fun k => h (by subst k; exact a2.symm.trans b2)
  have hj : Cn (e :: L) a b := (Cn.mono (fun x hx => List.mem_cons_of_mem _ hx) a2).trans ((Cn.step (.refl _) (.inl (by simp))).trans (Cn.mono (fun x hx => List.mem_cons_of_mem _ hx) b2.symm))
  obtain ⟨m, hm⟩ : ∃ m, m = max a b := ⟨_, rfl⟩
  have key : ∀ u, Rp (e :: L) u ↔ Rp L u ∧ u ≠ m := fun u => by
    constructor
    · intro hr
      refine ⟨fun x hx hc => hr x hx (Cn.mono (fun y hy => List.mem_cons_of_mem _ hy) hc), fun hu => ?_⟩
      by_cases hlt : a < b
      · exact hr a (by omega) (by rw [show u = b by omega]; exact hj)
      · exact hr b (by omega) (by rw [show u = a by omega]; exact hj.symm)
    · rintro ⟨hr, hne⟩ x hx hc
      rcases cn_cons hc with k | ⟨k1, k2⟩ | ⟨k1, k2⟩
      · exact hr x hx k
      · have e1 := rp_one b3 hr (b2.trans k2)
        have e2 := rp_le a3 (k1.trans a2.symm)
        omega
      · have e1 := rp_one a3 hr (a2.trans k2)
        have e2 := rp_le b3 (k1.trans b2.symm)
        omega
  refine ⟨m, by omega, fun k => ?_⟩
  have hmR : Rp L m := by
    by_cases hlt : a < b
    · rw [show m = b by omega]; exact b3
    · rw [show m = a by omega]; exact a3
  induction k with
  | zero => simp [rc]
  | succ k ih =>
    simp only [rc]
    by_cases p : Rp L k
    · rw [if_pos p]
      by_cases q : k = m
      · rw [if_neg fun r => ((key k).1 r).2 q, if_pos (by omega)]
        rw [if_neg (by omega)] at ih
        omega
      · rw [if_pos ((key k).2 ⟨p, q⟩)]
        by_cases r : m < k
        · rw [if_pos (by omega)]; rw [if_pos r] at ih; omega
        · rw [if_neg (by omega)]; rw [if_neg r] at ih; omega
    · rw [if_neg p, if_neg fun r => p ((key k).1 r).1]
      have : k ≠ m := fun q => p (q ▸ hmR)
      by_cases r : m < k
      · rw [if_pos (by omega)]; rw [if_pos r] at ih; omega
      · rw [if_neg (by omega)]; rw [if_neg r] at ih; omega
/-- Each pair joins two that were not connected by the later ones. -/
def Jn : List (Nat × Nat) → Prop
  | [] => True
  | e :: L => Jn L ∧ ¬ Cn L e.1 e.2
theorem jn_count {n : Nat} : ∀ (L : List (Nat × Nat)), (∀ e ∈ L, e.1 < n ∧ e.2 < n) → n ≤ L.length + rc L n ∧ (L.length + rc L n = n ↔ Jn L)
  | [], _ => by rw [rc_nil]; simp [Jn]
  | e :: L, h => by
    obtain ⟨i1, i2⟩ := jn_count L fun x hx => h x (List.mem_cons_of_mem _ hx)
    have he := h e (by simp)
    simp only [List.length_cons, Jn]
    by_cases hc : Cn L e.1 e.2
    · rw [rc_congr (cn_cons_in hc) n]
      exact ⟨by omega, ⟨fun k => by omega, fun k => absurd hc k.2⟩⟩
    · obtain ⟨m, hm, hr⟩ := rc_join hc
      have := hr n
      rw [if_pos (by omega)] at this
      refine ⟨by omega, ⟨fun k => ⟨i2.1 (by omega), hc⟩, fun k => by have := i2.2 k.1; omega⟩⟩
theorem jn_split {α : Type} (f : α → Nat × Nat) {n : Nat} : ∀ (E : List α), (∀ q ∈ E, (f q).1 < n ∧ (f q).2 < n) → (Jn (E.map f) ↔ ∀ A q B, E = A ++ q :: B → ¬ Cn ((A ++ B).map f) (f q).1 (f q).2) := by
  intro E hb
  constructor
  · rintro hj A q B rfl hc
    have hb1 : ∀ e ∈ (A ++ q :: B).map f, e.1 < n ∧ e.2 < n := fun e he => by
      obtain ⟨x, hx, rfl⟩ := List.mem_map.1 he
      exact hb x hx
    have hb2 : ∀ e ∈ (A ++ B).map f, e.1 < n ∧ e.2 < n := fun e he => by
      obtain ⟨x, hx, rfl⟩ := List.mem_map.1 he
      exact hb x (by rcases List.mem_append.1 hx with k | k <;> simp [k])
    have h1 := (jn_count _ hb1).2.2 hj
    have h2 := (jn_count _ hb2).1
    have h3 : rc ((A ++ q :: B).map f) n = rc ((A ++ B).map f) n := by
      rw [← rc_congr (cn_cons_in hc) n]
      refine rc_congr (fun u v => ⟨Cn.mono fun e he => ?_, Cn.mono fun e he => ?_⟩) n
      · simp only [List.map_append, List.map_cons, List.mem_append, List.mem_cons] at he ⊢
        rcases he with k | k | k <;> simp [k]
      · simp only [List.map_append, List.map_cons, List.mem_append, List.mem_cons] at he ⊢
        rcases he with k | k | k <;> simp [k]
    rw [h3] at h1
    simp only [List.length_map, List.length_append, List.length_cons] at h1 h2
    omega
  · intro h
    induction E with
    | nil => trivial
    | cons q E ih =>
      refine ⟨ih (fun x hx => hb x (List.mem_cons_of_mem _ hx)) fun A p B he hc => ?_, h [] q E rfl⟩
      refine h (q :: A) p B (by rw [he]; rfl) (Cn.mono (fun x hx => ?_) hc)
      rw [List.cons_append, List.map_cons]
      exact List.mem_cons_of_mem _ hx
/-- The nodes of an edge. -/
def ends2 (e : List Int) : Nat × Nat := ((gi e 0).toNat, (gi e 2).toNat)
theorem ends2_quad {N : Net} {v i w j : Nat} (h : Oth N v i w j) : ends2 (quad N v i) = (v, w) := by
  simp [ends2, quad, gi, h.n1]
theorem quad_inj {N : Net} {v i u k : Nat} (h : quad N v i = quad N u k) : v = u ∧ i = k := by
  have e1 : (v : Int) = (u : Int) := by have := congrArg (fun l => gi l 0) h; simpa [quad, gi] using this
  have e2 : (i : Int) = (k : Int) := by have := congrArg (fun l => gi l 1) h; simpa [quad, gi] using this
  exact ⟨by omega, by omega⟩
theorem rowEdges_nodup (N : Net) (v : Nat) : ∀ k, (rowEdges N v k).Nodup
  | 0 => by simp [rowEdges]
  | k + 1 => by
    have ih := rowEdges_nodup N v k
    by_cases hf : First N v k
    · simp only [rowEdges, portEdge_t hf]
      refine List.nodup_append.2 ⟨ih, by simp, fun a ha b hb e => ?_⟩
      obtain rfl := List.mem_singleton.1 hb
      subst e
      obtain ⟨i, h1, -, h3⟩ := (rowEdges_mem N v k _).1 ha
      have := (quad_inj h3).2
      omega
    · simp only [rowEdges, portEdge_f hf, List.append_nil]; exact ih
theorem edgesTo_nodup (N : Net) : ∀ n, (edgesTo N n).Nodup
  | 0 => by simp [edgesTo]
  | n + 1 => by
    refine List.nodup_append.2 ⟨edgesTo_nodup N n, rowEdges_nodup N n _, fun a ha b hb e => ?_⟩
    subst e
    obtain ⟨v, i, h1, -, -, h3⟩ := (edgesTo_mem N n _).1 ha
    obtain ⟨k, -, -, h4⟩ := (rowEdges_mem N n _ _).1 hb
    have := (quad_inj (h3.symm.trans h4)).1
    omega
theorem first_or {N : Net} {v i w j : Nat} (h : Oth N v i w j) : First N v i ∨ First N w j := by
  unfold First
  have := h.n1; have := h.p1; have := h.n2; have := h.p2
  omega
theorem first_both {N : Net} {v i w j : Nat} (h : Oth N v i w j) (h1 : First N v i) (h2 : First N w j) : v = w ∧ i = j := by
  unfold First at h1 h2
  have := h.n1; have := h.p1; have := h.n2; have := h.p2
  omega
theorem adj_port {N : Net} (hg : Good N) {u x : Nat} (hu : u < N.ends.length) : Adj N (u : Int) (x : Int) ↔ ∃ k j, Oth N u k x j := by
  unfold Adj rw'
  rw [Int.toNat_natCast]
  constructor
  · rintro ⟨k, hk, he⟩
    obtain ⟨w, j, h⟩ := oth hg hu hk
    have := h.n1
    obtain rfl : w = x := by omega
    exact ⟨k, j, h⟩
  · rintro ⟨k, j, h⟩
    exact ⟨k, h.hi, h.n1⟩
/-- Walks are connections by edges: for a network and a list of edges that are its ports' ones. -/
theorem wk_cn {M : Net} {L : List (Nat × Nat)} (hM : Good M) (h : ∀ u x, u < M.ends.length → x < M.ends.length → (Adj M (u : Int) (x : Int) ↔ ((u, x) ∈ L ∨ (x, u) ∈ L))) (hL : ∀ e ∈ L, e.1 < M.ends.length ∧ e.2 < M.ends.length) {u v : Nat} (hu : u < M.ends.length) :
    (v : Int) ∈ wk M (u : Int) ↔ Cn L u v := by
  have hN := (good_w hM).leads
  have hx : 0 ≤ (u : Int) ∧ (u : Int) < M.ends.length := by omega
  constructor
  · intro hm
    have F := far hN hx
    have hr := (wk_ok hN hx).range _ hm
    have hg := F.ok.got hr.1 hr.2 hm
    have hb := F.ok.rng v (by omega)
    rw [Int.toNat_natCast] at hg
    obtain ⟨k, hk⟩ := Int.eq_ofNat_of_zero_le (show 0 ≤ gi (dst M (u : Int)) v by omega)
    have hw := wlk_of hN hx k (v : Int) hm (by rw [Int.toNat_natCast]; exact hk)
    have key : ∀ (k : Nat) (z : Int), Wlk M (u : Int) k z → ∃ y : Nat, z = (y : Int) ∧ y < M.ends.length ∧ Cn L u y := fun k z hz => by
      induction hz with
      | nil => exact ⟨u, rfl, hu, .refl _⟩
      | go hz' ha ih =>
        obtain ⟨y, rfl, hy, hc⟩ := ih
        have hin := (Wlk.go hz' ha).inn hN hx
        rename_i w
        obtain ⟨x, rfl⟩ := Int.eq_ofNat_of_zero_le hin.1
        have hxl : x < M.ends.length := by omega
        exact ⟨x, rfl, hxl, .step hc ((h y x hy hxl).1 ha)⟩
    obtain ⟨y, hy, -, hc⟩ := key k _ hw
    obtain rfl : v = y := by omega
    exact hc
  · intro hc
    have F := far hN hx
    have key : v < M.ends.length ∧ (v : Int) ∈ wk M (u : Int) := by
      induction hc with
      | refl => exact ⟨hu, F.here⟩
      | step _ ha ih =>
        rename_i p q _
        have hb : q < M.ends.length := by
          rcases ha with k | k
          · exact (hL _ k).2
          · exact (hL _ k).1
        exact ⟨hb, (F.near _ ih.2 _ ((h p q ih.1 hb).2 ha)).1⟩
    exact key.2
noncomputable def pairs (N : Net) : List (Nat × Nat) := (edgesTo N N.ends.length).map ends2
theorem ends2_lt {N : Net} (hg : Good N) : ∀ q ∈ edgesTo N N.ends.length, (ends2 q).1 < N.ends.length ∧ (ends2 q).2 < N.ends.length := fun q hq => by
  obtain ⟨v, i, h1, h2, -, rfl⟩ := (edgesTo_mem N _ _).1 hq
  obtain ⟨w, j, h⟩ := oth hg h1 h2
  rw [ends2_quad h]
  exact ⟨h1, h.hw⟩
theorem adj_pairs {N : Net} (hg : Good N) {u x : Nat} (hu : u < N.ends.length) (hx : x < N.ends.length) : Adj N (u : Int) (x : Int) ↔ ((u, x) ∈ pairs N ∨ (x, u) ∈ pairs N) := by
  rw [adj_port hg hu]
  unfold pairs
  simp only [List.mem_map]
  constructor
  · rintro ⟨k, j, h⟩
    rcases first_or h with hf | hf
    · exact .inl ⟨_, (edgesTo_mem N _ _).2 ⟨u, k, hu, h.hi, hf, rfl⟩, ends2_quad h⟩
    · exact .inr ⟨_, (edgesTo_mem N _ _).2 ⟨x, j, h.hw, h.hj, hf, rfl⟩, ends2_quad h.symm⟩
  · rintro (⟨q, hq, he⟩ | ⟨q, hq, he⟩)
    · obtain ⟨v, i, h1, h2, -, rfl⟩ := (edgesTo_mem N _ _).1 hq
      obtain ⟨w, j, h⟩ := oth hg h1 h2
      rw [ends2_quad h] at he
      obtain ⟨rfl, rfl⟩ := Prod.mk.inj he
      exact ⟨i, j, h⟩
    · obtain ⟨v, i, h1, h2, -, rfl⟩ := (edgesTo_mem N _ _).1 hq
      obtain ⟨w, j, h⟩ := oth hg h1 h2
      rw [ends2_quad h] at he
      obtain ⟨rfl, rfl⟩ := Prod.mk.inj he
      exact ⟨j, i, h.symm⟩
theorem pairs_cn {N : Net} (hg : Good N) {u v : Nat} (hu : u < N.ends.length) : (v : Int) ∈ wk N (u : Int) ↔ Cn (pairs N) u v :=
  wk_cn hg (fun _ _ h k => adj_pairs hg h k) (fun e he => by
    obtain ⟨q, hq, rfl⟩ := List.mem_map.1 he
    exact ends2_lt hg q hq) hu
/-- The ports that are left when an edge is left out. -/
theorem wo_oths {N : Net} {v i u k x j : Nat} (hs : st0 N v i u k = true) (h : Oth N u k x j) : Adj (woE N v i) (u : Int) (x : Int) := by
  have hk := nth_cnt (st0 N v i u) h.hi hs
  have hlt : cnt (st0 N v i u) k < cnt (st0 N v i u) (gr N.ends u).length := by
    have h1 := cnt_mono (st0 N v i u) (show k + 1 ≤ (gr N.ends u).length by have := h.hi; omega)
    rw [cnt_succ, if_pos hs] at h1
    omega
  refine ⟨cnt (st0 N v i u) k, ?_, ?_⟩
  · unfold rw' woE
    rw [Int.toNat_natCast, gr_cut N _ h.hv]
    unfold cutRow; rw [length_planRow]; exact hlt
  · unfold rw' woE
    rw [Int.toNat_natCast, gr_cut N _ h.hv]
    unfold cutRow; rw [gn_planRow hlt, hk]; exact h.n1
theorem wo_ports {N : Net} (hg : Good N) {v i u x : Nat} (hu : u < N.ends.length) (h : Adj (woE N v i) (u : Int) (x : Int)) : ∃ k j, Oth N u k x j ∧ st0 N v i u k = true := by
  obtain ⟨q, hq, he⟩ := h
  unfold rw' woE at hq he
  rw [Int.toNat_natCast, gr_cut N _ hu] at hq he
  unfold cutRow at hq he
  rw [length_planRow] at hq
  rw [gn_planRow hq] at he
  obtain ⟨h1, h2, -⟩ := nth_spec (st0 N v i u) hq
  obtain ⟨w, j, h⟩ := oth hg hu h1
  have := h.n1
  obtain rfl : w = x := by omega
  exact ⟨_, j, h, h2⟩
theorem wo_cn {N : Net} (hg : Good N) {v i : Nat} (hv : v < N.ends.length) (hi : i < (gr N.ends v).length) {A B : List (List Int)} (he : edgesTo N N.ends.length = A ++ quad N v i :: B) {u y : Nat} (hu : u < N.ends.length) :
    (y : Int) ∈ wk (woE N v i) (u : Int) ↔ Cn ((A ++ B).map ends2) u y := by
  have hnd := edgesTo_nodup N N.ends.length
  rw [he] at hnd
  have hmem : ∀ q, q ∈ A ++ B ↔ q ∈ edgesTo N N.ends.length ∧ q ≠ quad N v i := fun q => by
    rw [he]
    obtain ⟨-, n1, n2⟩ := List.nodup_append.1 hnd
    have hn2 : quad N v i ∉ A ++ B := fun h => by
      rcases List.mem_append.1 h with k | k
      · exact n2 _ k _ (by simp) rfl
      · exact (List.nodup_cons.1 n1).1 k
    simp only [List.mem_append, List.mem_cons]
    constructor
    · intro h
      exact ⟨by rcases h with k | k <;> simp [k], fun e => hn2 (by subst e; exact List.mem_append.2 h)⟩
    · rintro ⟨h | h | h, k⟩
      · exact .inl h
      · exact absurd h k
      · exact .inr h
  have hquad : First N v i := by
    obtain ⟨a, b, h1, h2, h3, h4⟩ := (edgesTo_mem N _ (quad N v i)).1 (by rw [he]; simp)
    obtain ⟨rfl, rfl⟩ := quad_inj h4
    exact h3
  obtain ⟨w0, j0, ho⟩ := oth hg hv hi
  refine wk_cn (wo_good hg v i) (fun u x hu' hx' => ?_) (fun e hE => ?_) (by rw [wo_len]; exact hu)
  · rw [wo_len] at hu' hx'
    simp only [List.mem_map, hmem]
    constructor
    · intro h
      obtain ⟨k, j, h, hs⟩ := wo_ports hg hu' h
      have hs' := st0_iff.1 hs
      rw [h.n1, h.p1] at hs'
      rcases first_or h with hf | hf
      · refine .inl ⟨_, ⟨(edgesTo_mem N _ _).2 ⟨u, k, hu', h.hi, hf, rfl⟩, fun e => hs'.1 ?_⟩, ends2_quad h⟩
        exact quad_inj e
      · refine .inr ⟨_, ⟨(edgesTo_mem N _ _).2 ⟨x, j, h.hw, h.hj, hf, rfl⟩, fun e => hs'.2 ?_⟩, ends2_quad h.symm⟩
        have := quad_inj e
        omega
    · have key : ∀ (q : List Int) (a b : Nat), q ∈ edgesTo N N.ends.length ∧ q ≠ quad N v i → ends2 q = (a, b) → ∃ k j, Oth N a k b j ∧ st0 N v i a k = true := fun q a b hq hab => by
        obtain ⟨hq1, hq2⟩ := hq
        obtain ⟨c, k, h1, h2, hf, rfl⟩ := (edgesTo_mem N _ _).1 hq1
        obtain ⟨d, j, h⟩ := oth hg h1 h2
        rw [ends2_quad h] at hab
        obtain ⟨rfl, rfl⟩ := Prod.mk.inj hab
        refine ⟨k, j, h, st0_iff.2 ⟨fun e => hq2 (by obtain ⟨rfl, rfl⟩ := e; rfl), fun e => ?_⟩⟩
        rw [h.n1, h.p1] at e
        have e1 : d = v := by omega
        have e2 : j = i := by omega
        subst e1 e2
        obtain ⟨rfl, rfl⟩ := first_both h hf hquad
        exact hq2 rfl
      rintro (⟨q, hq, hab⟩ | ⟨q, hq, hab⟩)
      · obtain ⟨k, j, h, hs⟩ := key q u x hq hab
        exact wo_oths hs h
      · obtain ⟨k, j, h, hs⟩ := key q x u hq hab
        refine wo_oths (k := j) (j := k) ?_ h.symm
        rw [st0_sym h]; exact hs
  · rw [wo_len]
    obtain ⟨q, hq, rfl⟩ := List.mem_map.1 hE
    exact ends2_lt hg q ((hmem q).1 hq).1
/-- No stub and no cycle. -/
def NoCyc (N : Net) : Prop := (∀ v, v < N.ends.length → ∀ i, i < (gr N.ends v).length → ¬ IsStub N v i) ∧ girth N = 0
theorem noCyc_iff {N : Net} (hg : Good N) : NoCyc N ↔ Jn (pairs N) := by
  unfold pairs
  rw [jn_split ends2 (n := N.ends.length) _ (ends2_lt hg)]
  have hG := gm_to hg _ (Nat.le_refl N.ends.length)
  constructor
  · rintro ⟨hs, h0⟩ A q B he hc
    obtain ⟨v, i, hv, hi, hf, rfl⟩ := (edgesTo_mem N _ q).1 (by rw [he]; simp)
    obtain ⟨w, j, ho⟩ := oth hg hv hi
    rw [ends2_quad ho] at hc
    have hm := (wo_cn hg hv hi he hv).2 hc
    have hx : 0 ≤ (v : Int) ∧ (v : Int) < (woE N v i).ends.length := by rw [wo_len]; omega
    have hd := (dst_ok (good_w (wo_good hg v i)).leads hx).has w (by rw [wo_len]; exact ho.hw)
    have : avd N v i = -1 := by
      rcases hG with ⟨-, h⟩ | ⟨h1, -⟩
      · exact h _ ⟨v, i, .inl hv, hv, hi, hs v hv i hi, rfl⟩
      · unfold girth at h0; omega
    unfold avd at this
    rw [ho.n1, Int.toNat_natCast] at this
    exact hd.2 hm this
  · intro h
    have key : ∀ v i, v < N.ends.length → i < (gr N.ends v).length → First N v i → ¬ IsStub N v i ∧ avd N v i = -1 := fun v i hv hi hf => by
      have hq := (edgesTo_mem N N.ends.length (quad N v i)).2 ⟨v, i, hv, hi, hf, rfl⟩
      obtain ⟨A, B, he⟩ := List.append_of_mem hq
      obtain ⟨w, j, ho⟩ := oth hg hv hi
      have hn := h A _ B he
      rw [ends2_quad ho] at hn
      have hx : 0 ≤ (v : Int) ∧ (v : Int) < (woE N v i).ends.length := by rw [wo_len]; omega
      have hd := (dst_ok (good_w (wo_good hg v i)).leads hx).has w (by rw [wo_len]; exact ho.hw)
      refine ⟨fun hs => ?_, ?_⟩
      · have e : w = v := by have := hs.1; have := ho.n1; omega
        subst e
        exact hn (.refl _)
      · unfold avd
        rw [ho.n1, Int.toNat_natCast]
        exact Classical.byContradiction fun hne => hn ((wo_cn hg hv hi he hv).1 (hd.1 hne))
    have key2 : ∀ v i, v < N.ends.length → i < (gr N.ends v).length → ¬ IsStub N v i ∧ avd N v i = -1 := fun v i hv hi => by
      obtain ⟨w, j, ho⟩ := oth hg hv hi
      rcases first_or ho with hf | hf
      · exact key v i hv hi hf
      · obtain ⟨k1, k2⟩ := key w j ho.hw ho.hj hf
        refine ⟨fun hs => k1 ?_, by rw [← avd_oth hg ho]; exact k2⟩
        have := ho.n1; have := ho.p1; have := ho.n2; have := ho.p2
        obtain ⟨s1, s2⟩ := hs
        exact ⟨by omega, by omega⟩
    refine ⟨fun v hv i hi => (key2 v i hv hi).1, ?_⟩
    rcases hG with ⟨h1, -⟩ | ⟨h1, ⟨v, i, -, hv, hi, -, hd⟩, -⟩
    · exact h1
    · have := (key2 v i hv hi).2
      unfold girth
      omega
/-- No node that can be reached is less. -/
def lessN (N : Net) (v : Nat) : Prop := ∀ x ∈ wk N (v : Int), (v : Int) ≤ x
/-- The least node of its component. -/
theorem least_iff {N : Net} (hg : Good N) {v : Nat} (hv : v < N.ends.length) : lessN N v ↔ Rp (pairs N) v := by
  unfold lessN Rp
  constructor
  · intro h x hx hc
    have := h (x : Int) ((pairs_cn hg hv).2 hc.symm)
    omega
  · intro h x hm
    have hr := (wk_ok (good_w hg).leads (v := (v : Int)) (by omega)).range x hm
    obtain ⟨y, rfl⟩ := Int.eq_ofNat_of_zero_le hr.1
    have hc := (pairs_cn hg hv).1 hm
    by_cases e : y < v
    · exact absurd hc.symm (h y e)
    · omega
end Go.Proofs.Ytkeiaahlifdbiaa
