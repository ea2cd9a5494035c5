/- The lift of a network as plain data: joins that may be made twice; the lift is a network. -/
import Derived.Test.YtdcgpodjoalokaaLfa
import Derived.Test.YtdcgpodjoalokaaLg
namespace Go.Proofs.Ytdcgpodjoalokaa
open Go.RowKit

structure Oth (N : Net) (v i w j : Nat) : Prop where
  hv : v < N.ends.length
  hi : i < (gr N.ends v).length
  hw : w < N.ends.length
  hj : j < (gr N.ends w).length
  n1 : gn (gr N.ends v) i = (w : Int)
  p1 : gp (gr N.ends v) i = (j : Int)
  n2 : gn (gr N.ends w) j = (v : Int)
  p2 : gp (gr N.ends w) j = (i : Int)
theorem oth {N : Net} (hg : Good N) {v i : Nat} (hv : v < N.ends.length) (hi : i < (gr N.ends v).length) : ∃ w j, Oth N v i w j := by
  obtain ⟨⟨a1, a2, a3, a4⟩, b1, b2⟩ := (hg.2.1 v hv).2 i hi
  obtain ⟨x, hx⟩ := Int.eq_ofNat_of_zero_le a1
  obtain ⟨p, hp⟩ := Int.eq_ofNat_of_zero_le a3
  rw [hx] at a2 a4 b1 b2
  rw [hp] at a4 b1 b2
  simp only [Int.toNat_natCast] at a4 b1 b2
  exact ⟨x, p, hv, hi, by omega, by omega, hx, hp, b1, b2⟩
theorem Oth.symm {N : Net} {v i w j : Nat} (h : Oth N v i w j) : Oth N w j v i := ⟨h.hw, h.hj, h.hv, h.hi, h.n2, h.p2, h.n1, h.p1⟩
theorem rowEdges_mem (N : Net) (v : Nat) : ∀ k (e : List Int), e ∈ rowEdges N v k ↔ ∃ i, i < k ∧ First N v i ∧ e = quad N v i
  | 0, e => by simp [rowEdges]
  | k + 1, e => by
    have ih := rowEdges_mem N v k e
    by_cases hf : First N v k
    · simp only [rowEdges, portEdge_t hf, List.mem_append, List.mem_singleton, ih]
      constructor
      · rintro (⟨i, h1, h2⟩ | rfl)
        · exact ⟨i, by omega, h2⟩
        · exact ⟨k, by omega, hf, rfl⟩
      · rintro ⟨i, h1, h2, h3⟩
        by_cases e : i = k
        · subst e; exact .inr h3
        · exact .inl ⟨i, by omega, h2, h3⟩
    · simp only [rowEdges, portEdge_f hf, List.append_nil, ih]
      constructor
      · rintro ⟨i, h1, h2⟩; exact ⟨i, by omega, h2⟩
      · rintro ⟨i, h1, h2, h3⟩
        by_cases e : i = k
        · subst e; exact absurd h2 hf
        · exact ⟨i, by omega, h2, h3⟩
theorem edgesTo_mem (N : Net) : ∀ n (e : List Int), e ∈ edgesTo N n ↔ ∃ v i, v < n ∧ i < (gr N.ends v).length ∧ First N v i ∧ e = quad N v i
  | 0, e => by simp [edgesTo]
  | n + 1, e => by
    have ih := edgesTo_mem N n e
    simp only [edgesTo, List.mem_append, ih, rowEdges_mem]
    constructor
    · rintro (⟨v, i, h1, h2⟩ | ⟨i, h1, h2⟩)
      · exact ⟨v, i, by omega, h2⟩
      · exact ⟨n, i, by omega, h1, h2⟩
    · rintro ⟨v, i, h1, h2, h3, h4⟩
      by_cases e : v = n
      · subst e; exact .inr ⟨i, h2, h3, h4⟩
      · exact .inl ⟨v, i, by omega, h2, h3, h4⟩
theorem quad_inj {N : Net} {v i u k : Nat} (h : quad N v i = quad N u k) : v = u ∧ i = k := by
  have e1 : (v : Int) = (u : Int) := by have := congrArg (fun l => gi l 0) h; simpa [quad, gi] using this
  have e2 : (i : Int) = (k : Int) := by have := congrArg (fun l => gi l 1) h; simpa [quad, gi] using this
  exact ⟨by omega, by omega⟩
theorem rowEdges_nodup (N : Net) (v : Nat) : ∀ k, (rowEdges N v k).Nodup
  | 0 => by simp [rowEdges]
  | k + 1 => by
    have ih := rowEdges_nodup N v k
    by_cases hf : First N v k
    · simp only [rowEdges, portEdge_t hf]
      refine List.nodup_append.2 ⟨ih, by simp, fun a ha b hb e => ?_⟩
      obtain rfl := List.mem_singleton.1 hb
      subst e
      obtain ⟨i, h1, -, h3⟩ := (rowEdges_mem N v k _).1 ha
      have := (quad_inj h3).2
      omega
    · simp only [rowEdges, portEdge_f hf, List.append_nil]; exact ih
theorem edgesTo_nodup (N : Net) : ∀ n, (edgesTo N n).Nodup
  | 0 => by simp [edgesTo]
  | n + 1 => by
    refine List.nodup_append.2 ⟨edgesTo_nodup N n, rowEdges_nodup N n _, fun a ha b hb e => ?_⟩
    subst e
    obtain ⟨v, i, h1, -, -, h3⟩ := (edgesTo_mem N n _).1 ha
    obtain ⟨k, -, -, h4⟩ := (rowEdges_mem N n _ _).1 hb
    have := (quad_inj (h3.symm.trans h4)).1
    omega
theorem first_or {N : Net} {v i w j : Nat} (h : Oth N v i w j) : First N v i ∨ First N w j := by
  unfold First
  have := h.n1; have := h.p1; have := h.n2; have := h.p2
  omega
theorem first_both {N : Net} {v i w j : Nat} (h : Oth N v i w j) (h1 : First N v i) (h2 : First N w j) : v = w ∧ i = j := by
  unfold First at h1 h2
  have := h.n1; have := h.p1; have := h.n2; have := h.p2
  omega

/-- Two pairs that share a port join it with the same one. -/
def Agree (E : List (Int × Int)) : Prop := ∀ i j, i < E.length → j < E.length → gn E i = gn E j → gp E i = gp E j → ge E (mate i) = ge E (mate j)
theorem link_getA {N : Net} {E : List (Int × Int)} (hp : PortsOK N E) (ho : Agree E) : ∀ m, 2 * m ≤ E.length → ∀ i, i < 2 * m → endAt (linkTo N E m) (gn E i).toNat (gp E i).toNat = ge E (mate i)
  | 0, _, i, hi => absurd hi (by omega)
  | m + 1, hm, i, hi => by
    have ih := link_getA hp ho m (by omega)
    obtain ⟨a1, a2, a3, a4⟩ := hp (2 * m) (by omega)
    obtain ⟨b1, b2, b3, b4⟩ := hp (2 * m + 1) (by omega)
    obtain ⟨c1, c2, c3, c4⟩ := hp i (by omega)
    have hl := linkTo_len N E m
    rw [linkTo, linkNet, ge, ge]
    rw [endAt_set (by rw [setEnd_len, hl]; simp only; omega) (by rw [setEnd_row, linkTo_row]; simp only; omega)]
    have heq : ∀ j, j < E.length → ((gn E i).toNat = (gn E j).toNat ∧ (gp E i).toNat = (gp E j).toNat) → ge E (mate i) = ge E (mate j) := fun j hj h => by
      obtain ⟨d1, d2, d3, d4⟩ := hp j hj
      exact ho i j (by omega) hj (by omega) (by omega)
    by_cases e1 : (gn E i).toNat = (gn E (2 * m + 1)).toNat ∧ (gp E i).toNat = (gp E (2 * m + 1)).toNat
    · rw [if_pos e1, heq _ (by omega) e1, show mate (2 * m + 1) = 2 * m by unfold mate; rw [if_neg (by omega)]; omega]
      rfl
    · rw [if_neg e1, endAt_set (by rw [hl]; simp only; omega) (by rw [linkTo_row]; simp only; omega)]
      by_cases e2 : (gn E i).toNat = (gn E (2 * m)).toNat ∧ (gp E i).toNat = (gp E (2 * m)).toNat
      · rw [if_pos e2, heq _ (by omega) e2, show mate (2 * m) = 2 * m + 1 by unfold mate; rw [if_pos (by omega)]]
        rfl
      · rw [if_neg e2]
        refine ih i ?_
        have h1 : i ≠ 2 * m := fun e => e2 (by rw [e]; exact ⟨rfl, rfl⟩)
        have h2 : i ≠ 2 * m + 1 := fun e => e1 (by rw [e]; exact ⟨rfl, rfl⟩)
        omega
theorem link_endsA {N : Net} {E : List (Int × Int)} {m : Nat} (hm : E.length = 2 * m) (hp : PortsOK N E) (ho : Agree E) (hd : ∀ v, v < N.ends.length → (gr N.ends v).length ≤ 6)
    (hc : ∀ v j, v < N.ends.length → j < (gr N.ends v).length → ∃ i, i < 2 * m ∧ gn E i = v ∧ gp E i = j) : EndsOK (linkTo N E m).ends := by
  intro v hv
  rw [linkTo_len] at hv
  refine ⟨by rw [linkTo_row]; exact hd v hv, fun j hj => ?_⟩
  rw [linkTo_row] at hj
  obtain ⟨i, hi, h1, h2⟩ := hc v j hv hj
  have g1 := link_getA hp ho m (by omega) i hi
  have g2 := link_getA hp ho m (by omega) (mate i) (mate_lt hi)
  rw [mate_mate] at g2
  rw [h1, h2] at g1
  simp only [Int.toNat_natCast] at g1
  obtain ⟨c1, c2, c3, c4⟩ := hp (mate i) (by rw [hm]; exact mate_lt hi)
  have e1 : gn (gr (linkTo N E m).ends v) j = gn E (mate i) := congrArg Prod.fst g1
  have e2 : gp (gr (linkTo N E m).ends v) j = gp E (mate i) := congrArg Prod.snd g1
  unfold JoinOK PortOK
  rw [e1, e2, linkTo_len, linkTo_row]
  have e3 : gn (gr (linkTo N E m).ends (gn E (mate i)).toNat) (gp E (mate i)).toNat = gn E i := congrArg Prod.fst g2
  have e4 : gp (gr (linkTo N E m).ends (gn E (mate i)).toNat) (gp E (mate i)).toNat = gp E i := congrArg Prod.snd g2
  exact ⟨⟨c1, c2, c3, c4⟩, by rw [e3, h1], by rw [e4, h2]⟩

/-- A list of pairs of ports, flat. -/
def pairsL (f : Nat → (Int × Int) × (Int × Int)) (m : Nat) : List (Int × Int) := (List.range (2 * m)).map fun i => if i % 2 = 0 then (f (i / 2)).1 else (f (i / 2)).2
theorem pairsL_len (f : Nat → (Int × Int) × (Int × Int)) (m : Nat) : (pairsL f m).length = 2 * m := by simp [pairsL]
theorem ge_pairsL {f : Nat → (Int × Int) × (Int × Int)} {m i : Nat} (h : i < 2 * m) : ge (pairsL f m) i = if i % 2 = 0 then (f (i / 2)).1 else (f (i / 2)).2 := by
  simp [ge, gn, gp, pairsL, List.getD, h]
theorem ge_even {f : Nat → (Int × Int) × (Int × Int)} {m i : Nat} (h : i < m) : ge (pairsL f m) (2 * i) = (f i).1 := by
  rw [ge_pairsL (by omega), if_pos (by omega), show 2 * i / 2 = i by omega]
theorem ge_odd {f : Nat → (Int × Int) × (Int × Int)} {m i : Nat} (h : i < m) : ge (pairsL f m) (2 * i + 1) = (f i).2 := by
  rw [ge_pairsL (by omega), if_neg (by omega), show (2 * i + 1) / 2 = i by omega]

/-- The first m rows of the lift, no ports joined. -/
def liftB (N : Net) (k m : Nat) : Net := ⟨(List.range m).map fun u => List.replicate (gr N.ends (u / k)).length (0, 0), [], (List.range m).map fun u => gi N.inputs (u / k)⟩
theorem liftB_len (N : Net) (k m : Nat) : (liftB N k m).ends.length = m := by simp [liftB]
theorem gr_liftB {N : Net} {k m u : Nat} (h : u < m) : gr (liftB N k m).ends u = List.replicate (gr N.ends (u / k)).length (0, 0) := by simp [gr, liftB, h]
theorem gi_liftB {N : Net} {k m u : Nat} (h : u < m) : gi (liftB N k m).inputs u = gi N.inputs (u / k) := by simp [gi, liftB, h]
theorem liftB_step (N : Net) (k m : Nat) : addIn (addRow (liftB N k m) (List.replicate (gr N.ends (m / k)).length (0, 0))) (gi N.inputs (m / k)) = liftB N k (m + 1) := by
  simp [liftB, addIn, addRow, List.range_succ]
/-- The m-th pair of ports that the lift joins. -/
noncomputable def pf (N : Net) (P : List (List Int)) (k m : Nat) : (Int × Int) × (Int × Int) :=
  ((gi (gr (edgesTo N N.ends.length) (m / k)) 0 * k + ((m % k : Nat) : Int), gi (gr (edgesTo N N.ends.length) (m / k)) 1),
   (gi (gr (edgesTo N N.ends.length) (m / k)) 2 * k + gi (gr P (m / k)) (m % k), gi (gr (edgesTo N N.ends.length) (m / k)) 3))
noncomputable def liftL (N : Net) (k : Nat) (P : List (List Int)) : List (Int × Int) := pairsL (pf N P k) ((edgesTo N N.ends.length).length * k)
noncomputable def liftNet (N : Net) (k : Nat) (P : List (List Int)) : Net := linkTo (liftB N k (N.ends.length * k)) (liftL N k P) ((edgesTo N N.ends.length).length * k)
theorem dmK {k t s : Nat} (hs : s < k) : (t * k + s) / k = t ∧ (t * k + s) % k = s := by
  constructor
  · rw [Nat.mul_comm, Nat.mul_add_div (by omega), Nat.div_eq_of_lt hs, Nat.add_zero]
  · rw [Nat.mul_comm, Nat.mul_add_mod, Nat.mod_eq_of_lt hs]
theorem dmLt {k t T s : Nat} (hs : s < k) (ht : t < T) : t * k + s < T * k := by
  have h1 := Nat.mul_le_mul_right k (show t + 1 ≤ T from ht)
  rw [Nat.succ_mul] at h1
  omega
theorem dmEq {k a b c d : Nat} (hb : b < k) (hd : d < k) (h : a * k + b = c * k + d) : a = c ∧ b = d := by
  have h1 := dmK (t := a) hb
  have h2 := dmK (t := c) hd
  rw [h] at h1
  exact ⟨h1.1.symm.trans h2.1, h1.2.symm.trans h2.2⟩
theorem dmSplit {k m T : Nat} (h : m < T * k) : m / k < T ∧ m % k < k ∧ (m / k) * k + m % k = m := by
  have hk : 0 < k := by
    rcases Nat.eq_zero_or_pos k with e | e
    · subst e; simp at h
    · exact e
  refine ⟨Nat.div_lt_of_lt_mul (by rw [Nat.mul_comm]; exact h), Nat.mod_lt _ hk, ?_⟩
  rw [Nat.mul_comm]
  exact Nat.div_add_mod m k
theorem edgeL_at {N : Net} (hg : Good N) {t : Nat} (ht : t < (edgesTo N N.ends.length).length) : ∃ v i w j, Oth N v i w j ∧ First N v i ∧ gr (edgesTo N N.ends.length) t = quad N v i := by
  have hm : gr (edgesTo N N.ends.length) t ∈ edgesTo N N.ends.length := by
    have : gr (edgesTo N N.ends.length) t = (edgesTo N N.ends.length)[t] := by simp [gr, List.getD, ht]
    rw [this]; exact List.getElem_mem ht
  obtain ⟨v, i, h1, h2, h3, h4⟩ := (edgesTo_mem N _ _).1 hm
  obtain ⟨w, j, ho⟩ := oth hg h1 h2
  exact ⟨v, i, w, j, ho, h3, h4⟩
theorem edgeL_of {N : Net} {v i : Nat} (hv : v < N.ends.length) (hi : i < (gr N.ends v).length) (hf : First N v i) : ∃ t, t < (edgesTo N N.ends.length).length ∧ gr (edgesTo N N.ends.length) t = quad N v i := by
  have hm := (edgesTo_mem N N.ends.length (quad N v i)).2 ⟨v, i, hv, hi, hf, rfl⟩
  obtain ⟨s, hs1, hs2⟩ := List.mem_iff_getElem.1 hm
  exact ⟨s, hs1, by simp [gr, List.getD, hs1, hs2]⟩
theorem edgeL_inj {N : Net} {t t' : Nat} (ht : t < (edgesTo N N.ends.length).length) (ht' : t' < (edgesTo N N.ends.length).length) (h : gr (edgesTo N N.ends.length) t = gr (edgesTo N N.ends.length) t') : t = t' := by
  have e1 : gr (edgesTo N N.ends.length) t = (edgesTo N N.ends.length)[t] := by simp [gr, List.getD, ht]
  have e2 : gr (edgesTo N N.ends.length) t' = (edgesTo N N.ends.length)[t'] := by simp [gr, List.getD, ht']
  rw [e1, e2] at h
  exact (List.getElem_inj (edgesTo_nodup N _)).1 h
/-- What the m-th pair is. -/
structure PairAt (N : Net) (P : List (List Int)) (k m t s v i w j c : Nat) : Prop where
  o : Oth N v i w j
  f : First N v i
  e : gr (edgesTo N N.ends.length) t = quad N v i
  ht : t < (edgesTo N N.ends.length).length
  hs : s < k
  hc : c < k
  p : gi (gr P t) s = (c : Int)
  hm : m = t * k + s
  eq : pf N P k m = ((((v * k + s : Nat) : Int), (i : Int)), (((w * k + c : Nat) : Int), (j : Int)))
theorem pair_at {N : Net} (hg : Good N) {P : List (List Int)} {k m : Nat} (hP : SheetsOK (edgesTo N N.ends.length) P k) (hm : m < (edgesTo N N.ends.length).length * k) : ∃ t s v i w j c, PairAt N P k m t s v i w j c := by
  obtain ⟨h1, h2, h3⟩ := dmSplit hm
  obtain ⟨v, i, w, j, ho, hf, he⟩ := edgeL_at hg h1
  obtain ⟨c, hc1, hc2⟩ := perm_range (hP.2 _ h1).1 h2
  refine ⟨m / k, m % k, v, i, w, j, c, ho, hf, he, h1, h2, hc2, hc1, h3.symm, ?_⟩
  unfold pf
  rw [he, hc1]
  have := ho.n1
  have := ho.p1
  simp only [quad, gi, List.getD_cons_zero, List.getD_cons_succ, ho.n1, ho.p1, Int.natCast_add, Int.natCast_mul]
theorem oth_det {N : Net} {v i w j w' j' : Nat} (h : Oth N v i w j) (h' : Oth N v i w' j') : w = w' ∧ j = j' := by
  have h1 := h.n1.symm.trans h'.n1
  have h2 := h.p1.symm.trans h'.p1
  exact ⟨by omega, by omega⟩
theorem lift_agree {N : Net} (hg : Good N) {P : List (List Int)} {k : Nat} (hP : SheetsOK (edgesTo N N.ends.length) P k) : Agree (liftL N k P) := by
  intro a b ha hb h1 h2
  unfold liftL at ha hb h1 h2 ⊢
  rw [pairsL_len] at ha hb
  obtain ⟨t, s, v, i, w, j, c, A⟩ := pair_at hg hP (m := a / 2) (by omega)
  obtain ⟨t', s', v', i', w', j', c', B⟩ := pair_at hg hP (m := b / 2) (by omega)
  have hge : ge (pairsL (pf N P k) ((edgesTo N N.ends.length).length * k)) a = ge (pairsL (pf N P k) ((edgesTo N N.ends.length).length * k)) b := by
    unfold ge; rw [h1, h2]
  have ma : ge (pairsL (pf N P k) ((edgesTo N N.ends.length).length * k)) (mate a) = if a % 2 = 0 then (pf N P k (a / 2)).2 else (pf N P k (a / 2)).1 := by
    rw [ge_pairsL (mate_lt ha)]
    unfold mate
    by_cases e : a % 2 = 0
    · rw [if_pos e, if_pos e, if_neg (by omega), show (a + 1) / 2 = a / 2 by omega]
    · rw [if_neg e, if_neg e, if_pos (by omega), show (a - 1) / 2 = a / 2 by omega]
  have mb : ge (pairsL (pf N P k) ((edgesTo N N.ends.length).length * k)) (mate b) = if b % 2 = 0 then (pf N P k (b / 2)).2 else (pf N P k (b / 2)).1 := by
    rw [ge_pairsL (mate_lt hb)]
    unfold mate
    by_cases e : b % 2 = 0
    · rw [if_pos e, if_pos e, if_neg (by omega), show (b + 1) / 2 = b / 2 by omega]
    · rw [if_neg e, if_neg e, if_pos (by omega), show (b - 1) / 2 = b / 2 by omega]
  rw [ge_pairsL ha, ge_pairsL hb, A.eq, B.eq] at hge
  rw [ma, mb, A.eq, B.eq]
  by_cases ea : a % 2 = 0
  · by_cases eb : b % 2 = 0
    · rw [if_pos ea, if_pos eb] at hge ⊢
      simp only [Prod.mk.injEq] at hge
      obtain ⟨rfl, rfl⟩ := dmEq A.hs B.hs (by omega : v * k + s = v' * k + s')
      obtain rfl : i = i' := by omega
      obtain rfl := edgeL_inj A.ht B.ht (A.e.trans B.e.symm)
      obtain ⟨rfl, rfl⟩ := oth_det A.o B.o
      have := A.p.symm.trans B.p
      obtain rfl : c = c' := by omega
      rfl
    · rw [if_pos ea, if_neg eb] at hge ⊢
      simp only [Prod.mk.injEq] at hge
      obtain ⟨rfl, rfl⟩ := dmEq A.hs B.hc (by omega : v * k + s = w' * k + c')
      obtain rfl : i = j' := by omega
      obtain ⟨rfl, rfl⟩ := oth_det A.o ⟨B.o.hw, B.o.hj, B.o.hv, B.o.hi, B.o.n2, B.o.p2, B.o.n1, B.o.p1⟩
      obtain ⟨rfl, rfl⟩ := first_both A.o A.f B.f
      obtain rfl := edgeL_inj A.ht B.ht (A.e.trans B.e.symm)
      have hst : StubE (gr (edgesTo N N.ends.length) t) := by
        rw [A.e]; simp [StubE, quad, gi, A.o.n1, A.o.p1]
      have hb := (hP.2 t A.ht).2 hst s' (by rw [(hP.2 t A.ht).1.1]; exact B.hs)
      rw [B.p, Int.toNat_natCast, A.p] at hb
      obtain rfl : c = s' := by omega
      rfl
  · by_cases eb : b % 2 = 0
    · rw [if_neg ea, if_pos eb] at hge ⊢
      simp only [Prod.mk.injEq] at hge
      obtain ⟨rfl, rfl⟩ := dmEq A.hc B.hs (by omega : w * k + c = v' * k + s')
      obtain rfl : j = i' := by omega
      obtain ⟨rfl, rfl⟩ := oth_det ⟨A.o.hw, A.o.hj, A.o.hv, A.o.hi, A.o.n2, A.o.p2, A.o.n1, A.o.p1⟩ B.o
      obtain ⟨rfl, rfl⟩ := first_both A.o A.f B.f
      obtain rfl := edgeL_inj A.ht B.ht (A.e.trans B.e.symm)
      have hst : StubE (gr (edgesTo N N.ends.length) t) := by
        rw [A.e]; simp [StubE, quad, gi, A.o.n1, A.o.p1]
      have hb := (hP.2 t A.ht).2 hst s (by rw [(hP.2 t A.ht).1.1]; exact A.hs)
      rw [A.p, Int.toNat_natCast, B.p] at hb
      obtain rfl : c' = s := by omega
      rfl
    · rw [if_neg ea, if_neg eb] at hge ⊢
      simp only [Prod.mk.injEq] at hge
      obtain ⟨rfl, rfl⟩ := dmEq A.hc B.hc (by omega : w * k + c = w' * k + c')
      obtain rfl : j = j' := by omega
      obtain ⟨rfl, rfl⟩ := oth_det ⟨A.o.hw, A.o.hj, A.o.hv, A.o.hi, A.o.n2, A.o.p2, A.o.n1, A.o.p1⟩ ⟨B.o.hw, B.o.hj, B.o.hv, B.o.hi, B.o.n2, B.o.p2, B.o.n1, B.o.p1⟩
      obtain rfl := edgeL_inj A.ht B.ht (A.e.trans B.e.symm)
      obtain rfl := perm_inj (hP.2 t A.ht).1 A.hs B.hs (A.p.trans B.p.symm)
      rfl
theorem liftL_len (N : Net) (k : Nat) (P : List (List Int)) : (liftL N k P).length = 2 * ((edgesTo N N.ends.length).length * k) := pairsL_len _ _
theorem row_liftB {N : Net} {k v s : Nat} (hs : s < k) (hv : v < N.ends.length) : (gr (liftB N k (N.ends.length * k)).ends (v * k + s)).length = (gr N.ends v).length := by
  rw [gr_liftB (dmLt hs hv), (dmK hs).1, List.length_replicate]
theorem lift_ports {N : Net} (hg : Good N) {P : List (List Int)} {k : Nat} (hP : SheetsOK (edgesTo N N.ends.length) P k) : PortsOK (liftB N k (N.ends.length * k)) (liftL N k P) := by
  intro a ha
  rw [liftL_len] at ha
  obtain ⟨t, s, v, i, w, j, c, A⟩ := pair_at hg hP (m := a / 2) (by omega)
  have h : ge (liftL N k P) a = _ := ge_pairsL ha
  rw [A.eq] at h
  rw [liftB_len]
  by_cases e : a % 2 = 0
  · rw [if_pos e] at h
    have h1 : gn (liftL N k P) a = ((v * k + s : Nat) : Int) := congrArg Prod.fst h
    have h2 : gp (liftL N k P) a = (i : Int) := congrArg Prod.snd h
    rw [h1, h2, Int.toNat_natCast, row_liftB A.hs A.o.hv]
    have := dmLt A.hs A.o.hv
    have := A.o.hi
    exact ⟨by omega, by omega, by omega, by omega⟩
  · rw [if_neg e] at h
    have h1 : gn (liftL N k P) a = ((w * k + c : Nat) : Int) := congrArg Prod.fst h
    have h2 : gp (liftL N k P) a = (j : Int) := congrArg Prod.snd h
    rw [h1, h2, Int.toNat_natCast, row_liftB A.hc A.o.hw]
    have := dmLt A.hc A.o.hw
    have := A.o.hj
    exact ⟨by omega, by omega, by omega, by omega⟩
theorem lift_cover {N : Net} (hg : Good N) {P : List (List Int)} {k : Nat} (hP : SheetsOK (edgesTo N N.ends.length) P k) (u y : Nat) (hu : u < N.ends.length * k) (hy : y < (gr (liftB N k (N.ends.length * k)).ends u).length) :
    ∃ a, a < 2 * ((edgesTo N N.ends.length).length * k) ∧ gn (liftL N k P) a = (u : Int) ∧ gp (liftL N k P) a = (y : Int) := by
  obtain ⟨h1, h2, h3⟩ := dmSplit hu
  rw [gr_liftB hu, List.length_replicate] at hy
  obtain ⟨w, j, ho⟩ := oth hg h1 hy
  rcases first_or ho with hf | hf
  · obtain ⟨t, ht, he⟩ := edgeL_of h1 hy hf
    have hm := dmLt (t := t) h2 ht
    obtain ⟨t', s', v, i, w', j', c, A⟩ := pair_at hg hP hm
    obtain ⟨rfl, rfl⟩ := dmEq h2 A.hs A.hm
    obtain ⟨e1, e2⟩ := quad_inj (he.symm.trans A.e)
    have h : ge (liftL N k P) (2 * (t * k + u % k)) = _ := ge_even hm
    rw [A.eq] at h
    refine ⟨2 * (t * k + u % k), by omega, ?_, ?_⟩
    · rw [show gn (liftL N k P) (2 * (t * k + u % k)) = _ from congrArg Prod.fst h, ← e1, h3]
    · rw [show gp (liftL N k P) (2 * (t * k + u % k)) = _ from congrArg Prod.snd h, ← e2]
  · obtain ⟨t, ht, he⟩ := edgeL_of ho.hw ho.hj hf
    obtain ⟨s, hs, hc⟩ := perm_onto (hP.2 t ht).1 h2
    have hm := dmLt (t := t) hs ht
    obtain ⟨t', s', v, i, w', j', c, A⟩ := pair_at hg hP hm
    obtain ⟨rfl, rfl⟩ := dmEq hs A.hs A.hm
    obtain ⟨rfl, rfl⟩ := quad_inj (he.symm.trans A.e)
    obtain ⟨rfl, rfl⟩ := oth_det A.o ⟨ho.hw, ho.hj, ho.hv, ho.hi, ho.n2, ho.p2, ho.n1, ho.p1⟩
    have hcc := hc.symm.trans A.p
    obtain rfl : u % k = c := by omega
    have h : ge (liftL N k P) (2 * (t * k + s) + 1) = _ := ge_odd hm
    rw [A.eq] at h
    refine ⟨2 * (t * k + s) + 1, by omega, ?_, ?_⟩
    · rw [show gn (liftL N k P) (2 * (t * k + s) + 1) = _ from congrArg Prod.fst h, h3]
    · exact congrArg Prod.snd h
theorem link_ids (N : Net) (E : List (Int × Int)) : ∀ m, (linkTo N E m).ids = N.ids ∧ (linkTo N E m).inputs = N.inputs
  | 0 => ⟨rfl, rfl⟩
  | m + 1 => link_ids N E m
theorem lift_good {N : Net} (hg : Good N) {P : List (List Int)} {k : Nat} (hk : 1 ≤ k) (hkn : N.ends.length * k ≤ 40) (hP : SheetsOK (edgesTo N N.ends.length) P k) : Good (liftNet N k P) := by
  obtain ⟨l1, l2⟩ := link_ids (liftB N k (N.ends.length * k)) (liftL N k P) ((edgesTo N N.ends.length).length * k)
  have hl : (liftNet N k P).ends.length = N.ends.length * k := by unfold liftNet; rw [linkTo_len, liftB_len]
  have h1 := hg.1.1
  refine ⟨⟨?_, by rw [hl]; exact hkn⟩, ?_, ?_, ?_⟩
  · rw [hl]; exact Nat.mul_pos h1 hk
  · refine link_endsA (liftL_len N k P) (lift_ports hg hP) (lift_agree hg hP) (fun u hu => ?_) (fun u y hu hy => ?_)
    · rw [liftB_len] at hu
      rw [gr_liftB hu, List.length_replicate]
      exact (hg.2.1 _ (dmSplit hu).1).1
    · rw [liftB_len] at hu
      exact lift_cover hg hP u y hu hy
  · unfold liftNet
    rw [l1]
    exact ⟨.inl rfl, fun i hi => absurd hi (by simp [liftB])⟩
  · rw [hl]
    unfold liftNet
    rw [l2]
    refine ⟨by simp [liftB], fun i hi => ?_⟩
    have hi' : i < N.ends.length * k := by simpa [liftB] using hi
    rw [gi_liftB hi']
    exact hg.2.2.2.2 _ (by have := hg.2.2.2.1; have := (dmSplit hi').1; omega)
def LiftOK (N : Net) (k : Int) (P : List (List Int)) : Prop := ((Good N ∧ InB k 1 40) ∧ (N.ends.length : Int) * k ≤ 40) ∧ SheetsOK (edgesTo N N.ends.length) P k.toNat
noncomputable def liftAns (N : Net) (k : Int) (P : List (List Int)) : Net := if dec (LiftOK N k P) = true then liftNet N k.toNat P else zeroNet
theorem liftAns_t {N : Net} {k : Int} {P : List (List Int)} (h : LiftOK N k P) : liftAns N k P = liftNet N k.toNat P := by unfold liftAns; rw [if_pos (dec_true h)]
theorem liftAns_f {N : Net} {k : Int} {P : List (List Int)} (h : ¬ LiftOK N k P) : liftAns N k P = zeroNet := by unfold liftAns; rw [if_neg (by rw [dec_false h]; simp)]
theorem liftAns_good {N : Net} {k : Int} {P : List (List Int)} (h : LiftOK N k P) : Good (liftNet N k.toNat P) := by
  obtain ⟨⟨⟨h1, h2, h3⟩, h4⟩, h5⟩ := h
  obtain ⟨c, hc⟩ := Int.eq_ofNat_of_zero_le (show 0 ≤ k by omega)
  subst hc
  rw [Int.toNat_natCast] at h5 ⊢
  exact lift_good h1 (by omega) (by exact_mod_cast h4) h5
theorem liftAns_small (N : Net) (k : Int) (P : List (List Int)) : (liftAns N k P).small := by
  by_cases h : LiftOK N k P
  · rw [liftAns_t h]; exact good_small (liftAns_good h)
  · rw [liftAns_f h]; exact zero_small
end Go.Proofs.Ytdcgpodjoalokaa
