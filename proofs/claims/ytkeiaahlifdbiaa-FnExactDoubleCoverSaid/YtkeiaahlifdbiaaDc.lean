/- Double covers as plain data: networks of two copies of the nodes; ends that are written over one after another. -/
import Derived.Test.YtkeiaahlifdbiaaUo
import Derived.Test.YtkeiaahlifdbiaaKg
import Derived.Test.YtkeiaahlifdbiaaVc
namespace Go.Proofs.Ytkeiaahlifdbiaa
open Go.RowKit

theorem rows_same {l m : List (List (Int × Int))} (h : l.length = m.length) (hr : ∀ v, v < l.length → gr l v = gr m v) : l = m := by
  refine List.ext_getElem h fun i h1 h2 => ?_
  have := hr i h1
  simpa [gr, List.getD, h1, h2] using this
theorem ge_get (r : List (Int × Int)) {i : Nat} (h : i < r.length) : (gn r i, gp r i) = r[i] := by simp [gn, gp, List.getD, h]

/-- Two copies of rows: the ends of the first one lie t0 further, those of the second one t1. -/
theorem ends_two {R L : List (List (Int × Int))} {n t0 t1 : Nat} (h : EndsOK R) (hR : R.length = n) (hL : L.length = n + n) (ht : t0 = 0 ∧ t1 = n ∨ t0 = n ∧ t1 = 0)
    (hl : ∀ v, v < n → (gr L v).length = (gr R v).length ∧ ∀ i, i < (gr R v).length → gn (gr L v) i = gn (gr R v) i + t0 ∧ gp (gr L v) i = gp (gr R v) i)
    (hr : ∀ v, v < n → (gr L (n + v)).length = (gr R v).length ∧ ∀ i, i < (gr R v).length → gn (gr L (n + v)) i = gn (gr R v) i + t1 ∧ gp (gr L (n + v)) i = gp (gr R v) i) : EndsOK L := by
  intro V hV
  have key : ∀ v t V, v < n → (V = v ∧ t = t0 ∨ V = n + v ∧ t = t1) → (gr L V).length = (gr R v).length → (∀ i, i < (gr R v).length → gn (gr L V) i = gn (gr R v) i + (t : Nat) ∧ gp (gr L V) i = gp (gr R v) i) → RowOK L V := by
    intro v t V hv hVt hlen hent
    have hRv := h v (by omega)
    refine ⟨by rw [hlen]; exact hRv.1, fun i hi => ?_⟩
    rw [hlen] at hi
    obtain ⟨⟨a1, a2, a3, a4⟩, b1, b2⟩ := hRv.2 i hi
    obtain ⟨e1, e2⟩ := hent i hi
    obtain ⟨x, hx⟩ := Int.eq_ofNat_of_zero_le a1
    obtain ⟨p, hp⟩ := Int.eq_ofNat_of_zero_le a3
    rw [hx] at a2 a4 b1 b2 e1
    rw [hp] at a4 b1 b2 e2
    simp only [Int.toNat_natCast] at a4 b1 b2
    have hxn : x < n := by omega
    have hpl : p < (gr R x).length := by omega
    unfold JoinOK PortOK
    rw [e1, e2]
    rcases ht with ⟨ht0, ht1⟩ | ⟨ht0, ht1⟩
    · rcases hVt with ⟨hV, hT⟩ | ⟨hV, hT⟩
      · obtain ⟨l1, l2⟩ := hl x hxn
        obtain ⟨c1, c2⟩ := l2 p hpl
        rw [show ((x : Int) + (t : Int)).toNat = x by omega, Int.toNat_natCast, l1, c1, c2, b1, b2]
        omega
      · obtain ⟨l1, l2⟩ := hr x hxn
        obtain ⟨c1, c2⟩ := l2 p hpl
        rw [show ((x : Int) + (t : Int)).toNat = n + x by omega, Int.toNat_natCast, l1, c1, c2, b1, b2]
        omega
    · rcases hVt with ⟨hV, hT⟩ | ⟨hV, hT⟩
      · obtain ⟨l1, l2⟩ := hr x hxn
        obtain ⟨c1, c2⟩ := l2 p hpl
        rw [show ((x : Int) + (t : Int)).toNat = n + x by omega, Int.toNat_natCast, l1, c1, c2, b1, b2]
        omega
      · obtain ⟨l1, l2⟩ := hl x hxn
        obtain ⟨c1, c2⟩ := l2 p hpl
        rw [show ((x : Int) + (t : Int)).toNat = x by omega, Int.toNat_natCast, l1, c1, c2, b1, b2]
        omega
  by_cases hv : V < n
  · obtain ⟨l1, l2⟩ := hl V hv
    exact key V t0 V hv (.inl ⟨rfl, rfl⟩) l1 l2
  · obtain ⟨v, rfl⟩ : ∃ v, V = n + v := ⟨V - n, by omega⟩
    obtain ⟨l1, l2⟩ := hr v (by omega)
    exact key v t1 (n + v) (by omega) (.inr ⟨rfl, rfl⟩) l1 l2

def bare (N : Net) : Net := ⟨N.ends, [], N.inputs⟩
theorem bare_good {N : Net} (h : Good N) : Good (bare N) := ⟨h.1, h.2.1, ⟨.inl rfl, fun i hi => absurd hi (by simp [bare])⟩, h.2.2.2⟩
def dcRows (N : Net) : List (List (Int × Int)) := N.ends.map (shiftRow N.ends.length) ++ N.ends
def dcNet (N : Net) : Net := ⟨dcRows N, [], N.inputs ++ N.inputs⟩
theorem dcRows_len (N : Net) : (dcRows N).length = N.ends.length + N.ends.length := by simp [dcRows]
theorem dcRows_l (N : Net) {v : Nat} (h : v < N.ends.length) : gr (dcRows N) v = shiftRow N.ends.length (gr N.ends v) := by
  simp [gr, dcRows, List.getD, List.getElem?_append_left, h]
theorem dcRows_r (N : Net) {v : Nat} (h : v < N.ends.length) : gr (dcRows N) (N.ends.length + v) = gr N.ends v := by
  simp [gr, dcRows, List.getD, h]
theorem twice_inputs {l : List Int} {n : Nat} (h : InputsOK l n) : InputsOK (l ++ l) ((n + n : Nat) : Int) := by
  obtain ⟨h1, h2⟩ := h
  refine ⟨by simp; omega, fun j hj => ?_⟩
  rw [gi_app]
  rw [List.length_append] at hj
  by_cases e : j < l.length
  · rw [if_pos e]; exact h2 j e
  · rw [if_neg e]; exact h2 _ (by omega)
theorem dc_good {N : Net} (h : Good N) (h40 : N.ends.length + N.ends.length ≤ 40) : Good (dcNet N) := by
  have hl := dcRows_len N
  refine ⟨by show 1 ≤ (dcRows N).length ∧ (dcRows N).length ≤ 40; have := h.1; omega, ?_, ⟨.inl rfl, fun i hi => absurd hi (by simp [dcNet])⟩, ?_⟩
  · refine ends_two (R := N.ends) (n := N.ends.length) (t0 := N.ends.length) (t1 := 0) h.2.1 rfl hl (.inr ⟨rfl, rfl⟩) (fun v hv => ?_) (fun v hv => ?_)
    · rw [show (dcNet N).ends = dcRows N from rfl, dcRows_l N hv]
      exact ⟨length_shiftRow _ _, fun i hi => ⟨gn_shiftRow _ _ _ hi, gp_shiftRow _ _ _ hi⟩⟩
    · rw [show (dcNet N).ends = dcRows N from rfl, dcRows_r N hv]
      exact ⟨rfl, fun i hi => ⟨by simp, rfl⟩⟩
  · show InputsOK (N.inputs ++ N.inputs) ((dcRows N).length : Int)
    rw [hl]; exact twice_inputs h.2.2.2
theorem dc_bad {N : Net} (h40 : ¬ N.ends.length + N.ends.length ≤ 40) : ¬ Good (dcNet N) := fun h => h40 (by have := h.1.2; rw [show (dcNet N).ends = dcRows N from rfl, dcRows_len] at this; exact this)
theorem two_l (N : Net) {v : Nat} (h : v < N.ends.length) : gr (unionEnds (bare N) (bare N)) v = gr N.ends v := gr_unionEnds_left (bare N) (bare N) v h
theorem two_r (N : Net) {v : Nat} (h : v < N.ends.length) : gr (unionEnds (bare N) (bare N)) (N.ends.length + v) = shiftRow N.ends.length (gr N.ends v) := gr_unionEnds_right (bare N) (bare N) v h
theorem two_good {N : Net} (h : Good N) (h40 : N.ends.length + N.ends.length ≤ 40) : Good (unionNet (bare N) (bare N)) := by
  have hl := length_unionEnds (bare N) (bare N)
  have hb : (bare N).ends = N.ends := rfl
  rw [hb] at hl
  refine ⟨by show 1 ≤ (unionEnds (bare N) (bare N)).length ∧ (unionEnds (bare N) (bare N)).length ≤ 40; have := h.1; omega, ?_, ⟨.inl rfl, fun i hi => absurd hi (by simp [unionNet, bare])⟩, ?_⟩
  · refine ends_two (R := N.ends) (n := N.ends.length) (t0 := 0) (t1 := N.ends.length) h.2.1 rfl hl (.inl ⟨rfl, rfl⟩) (fun v hv => ?_) (fun v hv => ?_)
    · rw [show (unionNet (bare N) (bare N)).ends = unionEnds (bare N) (bare N) from rfl, two_l N hv]
      exact ⟨rfl, fun i hi => ⟨by simp, rfl⟩⟩
    · rw [show (unionNet (bare N) (bare N)).ends = unionEnds (bare N) (bare N) from rfl, two_r N hv]
      exact ⟨length_shiftRow _ _, fun i hi => ⟨gn_shiftRow _ _ _ hi, gp_shiftRow _ _ _ hi⟩⟩
  · show InputsOK (N.inputs ++ N.inputs) ((unionEnds (bare N) (bare N)).length : Int)
    rw [hl]; exact twice_inputs h.2.2.2
theorem two_bad {N : Net} (h40 : ¬ N.ends.length + N.ends.length ≤ 40) : ¬ Good (unionNet (bare N) (bare N)) := fun h => h40 (by have := h.1.2; rw [show (unionNet (bare N) (bare N)).ends = unionEnds (bare N) (bare N) from rfl, length_unionEnds] at this; exact this)

/-- The first j ends of a row are mapped. -/
def mrow (f : Int × Int → Int × Int) (r : List (Int × Int)) (j : Nat) : List (Int × Int) := (r.take j).map f ++ r.drop j
theorem mrow_len (f : Int × Int → Int × Int) (r : List (Int × Int)) (j : Nat) : (mrow f r j).length = r.length := by simp [mrow]; omega
theorem mrow_zero (f : Int × Int → Int × Int) (r : List (Int × Int)) : mrow f r 0 = r := by simp [mrow]
theorem mrow_all (f : Int × Int → Int × Int) (r : List (Int × Int)) : mrow f r r.length = r.map f := by simp [mrow]
theorem mrow_set (f : Int × Int → Int × Int) (r : List (Int × Int)) {j : Nat} (h : j < r.length) : (mrow f r j).set j (f (gn r j, gp r j)) = mrow f r (j + 1) := by
  rw [ge_get r h]
  refine List.ext_getElem (by simp [mrow_len]) fun i h1 h2 => ?_
  rw [mrow_len] at h2
  rw [List.getElem_set]
  simp only [mrow, List.getElem_append, List.length_map, List.length_take]
  by_cases e : j = i
  · subst e
    rw [if_pos rfl, dif_pos (by omega)]
    simp
  · rw [if_neg e]
    by_cases e2 : i < j
    · rw [dif_pos (by omega), dif_pos (by omega)]; simp
    · rw [dif_neg (by omega), dif_neg (by omega)]
      simp only [List.getElem_drop]
      congr 1; omega
theorem mrow_at (f : Int × Int → Int × Int) (r : List (Int × Int)) {j : Nat} (h : j < r.length) : gn (mrow f r j) j = gn r j ∧ gp (mrow f r j) j = gp r j := by
  have : (mrow f r j)[j]'(by rw [mrow_len]; exact h) = r[j] := by
    simp only [mrow, List.getElem_append, List.length_map, List.length_take]
    rw [dif_neg (by omega)]
    simp only [List.getElem_drop]
    congr 1; omega
  have e1 := ge_get (mrow f r j) (i := j) (by rw [mrow_len]; exact h)
  rw [this, ← ge_get r h] at e1
  exact ⟨congrArg Prod.fst e1, congrArg Prod.snd e1⟩

/-- A network whose rows ahead of row k, and the first j ends of that row, are mapped. -/
def mapTo (f : Int × Int → Int × Int) (M : Net) (k j : Nat) : Net :=
  { M with ends := (List.range M.ends.length).map fun v => if v < k then (gr M.ends v).map f else if v = k then mrow f (gr M.ends v) j else gr M.ends v }
theorem mapTo_len (f : Int × Int → Int × Int) (M : Net) (k j : Nat) : (mapTo f M k j).ends.length = M.ends.length := by simp [mapTo]
theorem gr_mapTo (f : Int × Int → Int × Int) (M : Net) (k j : Nat) {v : Nat} (h : v < M.ends.length) : gr (mapTo f M k j).ends v = if v < k then (gr M.ends v).map f else if v = k then mrow f (gr M.ends v) j else gr M.ends v := by
  simp [gr, mapTo, h]
theorem net_same {A B : Net} (h : A.ends.length = B.ends.length) (hr : ∀ v, v < A.ends.length → gr A.ends v = gr B.ends v) (hi : A.ids = B.ids) (hp : A.inputs = B.inputs) : A = B := by
  cases A; cases B
  simp only [Net.mk.injEq]
  exact ⟨rows_same h hr, hi, hp⟩
theorem mapTo_zero (f : Int × Int → Int × Int) (M : Net) : mapTo f M 0 0 = M :=
  net_same (mapTo_len f M 0 0) (fun v hv => by
    rw [mapTo_len] at hv
    rw [gr_mapTo f M 0 0 hv, if_neg (by omega)]
    split
    · exact mrow_zero _ _
    · rfl) rfl rfl
theorem mapTo_set (f : Int × Int → Int × Int) (M : Net) {k j : Nat} (hk : k < M.ends.length) (hj : j < (gr M.ends k).length) : setEnd (mapTo f M k j) k j (f (gn (gr M.ends k) j, gp (gr M.ends k) j)) = mapTo f M k (j + 1) :=
  net_same (by simp [setEnd, mapTo_len]) (fun v hv => by
    have hv : v < M.ends.length := by simpa [setEnd, mapTo_len] using hv
    show gr ((mapTo f M k j).ends.set k _) v = _
    rw [gr_set _ _ _ _ (by rw [mapTo_len]; exact hk), gr_mapTo f M k j hv, gr_mapTo f M k (j + 1) hv, gr_mapTo f M k j hk]
    by_cases e : v = k
    · subst e
      simp only [Nat.lt_irrefl, if_true, if_false]
      exact mrow_set f _ hj
    · simp only [if_neg e]) rfl rfl
theorem mapTo_next (f : Int × Int → Int × Int) (M : Net) {k : Nat} : mapTo f M k (gr M.ends k).length = mapTo f M (k + 1) 0 :=
  net_same (by rw [mapTo_len, mapTo_len]) (fun v hv => by
    rw [mapTo_len] at hv
    rw [gr_mapTo f M _ _ hv, gr_mapTo f M _ _ hv]
    by_cases e : v = k
    · subst e
      rw [if_neg (by omega), if_pos rfl, if_pos (by omega), mrow_all]
    · by_cases e2 : v < k
      · rw [if_pos e2, if_pos (by omega)]
      · rw [if_neg e2, if_neg e, if_neg (by omega)]
        split
        · exact (mrow_zero _ _).symm
        · rfl) rfl rfl
/-- The node of the other copy. -/
def dcF (n : Nat) (p : Int × Int) : Int × Int := (((p.1 + n) % ((n + n : Nat) : Int)), p.2)
theorem dc_all {N : Net} (h : Good N) : mapTo (dcF N.ends.length) (unionNet (bare N) (bare N)) (N.ends.length + N.ends.length) 0 = dcNet N := by
  have hl := length_unionEnds (bare N) (bare N)
  have hb : (bare N).ends = N.ends := rfl
  rw [hb] at hl
  have hu : (unionNet (bare N) (bare N)).ends = unionEnds (bare N) (bare N) := rfl
  refine net_same (by rw [mapTo_len, hu, hl]; exact (dcRows_len N).symm) (fun v hv => ?_) rfl rfl
  rw [mapTo_len, hu, hl] at hv
  rw [gr_mapTo _ _ _ _ (by rw [hu, hl]; exact hv), if_pos hv, hu, show (dcNet N).ends = dcRows N from rfl]
  by_cases hvn : v < N.ends.length
  · rw [two_l N hvn, dcRows_l N hvn]
    refine List.ext_getElem (by simp [shiftRow]) fun i h1 h2 => ?_
    have hi : i < (gr N.ends v).length := by simpa using h1
    have := ((h.2.1 v hvn).2 i hi).1
    have e := ge_get _ hi
    simp only [List.getElem_map, shiftRow, dcF]
    rw [← e]
    simp only
    rw [Int.emod_eq_of_lt (by have := this.1; omega) (by have := this.2.1; omega)]
  · obtain ⟨u, rfl⟩ : ∃ u, v = N.ends.length + u := ⟨v - N.ends.length, by omega⟩
    have hun : u < N.ends.length := by omega
    rw [two_r N hun, dcRows_r N hun]
    refine List.ext_getElem (by simp [shiftRow]) fun i h1 h2 => ?_
    have := ((h.2.1 u hun).2 i h2).1
    have e := ge_get _ h2
    simp only [List.getElem_map, shiftRow, dcF]
    rw [← e]
    simp only
    rw [show gn (gr N.ends u) i + (N.ends.length : Int) + (N.ends.length : Int) = gn (gr N.ends u) i + ((N.ends.length + N.ends.length : Nat) : Int) by omega, Int.add_emod_right, Int.emod_eq_of_lt this.1 (by have := this.2.1; omega)]

def DCOK (N : Net) : Prop := Good N ∧ N.ends.length + N.ends.length ≤ 40
noncomputable def dcAns (N : Net) : Net := if dec (DCOK N) = true then dcNet N else zeroNet
theorem dcAns_t {N : Net} (h : DCOK N) : dcAns N = dcNet N := by simp [dcAns, dec_true h]
theorem dcAns_f {N : Net} (h : ¬ DCOK N) : dcAns N = zeroNet := by simp [dcAns, dec_false h]
theorem dcAns_small (N : Net) : (dcAns N).small := by
  by_cases h : DCOK N
  · rw [dcAns_t h]; exact good_small (dc_good h.1 h.2)
  · rw [dcAns_f h]; exact zero_small
theorem union_bare {N : Net} (h : Good N) : UnionB (bare N) (bare N) ↔ DCOK N := ⟨fun k => ⟨h, Classical.byContradiction fun h40 => two_bad h40 k.2.2.2⟩, fun k => ⟨bare_good h, bare_good h, rfl, two_good h k.2⟩⟩
end Go.Proofs.Ytkeiaahlifdbiaa
