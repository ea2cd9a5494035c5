/- A network with one node's ports in another order, as plain data. -/
import Derived.Test.YtkeiaahlifdbiaaPoG
import Derived.Test.YtkeiaahlifdbiaaFi
import Derived.Test.YtkeiaahlifdbiaaMix
namespace Go.Proofs.Ytkeiaahlifdbiaa
open Go.RowKit

def idl (m : Nat) : List Int := (List.range m).map fun (i : Nat) => (i : Int)
theorem length_idl (m : Nat) : (idl m).length = m := by simp [idl]
theorem gi_idl {m i : Nat} (h : i < m) : gi (idl m) i = i := by simp [gi, idl, List.getD, h]
theorem idl_perm (m : Nat) : PermOK (idl m) m := by
  refine ⟨length_idl m, fun i hi => ?_⟩
  rw [length_idl] at hi
  refine ⟨?_, ?_⟩
  · rw [gi_idl hi]; unfold InB; omega
  · rintro ⟨j, hj, e⟩
    have hj' : j < i := by simp at hj; omega
    rw [gi_take hj', gi_idl (by omega), gi_idl hi] at e
    omega
theorem inv_idl {m i : Nat} (h : i < m) : inv (idl m) i = i := inv_of (idl_perm m) h (gi_idl h)

/-- The new numbers of the ports of node v. -/
def pl (N : Net) (n : Nat) (l : List Int) (v : Nat) : List Int := if v = n then l else idl (gr N.ends v).length
theorem pl_perm {N : Net} {n : Nat} {l : List Int} (hp : PermOK l (gr N.ends n).length) (v : Nat) : PermOK (pl N n l v) (gr N.ends v).length := by
  unfold pl
  by_cases e : v = n
  · subst e; rw [if_pos rfl]; exact hp
  · rw [if_neg e]; exact idl_perm _
def newPort (N : Net) (n : Nat) (l : List Int) (v i : Nat) : Int := gi (pl N n l (gn (gr N.ends v) i).toNat) (gp (gr N.ends v) i).toNat
def portsRow (N : Net) (n : Nat) (l : List Int) (v : Nat) : List (Int × Int) := planRow (gr N.ends v).length (inv (pl N n l v)) (gn (gr N.ends v)) (newPort N n l v)
def portsNet (N : Net) (n : Nat) (l : List Int) : Net := rowNet N (idl N.ends.length) (portsRow N n l)
theorem pl_plan {N : Net} {n : Nat} {l : List Int} (hp : PermOK l (gr N.ends n).length) (v : Nat) : Plan (gr N.ends v).length (gr N.ends v).length (fun _ => true) (fun i => (gi (pl N n l v) i).toNat) (inv (pl N n l v)) := by
  have h := pl_perm hp v
  refine ⟨Nat.le_refl _, fun i hi _ => ?_, fun q hq => ?_⟩
  · obtain ⟨k, hk, hkn⟩ := perm_range h hi
    have e : (gi (pl N n l v) i).toNat = k := by omega
    rw [e]
    exact ⟨hkn, inv_of h hi hk⟩
  · obtain ⟨h1, h2⟩ := inv_spec h hq
    exact ⟨h1, rfl, by rw [h2]; rfl⟩

theorem renInts_idl {n : Nat} {m : List Int} (h : m.length = n) : renInts n (idl n) m = m := by
  subst h
  refine List.ext_getElem (by simp [renInts]) fun i h1 h2 => ?_
  simp [renInts, inv_idl h2, gi, List.getD, h2]
theorem rowNet_idl {N : Net} (ro : Rows') (hi : N.inputs.length = N.ends.length) (hd : N.ids.length = 0 ∨ N.ids.length = N.ends.length) : rowNet N (idl N.ends.length) ro = { N with ends := (List.range N.ends.length).map ro } := by
  obtain ⟨E, D, I⟩ := N
  simp only [rowNet, Net.mk.injEq] at *
  refine ⟨?_, ?_, renInts_idl hi⟩
  · simp only [rowEnds]
    exact List.map_congr_left fun i hi => by rw [inv_idl (List.mem_range.1 hi)]
  · by_cases h0 : D.length = 0
    · rw [if_pos h0]; exact (List.eq_nil_of_length_eq_zero h0).symm
    · rw [if_neg h0]; exact renInts_idl (hd.resolve_left h0)

/-- Row u where the first k ports of node n are done. -/
def pRow (N : Net) (n : Nat) (l : List Int) (k u : Nat) : List (Int × Int) :=
  if u = n then mix (gr N.ends n).length l k (fun i => (gn (gr N.ends n) i, newPort N n l n i)) (fun j => (gn (gr N.ends n) j, gp (gr N.ends n) j))
  else (List.range (gr N.ends u).length).map fun j => if gn (gr N.ends u) j = n ∧ gp (gr N.ends u) j < k then ((n : Int), gi l (gp (gr N.ends u) j).toNat) else (gn (gr N.ends u) j, gp (gr N.ends u) j)
def pEnds (N : Net) (n : Nat) (l : List Int) (k : Nat) : List (List (Int × Int)) := (List.range N.ends.length).map (pRow N n l k)
theorem length_pEnds (N : Net) (n : Nat) (l : List Int) (k : Nat) : (pEnds N n l k).length = N.ends.length := by simp [pEnds]
theorem length_pRow (N : Net) (n : Nat) (l : List Int) (k u : Nat) : (pRow N n l k u).length = (gr N.ends u).length := by
  unfold pRow
  by_cases e : u = n
  · subst e; rw [if_pos rfl, mix_length]
  · rw [if_neg e]; simp
theorem gr_pEnds {N : Net} {n : Nat} {l : List Int} {k u : Nat} (h : u < N.ends.length) : gr (pEnds N n l k) u = pRow N n l k u := by simp [gr, pEnds, List.getD, h]
theorem map_row (r : List (Int × Int)) : (List.range r.length).map (fun j => (gn r j, gp r j)) = r := by
  refine List.ext_getElem (by simp) fun i h1 h2 => ?_
  simp [gn, gp, List.getD, h2]
theorem pEnds_zero {N : Net} {n : Nat} {l : List Int} (hg : Good N) : pEnds N n l 0 = N.ends := by
  refine Eq.trans (List.map_congr_left fun u hu => ?_) (map_gr N.ends)
  have hu := List.mem_range.1 hu
  unfold pRow
  by_cases e : u = n
  · subst e; rw [if_pos rfl, mix_zero, map_row]
  · rw [if_neg e]
    refine Eq.trans (List.map_congr_left fun j hj => ?_) (map_row _)
    have hj := List.mem_range.1 hj
    obtain ⟨⟨_, _, h3, _⟩, _⟩ := (hg.2.1 u hu).2 j hj
    rw [if_neg (by omega)]
theorem pEnds_all {N : Net} {n : Nat} {l : List Int} (hg : Good N) (hp : PermOK l (gr N.ends n).length) : pEnds N n l (gr N.ends n).length = (List.range N.ends.length).map (portsRow N n l) := by
  refine List.map_congr_left fun u hu => ?_
  have hu := List.mem_range.1 hu
  unfold pRow portsRow planRow
  by_cases e : u = n
  · subst e
    rw [if_pos rfl, mix_all hp]
    simp [pl]
  · rw [if_neg e]
    refine List.map_congr_left fun j hj => ?_
    have hj := List.mem_range.1 hj
    obtain ⟨⟨h1, h2, h3, h4⟩, _⟩ := (hg.2.1 u hu).2 j hj
    have ei : inv (pl N n l u) j = j := by unfold pl; rw [if_neg e]; exact inv_idl hj
    rw [ei]
    unfold newPort
    by_cases e2 : gn (gr N.ends u) j = n
    · have e3 : (gn (gr N.ends u) j).toNat = n := by omega
      rw [e3] at h4
      rw [if_pos ⟨e2, by omega⟩, e3, e2]
      unfold pl; rw [if_pos rfl]
    · have e3 : ¬ (gn (gr N.ends u) j).toNat = n := by omega
      rw [if_neg (fun h => e2 h.1)]
      unfold pl
      rw [if_neg e3, gi_idl (by omega)]
      congr 1
      omega

/-- The next port of node n. -/
theorem pRow_own {N : Net} {n k c : Nat} {l : List Int} (hp : PermOK l (gr N.ends n).length) (hk : k < (gr N.ends n).length) (hc : gi l k = c) :
    (pRow N n l k n).set c (gn (gr N.ends n) k, newPort N n l n k) = pRow N n l (k + 1) n := by
  unfold pRow
  rw [if_pos rfl, if_pos rfl]
  exact mix_step hp hk hc (fun i => (gn (gr N.ends n) i, newPort N n l n i)) _
theorem pRow_same {N : Net} {n k u en : Nat} {l : List Int} (hg : Good N) (hen : gn (gr N.ends n) k = en) (hu : u < N.ends.length) (hun : u ≠ n) (hue : u ≠ en) :
    pRow N n l (k + 1) u = pRow N n l k u := by
  unfold pRow
  rw [if_neg hun, if_neg hun]
  refine List.map_congr_left fun j hj => ?_
  have hj := List.mem_range.1 hj
  obtain ⟨⟨h1, h2, h3, h4⟩, h5, h6⟩ := (hg.2.1 u hu).2 j hj
  by_cases e : gn (gr N.ends u) j = n
  · have e3 : (gn (gr N.ends u) j).toNat = n := by omega
    rw [e3] at h5 h6 h4
    have hne : gp (gr N.ends u) j ≠ k := fun e4 => by
      have e5 : (gp (gr N.ends u) j).toNat = k := by omega
      rw [e5] at h5
      omega
    by_cases h7 : gp (gr N.ends u) j < k
    · rw [if_pos ⟨e, by omega⟩, if_pos ⟨e, h7⟩]
    · rw [if_neg (fun h => by have := h.2; omega), if_neg (fun h => h7 h.2)]
  · rw [if_neg (fun h => e h.1), if_neg (fun h => e h.1)]
theorem pRow_other {N : Net} {n k en ep c : Nat} {l : List Int} (hg : Good N) (hn : n < N.ends.length) (hk : k < (gr N.ends n).length) (hen : gn (gr N.ends n) k = en) (hep : gp (gr N.ends n) k = ep) (hne : en ≠ n) (hc : gi l k = c) :
    (pRow N n l k en).set ep ((n : Int), (c : Int)) = pRow N n l (k + 1) en := by
  obtain ⟨⟨g1, g2, g3, g4⟩, g5, g6⟩ := (hg.2.1 n hn).2 k hk
  rw [hen] at g1 g2 g4 g5 g6
  rw [hep] at g3 g4 g5 g6
  simp only [Int.toNat_natCast] at g4 g5 g6
  unfold pRow
  rw [if_neg hne, if_neg hne]
  refine List.ext_getElem (by simp) fun j h1 h2 => ?_
  have hj : j < (gr N.ends en).length := by simpa using h2
  simp only [List.getElem_set, List.getElem_map, List.getElem_range]
  obtain ⟨⟨k1, k2, k3, k4⟩, k5, k6⟩ := (hg.2.1 en (by omega)).2 j hj
  by_cases e : ep = j
  · subst e
    rw [if_pos rfl, if_pos ⟨g5, by omega⟩, g6]
    simp [hc]
  · rw [if_neg e]
    by_cases e2 : gn (gr N.ends en) j = n
    · have e3 : (gn (gr N.ends en) j).toNat = n := by omega
      rw [e3] at k5 k6 k4
      have hne : gp (gr N.ends en) j ≠ k := fun e4 => by
        have e5 : (gp (gr N.ends en) j).toNat = k := by omega
        rw [e5] at k5 k6
        omega
      by_cases h7 : gp (gr N.ends en) j < k
      · rw [if_pos ⟨e2, h7⟩, if_pos ⟨e2, by omega⟩]
      · rw [if_neg (fun h => h7 h.2), if_neg (fun h => by have := h.2; omega)]
    · rw [if_neg (fun h => e2 h.1), if_neg (fun h => e2 h.1)]

theorem ends_ext {A B : List (List (Int × Int))} (hl : A.length = B.length) (h : ∀ u, u < A.length → gr A u = gr B u) : A = B := by
  refine List.ext_getElem hl fun i h1 h2 => ?_
  have := h i h1
  simpa [gr, List.getD, h1, h2] using this
theorem pEnds_loop {N : Net} {n k ep c : Nat} {l : List Int} (hg : Good N) (hp : PermOK l (gr N.ends n).length) (hn : n < N.ends.length) (hk : k < (gr N.ends n).length) (hen : gn (gr N.ends n) k = n) (hep : gp (gr N.ends n) k = ep) (hc : gi l k = c) :
    (pEnds N n l k).set n ((gr (pEnds N n l k) n).set c ((n : Int), gi l ep)) = pEnds N n l (k + 1) := by
  refine ends_ext (by simp [length_pEnds]) fun u hu => ?_
  have hu : u < N.ends.length := by simpa [length_pEnds] using hu
  rw [gr_set _ _ _ _ (by rw [length_pEnds]; exact hn), gr_pEnds (k := k) hn, gr_pEnds (k := k + 1) hu]
  by_cases e : u = n
  · subst e
    rw [if_pos rfl, ← pRow_own hp hk hc, hen]
    congr 2
    unfold newPort pl
    rw [hen, hep]
    simp
  · rw [if_neg e, gr_pEnds hu]
    exact (pRow_same hg hen hu e e).symm
theorem pEnds_edge {N : Net} {n k en ep c : Nat} {l : List Int} (hg : Good N) (hp : PermOK l (gr N.ends n).length) (hn : n < N.ends.length) (hk : k < (gr N.ends n).length) (hen : gn (gr N.ends n) k = en) (hep : gp (gr N.ends n) k = ep) (hne : en ≠ n) (hc : gi l k = c) :
    ((pEnds N n l k).set en ((gr (pEnds N n l k) en).set ep ((n : Int), (c : Int)))).set n ((gr ((pEnds N n l k).set en ((gr (pEnds N n l k) en).set ep ((n : Int), (c : Int)))) n).set c ((en : Int), (ep : Int))) = pEnds N n l (k + 1) := by
  obtain ⟨⟨g1, g2, g3, g4⟩, g5, g6⟩ := (hg.2.1 n hn).2 k hk
  rw [hen] at g1 g2
  have he : en < N.ends.length := by omega
  rw [hen, hep] at g4
  simp only [Int.toNat_natCast] at g4
  refine ends_ext (by simp [length_pEnds]) fun u hu => ?_
  have hu : u < N.ends.length := by simpa [length_pEnds] using hu
  rw [gr_set _ _ _ _ (by simp [length_pEnds]; exact hn), gr_set _ _ _ _ (by rw [length_pEnds]; exact he), gr_set _ _ _ _ (by rw [length_pEnds]; exact he), if_neg (Ne.symm hne), gr_pEnds (k := k) hn, gr_pEnds (k := k) he, gr_pEnds (k := k) hu, gr_pEnds (k := k + 1) hu]
  by_cases e : u = n
  · subst e
    rw [if_pos rfl, ← pRow_own hp hk hc, hen]
    congr 2
    unfold newPort pl
    rw [hen, hep]
    simp only [Int.toNat_natCast]
    rw [if_neg hne, gi_idl (by omega)]
  · rw [if_neg e]
    by_cases e2 : u = en
    · subst e2
      rw [if_pos rfl]
      exact pRow_other hg hn hk hen hep hne hc
    · rw [if_neg e2]
      exact (pRow_same hg hen hu e e2).symm
end Go.Proofs.Ytkeiaahlifdbiaa
