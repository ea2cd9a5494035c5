/- Powers of a network as plain mathematics. -/
import Derived.Test.YtkeiaahlifdbiaaZbk
import Derived.Test.YtkeiaahlifdbiaaZek
import Derived.Test.YtkeiaahlifdbiaaKh
namespace Go.Proofs.Ytkeiaahlifdbiaa
open Go.RowKit

/-- The other nodes within a distance. -/
def near (N : Net) (k : Int) (v : Nat) : List Int := ball N (v : Int) 1 k
theorem near_len (N : Net) (k : Int) (v : Nat) : (near N k v).length ≤ N.ends.length := idxs_len _ _ _ _
theorem near_range (N : Net) (k : Int) (v : Nat) : ∀ i, i < (near N k v).length → 0 ≤ gi (near N k v) i ∧ gi (near N k v) i < (N.ends.length : Int) := idxs_range _ _ _ _
theorem near_mem {N : Net} {k : Int} {v w : Nat} : (w : Int) ∈ near N k v ↔ w < N.ends.length ∧ 1 ≤ gi (dst N (v : Int)) w ∧ gi (dst N (v : Int)) w ≤ k := by
  unfold near ball
  rw [idxs_mem]
  constructor
  · rintro ⟨u, h1, h2, h3⟩
    obtain rfl : u = w := by omega
    exact ⟨h1, h3⟩
  · rintro ⟨h1, h2⟩
    exact ⟨w, h1, rfl, h2⟩
theorem near_symm {N : Net} (hG : Good N) {k : Int} {v w : Nat} (hv : v < N.ends.length) (h : (w : Int) ∈ near N k v) : (v : Int) ∈ near N k w := by
  obtain ⟨h1, h2, h3⟩ := near_mem.1 h
  have := dst_symm hG (x := (v : Int)) (y := (w : Int)) (by omega) (by omega)
  rw [Int.toNat_natCast, Int.toNat_natCast] at this
  exact near_mem.2 ⟨hv, by omega, by omega⟩
/-- The port of node w that leads to v. -/
def pix (N : Net) (k : Int) (v w : Nat) : Int := ((near N k w).idxOf (v : Int) : Nat)
def powRow (N : Net) (k : Int) (v : Nat) : List (Int × Int) := (near N k v).map fun w => (w, pix N k v w.toNat)
theorem powRow_len (N : Net) (k : Int) (v : Nat) : (powRow N k v).length = (near N k v).length := by simp [powRow]
theorem powRow_at {N : Net} {k : Int} {v i : Nat} (h : i < (near N k v).length) : gn (powRow N k v) i = gi (near N k v) i ∧ gp (powRow N k v) i = pix N k v (gi (near N k v) i).toNat := by
  simp [gn, gp, gi, powRow, List.getD, h]
def pow (N : Net) (k : Int) : Net := ⟨(List.range N.ends.length).map (powRow N k), N.ids, N.inputs⟩
theorem has_iffP (l : List Int) (x : Int) : Has l x ↔ x ∈ l := ⟨fun ⟨_, hj, e⟩ => e ▸ gi_in hj, fun h => let ⟨i, hi, e⟩ := in_gi h; ⟨i, hi, e⟩⟩
theorem idxOf_first {l : List Int} {x : Int} {j : Nat} (hj : j < l.length) (he : gi l j = x) (hf : ∀ i, i < j → gi l i ≠ x) : l.idxOf x = j := by
  have hm : x ∈ l := he ▸ gi_in hj
  have h1 := List.idxOf_lt_length_of_mem hm
  have h2 := gi_idx hm
  by_cases e : l.idxOf x < j
  · exact absurd h2 (hf _ e)
  · by_cases e2 : j < l.idxOf x
    · have : l[j]'hj = x := by rw [← he]; simp [gi, hj]
      have h3 := List.not_of_lt_findIdx (p := fun y => y == x) (xs := l) (i := j) (by simpa [List.idxOf] using e2)
      simp [this] at h3
    · omega
theorem first_pix {N : Net} {k : Int} {v w : Nat} {r : Int} (hm : (v : Int) ∈ near N k w) (h : FirstAt (near N k w) (v : Int) r) : r = pix N k v w := by
  rcases h with ⟨-, h⟩ | ⟨j, rfl, h1, h2, h3⟩
  · exact absurd ((has_iffP _ _).2 hm) h
  · unfold pix; rw [idxOf_first h1 h2 h3]
theorem pix_range {N : Net} {k : Int} {v w : Nat} (hm : (v : Int) ∈ near N k w) : 0 ≤ pix N k v w ∧ pix N k v w < ((near N k w).length : Int) := by
  have := List.idxOf_lt_length_of_mem hm
  unfold pix
  omega
/-- The row of a node once i of its ends are there. -/
def rowTo (N : Net) (k : Int) (v i : Nat) : List (Int × Int) := (powRow N k v).take i ++ List.replicate ((near N k v).length - i) (0, 0)
theorem rowTo_len {N : Net} {k : Int} {v i : Nat} (h : i ≤ (near N k v).length) : (rowTo N k v i).length = (near N k v).length := by simp [rowTo, powRow_len]; omega
theorem rowTo_zero (N : Net) (k : Int) (v : Nat) : rowTo N k v 0 = List.replicate (near N k v).length (0, 0) := by simp [rowTo]
theorem rowTo_all (N : Net) (k : Int) (v : Nat) : rowTo N k v (near N k v).length = powRow N k v := by
  have := powRow_len N k v
  simp [rowTo, ← this]
theorem rowTo_set {N : Net} {k : Int} {v i : Nat} (h : i < (near N k v).length) : (rowTo N k v i).set i (gn (powRow N k v) i, gp (powRow N k v) i) = rowTo N k v (i + 1) := by
  have hl := powRow_len N k v
  have hi : i < (powRow N k v).length := by omega
  have e : (gn (powRow N k v) i, gp (powRow N k v) i) = (powRow N k v)[i] := by simp [gn, gp, List.getD, hi]
  rw [e]
  refine List.ext_getElem (by simp [rowTo]; omega) fun j h1 h2 => ?_
  rw [List.getElem_set]
  simp only [rowTo, List.getElem_append, List.length_take]
  by_cases q : i = j
  · subst q
    rw [if_pos rfl, dif_pos (by omega)]
    simp
  · rw [if_neg q]
    by_cases r : j < i
    · rw [dif_pos (by omega), dif_pos (by omega)]; simp
    · rw [dif_neg (by omega), dif_neg (by omega)]; simp
/-- The network once the rows of the first v nodes are those of the power. -/
def jnK (N : Net) (k : Int) (v : Nat) : Net := { N with ends := (List.range N.ends.length).map fun u => if u < v then powRow N k u else gr N.ends u }
theorem jnK_len (N : Net) (k : Int) (v : Nat) : (jnK N k v).ends.length = N.ends.length := by simp [jnK]
theorem rows_ext {l m : List (List (Int × Int))} (h : l.length = m.length) (hr : ∀ v, v < l.length → gr l v = gr m v) : l = m := by
  refine List.ext_getElem h fun i h1 h2 => ?_
  have := hr i h1
  simpa [gr, List.getD, h1, h2] using this
theorem gr_jnK {N : Net} {k : Int} {v u : Nat} (h : u < N.ends.length) : gr (jnK N k v).ends u = if u < v then powRow N k u else gr N.ends u := by simp [gr, jnK, h]
theorem jnK_zero (N : Net) (k : Int) : jnK N k 0 = N := by
  have : (jnK N k 0).ends = N.ends := rows_ext (jnK_len _ _ _) fun v hv => by rw [jnK_len] at hv; rw [gr_jnK hv, if_neg (by omega)]
  cases N
  simp only [jnK] at this ⊢
  rw [this]
theorem jnK_all (N : Net) (k : Int) : jnK N k N.ends.length = pow N k := by
  unfold jnK pow
  have : ((List.range N.ends.length).map fun u => if u < N.ends.length then powRow N k u else gr N.ends u) = (List.range N.ends.length).map (powRow N k) := List.map_congr_left fun u hu => by rw [if_pos (List.mem_range.1 hu)]
  rw [this]
theorem jnK_next {N : Net} {k : Int} {v : Nat} (hv : v < N.ends.length) : setRow (jnK N k v) v (powRow N k v) = jnK N k (v + 1) := by
  have : (jnK N k v).ends.set v (powRow N k v) = (jnK N k (v + 1)).ends := rows_ext (by simp [jnK_len]) fun u hu => by
    rw [List.length_set, jnK_len] at hu
    rw [gr_set _ _ _ _ (by rw [jnK_len]; exact hv), gr_jnK hu, gr_jnK hu]
    by_cases e : u = v
    · subst e; rw [if_pos rfl, if_pos (by omega)]
    · rw [if_neg e]
      by_cases r : u < v
      · rw [if_pos r, if_pos (by omega)]
      · rw [if_neg r, if_neg (by omega)]
  unfold setRow
  rw [this]
  rfl
theorem setEnd_rowP {M : Net} {v j : Nat} {r : List (Int × Int)} {e : Int × Int} (hv : v < M.ends.length) : setEnd (setRow M v r) v j e = setRow M v (r.set j e) := by
  have h1 : gr (setRow M v r).ends v = r := by rw [gr_setRow _ _ _ _ hv, if_pos rfl]
  unfold setEnd
  rw [h1]
  unfold setRow
  simp
def PowB (N : Net) (k : Int) : Prop := (Good N ∧ InB k 1 40) ∧ Good (pow N k)
noncomputable def powAns (N : Net) (k : Int) : Net := if dec (PowB N k) = true then pow N k else zeroNet
theorem powAns_t {N : Net} {k : Int} (h : PowB N k) : powAns N k = pow N k := by unfold powAns; rw [if_pos (dec_true h)]
theorem powAns_f {N : Net} {k : Int} (h : ¬ PowB N k) : powAns N k = zeroNet := by unfold powAns; rw [if_neg (by rw [dec_false h]; simp)]
theorem powAns_small (N : Net) (k : Int) : (powAns N k).small := by
  by_cases h : PowB N k
  · rw [powAns_t h]; exact good_small h.2
  · rw [powAns_f h]; exact zero_small
theorem HNet.setE {W0 wr : World} {M : Net} {p : Nat} {v0 v1 v2 : Value} (h : HNet W0 wr M p v0 v1 v2) {u j : Nat} (hu : u < M.ends.length) (hj : j < (gr M.ends u).length) :
    ∃ b c q d, v0 = .slice (some ⟨b, 0, none⟩) M.ends.length c ∧ wr.cell? ⟨b, u, none⟩ = some (.slice (some ⟨q, 0, none⟩) (gr M.ends u).length d) ∧ Two wr q j (.int .i64 (gn (gr M.ends u) j)) (.int .i64 (gp (gr M.ends u) j)) ∧
      ∀ x : Int × Int, inI64 x.1 → inI64 x.2 → HNet W0 (set2 wr q j x) (setEnd M u j x) p v0 v1 v2 := by
  obtain ⟨bs, ho, hnd, hge⟩ := h.net
  obtain ⟨b, c, q, d, hv, hx, hq, ht, hput⟩ := ho.putEnd hnd hu hj
  refine ⟨b, c, q, d, hv, hx, ht, fun x h1 h2 => ⟨?_, h.hp, h.box.of_block (set2_heap fun e => (hge q hq).2 e.symm), bs, hput x h1 h2, hnd, hge⟩⟩
  unfold set2
  exact (h.ext.store (hge q hq).1 _).store (hge q hq).1 _
end Go.Proofs.Ytkeiaahlifdbiaa
