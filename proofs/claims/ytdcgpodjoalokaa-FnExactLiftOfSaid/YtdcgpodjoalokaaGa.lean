/- Networks that are filled row by row by append, and lists of pairs that nested loops build: as plain data and in memory. -/
import Derived.Test.YtdcgpodjoalokaaKh
namespace Go.Proofs.Ytdcgpodjoalokaa
open Go.RowKit

theorem mul_nat (a b : Nat) : (a : Int) * (b : Int) = ((a * b : Nat) : Int) := by simp
theorem mul_1600 {a b : Nat} (ha : a ≤ 40) (hb : b ≤ 40) : a * b ≤ 1600 := Nat.mul_le_mul ha hb
theorem mod_nat {z : Int} {a k : Nat} (h : z = (a : Int)) : z % (k : Int) = ((a % k : Nat) : Int) := by rw [h]; first | exact (Int.natCast_emod _ _).symm | exact (Int.natCast_mod _ _).symm | rfl | simp
theorem owns_lit (w : World) (t k : Nat) : (w.alloc (.cells #[] t)).ownsRow w.heap.size t k (.slice (some ⟨w.heap.size, 0, none⟩) 0 0) 0 [] := World.ownsRow_lit w #[] 0 (Nat.le_refl _) (by decide) (by simp)
theorem HNet.at {W0 wr : World} {M : Net} {p : Nat} {v0 v1 v2 : Value} (h : HNet W0 wr M p v0 v1 v2) {k : Nat} (hk : k < M.ends.length) :
    ∃ bs b c ax cx t, v0 = .slice (some ⟨b, 0, none⟩) M.ends.length c ∧ At wr M v0 v1 v2 bs b k (.slice ax (gr M.ends k).length cx) t ∧ p ∉ bs ∧ ∀ y ∈ bs, W0.heap.size ≤ y ∧ y ≠ p := by
  obtain ⟨bs, ho, hnd, hge⟩ := h.net
  obtain ⟨b, c, ax, cx, t, hv, hat⟩ := own_at ho hnd hk
  exact ⟨bs, b, c, ax, cx, t, hv, hat, fun hb => (hge p hb).2 rfl, hge⟩
theorem HNet.put {W0 wr w1 : World} {M : Net} {p : Nat} {v0 v1 v2 v' : Value} {bs : List Nat} {b k : Nat} {x : Value} {e : Int × Int} (h : HNet W0 wr M p v0 v1 v2) (hp : p ∉ bs) (hge : ∀ y ∈ bs, W0.heap.size ≤ y ∧ y ≠ p) (P : Put wr w1 M v0 v1 v2 v' bs b k x e) :
    HNet W0 (w1.setCell ⟨b, k, none⟩ v') (addEnd M k e) p v0 v1 v2 := by
  obtain ⟨ds, g1, g2, g3⟩ := P.net
  have hpw := h.box.lt
  have hex := h.ext.size
  refine ⟨P.ext W0 h.ext (fun y hy => (hge y hy).1), h.hp, (P.row hp h.box).2, ds, g1, g2, fun y hy => ?_⟩
  rcases g3 y hy with h1 | h1
  · exact hge y h1
  · exact ⟨by omega, by omega⟩

/-- Row v gets the ends f v 0, f v 1, .. one after another. -/
def growRow (f : Nat → Nat → Int × Int) (N : Net) (v : Nat) : Nat → Net
  | 0 => N
  | i + 1 => addEnd (growRow f N v i) v (f v i)
/-- The first v rows get D ends each. -/
def growTo (f : Nat → Nat → Int × Int) (N : Net) (D : Nat) : Nat → Net
  | 0 => N
  | v + 1 => growRow f (growTo f N D v) v D
theorem growRow_len (f : Nat → Nat → Int × Int) (N : Net) (v : Nat) : ∀ i, (growRow f N v i).ends.length = N.ends.length
  | 0 => rfl
  | i + 1 => by rw [growRow, addEnd_len, growRow_len f N v i]
theorem growTo_len (f : Nat → Nat → Int × Int) (N : Net) (D : Nat) : ∀ v, (growTo f N D v).ends.length = N.ends.length
  | 0 => rfl
  | v + 1 => by rw [growTo, growRow_len, growTo_len f N D v]
theorem growRow_deg (f : Nat → Nat → Int × Int) (N : Net) (v u : Nat) (hv : v < N.ends.length) : ∀ i, (gr (growRow f N v i).ends u).length = (gr N.ends u).length + if u = v then i else 0
  | 0 => by simp [growRow]
  | i + 1 => by
    rw [growRow, gr_addEnd _ _ _ _ (by rw [growRow_len]; exact hv)]
    by_cases e : u = v
    · subst e
      have := growRow_deg f N u u hv i
      rw [if_pos rfl] at this
      rw [if_pos rfl, if_pos rfl, List.length_append, this]
      simp
      omega
    · have := growRow_deg f N v u hv i
      rw [if_neg e] at this
      rw [if_neg e, if_neg e, this]
theorem growTo_deg (f : Nat → Nat → Int × Int) (N : Net) (D u : Nat) : ∀ v, v ≤ N.ends.length → (gr (growTo f N D v).ends u).length = (gr N.ends u).length + if u < v then D else 0
  | 0, _ => by simp [growTo]
  | v + 1, hv => by
    rw [growTo, growRow_deg _ _ _ _ (by rw [growTo_len]; omega), growTo_deg f N D u v (by omega)]
    by_cases e : u = v
    · subst e; rw [if_neg (by omega), if_pos rfl, if_pos (by omega)]; omega
    · by_cases h : u < v
      · rw [if_pos h, if_neg e, if_pos (by omega)]; omega
      · rw [if_neg h, if_neg e, if_neg (by omega)]

/-- What a loop in a loop appends: the pairs f v 0, f v 1, .. -/
def catRow (f : Nat → Nat → List (Int × Int)) (v : Nat) : Nat → List (Int × Int)
  | 0 => []
  | i + 1 => catRow f v i ++ f v i
def catTo (f : Nat → Nat → List (Int × Int)) (D : Nat) : Nat → List (Int × Int)
  | 0 => []
  | v + 1 => catTo f D v ++ catRow f v D
def catSome (f : Nat → Nat → List (Int × Int)) (D v i : Nat) : List (Int × Int) := catTo f D v ++ catRow f v i
theorem catSome_zero (f : Nat → Nat → List (Int × Int)) (D v : Nat) : catSome f D v 0 = catTo f D v := by simp [catSome, catRow]
theorem catSome_succ (f : Nat → Nat → List (Int × Int)) (D v i : Nat) : catSome f D v (i + 1) = catSome f D v i ++ f v i := by simp [catSome, catRow]
theorem catSome_all (f : Nat → Nat → List (Int × Int)) (D v : Nat) : catSome f D v D = catTo f D (v + 1) := rfl
theorem catRow_len {f : Nat → Nat → List (Int × Int)} {c : Nat} (h : ∀ v i, (f v i).length = c) (v : Nat) : ∀ i, (catRow f v i).length = c * i
  | 0 => by simp [catRow]
  | i + 1 => by rw [catRow, List.length_append, catRow_len h v i, h]; rw [Nat.mul_succ]
theorem catTo_len {f : Nat → Nat → List (Int × Int)} {c : Nat} (h : ∀ v i, (f v i).length = c) (D : Nat) : ∀ v, (catTo f D v).length = c * (v * D)
  | 0 => by simp [catTo]
  | v + 1 => by rw [catTo, List.length_append, catTo_len h D v, catRow_len h, Nat.succ_mul, Nat.mul_add]
theorem catSome_len {f : Nat → Nat → List (Int × Int)} {c : Nat} (h : ∀ v i, (f v i).length = c) (D v i : Nat) : (catSome f D v i).length = c * (v * D + i) := by
  rw [catSome, List.length_append, catTo_len h, catRow_len h, Nat.mul_add]
theorem catRow_in {f : Nat → Nat → List (Int × Int)} (v : Nat) : ∀ i, (∀ j, j < i → PairsIn (f v j)) → PairsIn (catRow f v i)
  | 0, _ => PairsIn.nil
  | i + 1, h => PairsIn.app (catRow_in v i fun j hj => h j (by omega)) (h i (by omega))
theorem catTo_in {f : Nat → Nat → List (Int × Int)} {D : Nat} : ∀ v, (∀ u j, u < v → j < D → PairsIn (f u j)) → PairsIn (catTo f D v)
  | 0, _ => PairsIn.nil
  | v + 1, h => PairsIn.app (catTo_in v fun u j hu hj => h u j (by omega) hj) (catRow_in v D fun j hj => h v j (by omega) hj)
theorem pairs_two {a b c d : Int} (h1 : inI64 a) (h2 : inI64 b) (h3 : inI64 c) (h4 : inI64 d) : PairsIn [(a, b), (c, d)] := by
  intro i hi
  have h : i < 2 := by simpa using hi
  match i, h with
  | 0, _ => exact ⟨h1, h2⟩
  | 1, _ => exact ⟨h3, h4⟩
theorem pairs_one {a b : Int} (h1 : inI64 a) (h2 : inI64 b) : PairsIn [(a, b)] := by
  intro i hi
  have h : i < 1 := by simpa using hi
  match i, h with
  | 0, _ => exact ⟨h1, h2⟩

/-- A network without identifiers and with inputs 0 is good where its ends are. -/
theorem good_plain {N : Net} {n : Nat} (h1 : 1 ≤ n) (h2 : n ≤ 40) (h3 : N.ends.length = n) (h4 : N.ids = []) (h5 : N.inputs = List.replicate n 0) (h6 : EndsOK N.ends) : Good N := by
  refine ⟨by omega, h6, ⟨.inl (by rw [h4]; rfl), fun i hi => absurd hi (by rw [h4]; simp)⟩, ⟨by rw [h5, h3]; simp, fun j hj => ?_⟩⟩
  have hj' : j < n := by rw [h5] at hj; simpa using hj
  rw [h5, gi_replicate _ _ _ hj']
  omega
instance (l : List (List (Int × Int))) (x y : Int) : Decidable (PortOK l x y) := by unfold PortOK; infer_instance
instance (l : List (List (Int × Int))) (v i : Nat) : Decidable (JoinOK l v i) := by unfold JoinOK; infer_instance
instance (l : List (List (Int × Int))) (v : Nat) : Decidable (RowOK l v) := by unfold RowOK; infer_instance
instance (l : List (List (Int × Int))) : Decidable (EndsOK l) := by unfold EndsOK; infer_instance
instance (N : Net) (E : List (Int × Int)) : Decidable (PortsOK N E) := by unfold PortsOK; infer_instance
end Go.Proofs.Ytdcgpodjoalokaa
