/- Tori as plain data: what the program's edges make is what the model says. -/
import Derived.Test.YtecdelmcnbgglaaLg
import Derived.Test.YtecdelmcnbgglaaGd
import Derived.Test.YtecdelmcnbgglaaEp
namespace Go.Proofs.Ytecdelmcnbgglaa
open Go.RowKit

/-- The two edges that begin at the corner r, s: to the right and downwards. -/
def toEdge (a b r s : Nat) : List (Int × Int) := [(((r * b + s : Nat) : Int), 0), (((r * b + (s + 1) % b : Nat) : Int), 1), (((r * b + s : Nat) : Int), 2), ((((r + 1) % a * b + s : Nat) : Int), 3)]
def toList (a b : Nat) : List (Int × Int) := catTo (toEdge a b) b a
/-- The row of the corner r, s. -/
def toRow (a b r s : Nat) : List (Int × Int) := [(((r * b + (s + 1) % b : Nat) : Int), 1), (((r * b + (s + b - 1) % b : Nat) : Int), 0), ((((r + 1) % a * b + s : Nat) : Int), 3), ((((r + a - 1) % a * b + s : Nat) : Int), 2)]
/-- The rows of one line of the grid are stored one after another, then the next line. -/
def lineTo (a b : Nat) (N : Net) (r : Nat) : Nat → Net
  | 0 => N
  | s + 1 => setRow (lineTo a b N r s) (r * b + s) (toRow a b r s)
def linesTo (a b : Nat) (N : Net) : Nat → Net
  | 0 => N
  | r + 1 => lineTo a b (linesTo a b N r) r b
def toNet (a b : Nat) : Net := linesTo a b (blank (a * b) 0) a

theorem corner_lt {a b r s : Nat} (hr : r < a) (hs : s < b) : r * b + s < a * b := by
  have h2 : (r + 1) * b ≤ a * b := Nat.mul_le_mul_right b hr
  have h3 : (r + 1) * b = r * b + b := Nat.succ_mul r b
  omega
theorem corner_div {b r s : Nat} (hs : s < b) : (r * b + s) / b = r ∧ (r * b + s) % b = s := by
  have hd : 0 < b := by omega
  exact ⟨by rw [Nat.mul_comm, Nat.mul_add_div hd, Nat.div_eq_of_lt hs, Nat.add_zero], by rw [Nat.mul_comm, Nat.mul_add_mod, Nat.mod_eq_of_lt hs]⟩
theorem corner_inj {b r s r' s' : Nat} (hs : s < b) (hs' : s' < b) (h : r * b + s = r' * b + s') : r = r' ∧ s = s' := by
  have h1 := corner_div (r := r) hs
  have h2 := corner_div (r := r') hs'
  rw [h] at h1
  exact ⟨h1.1.symm.trans h2.1, h1.2.symm.trans h2.2⟩
theorem corner_of {a b v : Nat} (h : v < a * b) : ∃ r s, r < a ∧ s < b ∧ v = r * b + s := by
  have hb : 0 < b := by
    rcases Nat.eq_zero_or_pos b with e | e
    · rw [e, Nat.mul_zero] at h; omega
    · exact e
  exact ⟨v / b, v % b, (Nat.div_lt_iff_lt_mul hb).2 h, Nat.mod_lt _ hb, by rw [Nat.mul_comm]; exact (Nat.div_add_mod v b).symm⟩

theorem flat_get4 (a b : Nat) : ∀ k, (catFlat (toEdge a b) b k).length = 4 * k ∧ ∀ u t, u < k → t < 4 → gn (catFlat (toEdge a b) b k) (4 * u + t) = gn (toEdge a b (u / b) (u % b)) t ∧ gp (catFlat (toEdge a b) b k) (4 * u + t) = gp (toEdge a b (u / b) (u % b)) t
  | 0 => ⟨rfl, fun u t hu => absurd hu (by omega)⟩
  | k + 1 => by
    obtain ⟨h1, h2⟩ := flat_get4 a b k
    refine ⟨by rw [catFlat, List.length_append, h1]; rfl, fun u t hu ht => ?_⟩
    rw [catFlat]
    by_cases e : u < k
    · rw [(gn_app_lt (by omega)).1, (gn_app_lt (by omega)).2]; exact h2 u t e ht
    · obtain rfl : u = k := by omega
      rw [(gn_app_ge (by omega)).1, (gn_app_ge (by omega)).2, h1, show 4 * u + t - 4 * u = t by omega]
      exact ⟨rfl, rfl⟩
theorem toList_len (a b : Nat) : (toList a b).length = 2 * (2 * (a * b)) := by
  have := (flat_get4 a b (a * b)).1
  rw [catFlat_all] at this
  unfold toList
  omega
theorem to_get {a b r s t : Nat} (hr : r < a) (hs : s < b) (ht : t < 4) : gn (toList a b) (4 * (r * b + s) + t) = gn (toEdge a b r s) t ∧ gp (toList a b) (4 * (r * b + s) + t) = gp (toEdge a b r s) t := by
  have h := (flat_get4 a b (a * b)).2 (r * b + s) t (corner_lt hr hs) ht
  rw [catFlat_all, (corner_div hs).1, (corner_div hs).2] at h
  exact h
theorem to_port {a b r s t : Nat} (ht : t < 4) : gp (toEdge a b r s) t = t := by
  match t, ht with
  | 0, _ => rfl
  | 1, _ => rfl
  | 2, _ => rfl
  | 3, _ => rfl
theorem to_at {a b i : Nat} (hi : i < 4 * (a * b)) : ∃ r s t, r < a ∧ s < b ∧ t < 4 ∧ i = 4 * (r * b + s) + t := by
  obtain ⟨r, s, hr, hs, h⟩ := corner_of (a := a) (b := b) (v := i / 4) (by omega)
  exact ⟨r, s, i % 4, hr, hs, by omega, by omega⟩

theorem to_once (a b : Nat) : Once (toList a b) := by
  intro i j hi hj h1 h2
  rw [toList_len] at hi hj
  obtain ⟨r, s, t, hr, hs, ht, rfl⟩ := to_at (a := a) (b := b) (i := i) (by omega)
  obtain ⟨r', s', t', hr', hs', ht', rfl⟩ := to_at (a := a) (b := b) (i := j) (by omega)
  rw [(to_get hr hs ht).2, (to_get hr' hs' ht').2, to_port ht, to_port ht'] at h2
  obtain rfl : t = t' := by omega
  rw [(to_get hr hs ht).1, (to_get hr' hs' ht').1] at h1
  have key : r = r' ∧ s = s' := by
    match t, ht with
    | 0, _ =>
      have h1' : ((r * b + s : Nat) : Int) = ((r' * b + s' : Nat) : Int) := h1
      exact corner_inj hs hs' (by omega)
    | 1, _ =>
      have h1' : ((r * b + (s + 1) % b : Nat) : Int) = ((r' * b + (s' + 1) % b : Nat) : Int) := h1
      obtain ⟨e1, e2⟩ := corner_inj (r := r) (r' := r') (Nat.mod_lt (s + 1) (show 0 < b by omega)) (Nat.mod_lt (s' + 1) (show 0 < b by omega)) (Int.ofNat.inj h1')
      exact ⟨e1, by rw [← pred_succ hs, e2, pred_succ hs']⟩
    | 2, _ =>
      have h1' : ((r * b + s : Nat) : Int) = ((r' * b + s' : Nat) : Int) := h1
      exact corner_inj hs hs' (by omega)
    | 3, _ =>
      have h1' : (((r + 1) % a * b + s : Nat) : Int) = (((r' + 1) % a * b + s' : Nat) : Int) := h1
      obtain ⟨e1, e2⟩ := corner_inj (r := (r + 1) % a) (r' := (r' + 1) % a) hs hs' (Int.ofNat.inj h1')
      exact ⟨by rw [← pred_succ hr, e1, pred_succ hr'], e2⟩
  rw [key.1, key.2]

/-- The ends are ports of n nodes with d ports each. -/
def PIn (n d : Nat) (E : List (Int × Int)) : Prop := ∀ i, i < E.length → 0 ≤ gn E i ∧ gn E i < n ∧ 0 ≤ gp E i ∧ gp E i < d
theorem PIn.app {n d : Nat} {a b : List (Int × Int)} (ha : PIn n d a) (hb : PIn n d b) : PIn n d (a ++ b) := by
  intro i hi
  by_cases h : i < a.length
  · rw [(gn_app_lt h).1, (gn_app_lt h).2]; exact ha i h
  · rw [(gn_app_ge (by omega)).1, (gn_app_ge (by omega)).2]
    exact hb _ (by rw [List.length_append] at hi; omega)
theorem PIn.row {n d : Nat} {f : Nat → Nat → List (Int × Int)} (v : Nat) : ∀ i, (∀ j, j < i → PIn n d (f v j)) → PIn n d (catRow f v i)
  | 0, _ => fun i hi => absurd hi (by simp [catRow])
  | i + 1, h => PIn.app (PIn.row v i fun j hj => h j (by omega)) (h i (by omega))
theorem PIn.cat {n d D : Nat} {f : Nat → Nat → List (Int × Int)} : ∀ v, (∀ u j, u < v → j < D → PIn n d (f u j)) → PIn n d (catTo f D v)
  | 0, _ => fun i hi => absurd hi (by simp [catTo])
  | v + 1, h => PIn.app (PIn.cat v fun u j hu hj => h u j (by omega) hj) (PIn.row v D fun j hj => h v j (by omega) hj)
theorem PIn.ports {n d : Nat} {E : List (Int × Int)} (h : PIn n d E) : PortsOK (blank n d) E := fun i hi => by
  obtain ⟨h1, h2, h3, h4⟩ := h i hi
  refine ⟨h1, by simpa [blank] using h2, h3, ?_⟩
  rw [show gr (blank n d).ends (gn E i).toNat = List.replicate d (0, 0) from gr_replicate _ _ _ (by omega)]
  simpa using h4
theorem PIn.pairs {n d : Nat} {E : List (Int × Int)} (hn : n ≤ 1048576) (hd : d ≤ 1048576) (h : PIn n d E) : PairsIn E := fun i hi => by
  obtain ⟨h1, h2, h3, h4⟩ := h i hi
  unfold inI64
  omega
theorem PIn.two {n d : Nat} {x y z u : Int} (h1 : 0 ≤ x ∧ x < n ∧ 0 ≤ y ∧ y < d) (h2 : 0 ≤ z ∧ z < n ∧ 0 ≤ u ∧ u < d) : PIn n d [(x, y), (z, u)] := by
  intro i hi
  have h : i < 2 := by simpa using hi
  match i, h with
  | 0, _ => exact h1
  | 1, _ => exact h2
theorem toEdge_in {a b r s : Nat} (hr : r < a) (hs : s < b) : PIn (a * b) 4 (toEdge a b r s) := by
  have h1 := corner_lt hr hs
  have h2 := corner_lt hr (Nat.mod_lt (s + 1) (show 0 < b by omega))
  have h3 := corner_lt (Nat.mod_lt (r + 1) (show 0 < a by omega)) hs
  exact PIn.app (a := [(((r * b + s : Nat) : Int), (0 : Int)), (((r * b + (s + 1) % b : Nat) : Int), 1)]) (PIn.two (by omega) (by omega)) (PIn.two (by omega) (by omega))
theorem toList_in (a b : Nat) : PIn (a * b) 4 (toList a b) := PIn.cat a fun _ _ hu hj => toEdge_in hu hj

theorem blank4 (n v : Nat) (h : v < n) : (gr (blank n 4).ends v).length = 4 := by rw [show gr (blank n 4).ends v = List.replicate 4 (0, 0) from gr_replicate _ _ _ h]; rfl
/-- The edge that reaches port t of the corner r, s. -/
theorem to_reach {a b r s t : Nat} (hr : r < a) (hs : s < b) (ht : t < 4) : ∃ i, i < 2 * (2 * (a * b)) ∧ gn (toList a b) i = ((r * b + s : Nat) : Int) ∧ gp (toList a b) i = t ∧ ge (toList a b) (mate i) = (gn (toRow a b r s) t, gp (toRow a b r s) t) := by
  have hb : 0 < b := by omega
  have ha : 0 < a := by omega
  have m1 : (s + b - 1) % b < b := Nat.mod_lt _ hb
  have m2 : (r + a - 1) % a < a := Nat.mod_lt _ ha
  have l0 := corner_lt hr hs
  have l1 := corner_lt hr m1
  have l2 := corner_lt m2 hs
  match t, ht with
  | 0, _ =>
    refine ⟨4 * (r * b + s) + 0, by omega, (to_get hr hs (by omega)).1, (to_get hr hs (by omega)).2, ?_⟩
    rw [show mate (4 * (r * b + s) + 0) = 4 * (r * b + s) + 1 by unfold mate; rw [if_pos (by omega)]]
    unfold ge; rw [(to_get hr hs (by omega)).1, (to_get hr hs (by omega)).2]; rfl
  | 1, _ =>
    refine ⟨4 * (r * b + (s + b - 1) % b) + 1, by omega, ?_, (to_get hr m1 (by omega)).2, ?_⟩
    · rw [(to_get hr m1 (by omega)).1]
      show ((r * b + ((s + b - 1) % b + 1) % b : Nat) : Int) = _
      rw [succ_pred hs]
    · rw [show mate (4 * (r * b + (s + b - 1) % b) + 1) = 4 * (r * b + (s + b - 1) % b) + 0 by unfold mate; rw [if_neg (by omega)]; omega]
      unfold ge; rw [(to_get hr m1 (by omega)).1, (to_get hr m1 (by omega)).2]; rfl
  | 2, _ =>
    refine ⟨4 * (r * b + s) + 2, by omega, (to_get hr hs (by omega)).1, (to_get hr hs (by omega)).2, ?_⟩
    rw [show mate (4 * (r * b + s) + 2) = 4 * (r * b + s) + 3 by unfold mate; rw [if_pos (by omega)]]
    unfold ge; rw [(to_get hr hs (by omega)).1, (to_get hr hs (by omega)).2]; rfl
  | 3, _ =>
    refine ⟨4 * ((r + a - 1) % a * b + s) + 3, by omega, ?_, (to_get m2 hs (by omega)).2, ?_⟩
    · rw [(to_get m2 hs (by omega)).1]
      show ((((r + a - 1) % a + 1) % a * b + s : Nat) : Int) = _
      rw [succ_pred hr]
    · rw [show mate (4 * ((r + a - 1) % a * b + s) + 3) = 4 * ((r + a - 1) % a * b + s) + 2 by unfold mate; rw [if_neg (by omega)]; omega]
      unfold ge; rw [(to_get m2 hs (by omega)).1, (to_get m2 hs (by omega)).2]; rfl

theorem lineTo_parts (a b : Nat) (N : Net) (r : Nat) : ∀ s, (lineTo a b N r s).ids = N.ids ∧ (lineTo a b N r s).inputs = N.inputs ∧ (lineTo a b N r s).ends.length = N.ends.length
  | 0 => ⟨rfl, rfl, rfl⟩
  | s + 1 => by
    obtain ⟨h1, h2, h3⟩ := lineTo_parts a b N r s
    exact ⟨h1, h2, by rw [lineTo, setRow_len]; exact h3⟩
theorem linesTo_parts (a b : Nat) (N : Net) : ∀ r, (linesTo a b N r).ids = N.ids ∧ (linesTo a b N r).inputs = N.inputs ∧ (linesTo a b N r).ends.length = N.ends.length
  | 0 => ⟨rfl, rfl, rfl⟩
  | r + 1 => by
    obtain ⟨h1, h2, h3⟩ := linesTo_parts a b N r
    obtain ⟨g1, g2, g3⟩ := lineTo_parts a b (linesTo a b N r) r b
    exact ⟨by rw [linesTo, g1, h1], by rw [linesTo, g2, h2], by rw [linesTo, g3, h3]⟩
theorem lineTo_gr {a b : Nat} {N : Net} {r r' s' : Nat} (hN : N.ends.length = a * b) (hr : r < a) (hr' : r' < a) (hs' : s' < b) : ∀ s, s ≤ b → gr (lineTo a b N r s).ends (r' * b + s') = if r' = r ∧ s' < s then toRow a b r s' else gr N.ends (r' * b + s')
  | 0, _ => by rw [lineTo, if_neg (by omega)]
  | s + 1, hs => by
    rw [lineTo, gr_setRow _ _ _ _ (by rw [(lineTo_parts a b N r s).2.2, hN]; exact corner_lt hr (by omega)), lineTo_gr hN hr hr' hs' s (by omega)]
    by_cases e : r' * b + s' = r * b + s
    · obtain ⟨rfl, rfl⟩ := corner_inj hs' (by omega) e
      rw [if_pos rfl, if_pos ⟨rfl, by omega⟩]
    · rw [if_neg e]
      by_cases e2 : r' = r ∧ s' < s
      · rw [if_pos e2, if_pos ⟨e2.1, by omega⟩]
      · rw [if_neg e2, if_neg]
        intro h
        refine e2 ⟨h.1, ?_⟩
        have h5 : s' ≠ s := fun h6 => e (by rw [h.1, h6])
        omega
theorem linesTo_gr {a b : Nat} {N : Net} {r' s' : Nat} (hN : N.ends.length = a * b) (hr' : r' < a) (hs' : s' < b) : ∀ r, r ≤ a → gr (linesTo a b N r).ends (r' * b + s') = if r' < r then toRow a b r' s' else gr N.ends (r' * b + s')
  | 0, _ => by rw [linesTo, if_neg (by omega)]
  | r + 1, hr => by
    rw [linesTo, lineTo_gr (by rw [(linesTo_parts a b N r).2.2, hN]) (by omega) hr' hs' b (Nat.le_refl _), linesTo_gr hN hr' hs' r (by omega)]
    by_cases e : r' = r
    · subst e; rw [if_pos ⟨rfl, hs'⟩, if_pos (by omega)]
    · rw [if_neg (fun h => e h.1)]
      by_cases h : r' < r
      · rw [if_pos h, if_pos (by omega)]
      · rw [if_neg h, if_neg (by omega)]

theorem to_same (a b : Nat) : linkTo (blank (a * b) 4) (toList a b) (2 * (a * b)) = toNet a b ∧ EndsOK (toNet a b).ends := by
  have hp := (toList_in a b).ports
  have hl : (blank (a * b) 4).ends.length = a * b := by simp [blank]
  have e : linkTo (blank (a * b) 4) (toList a b) (2 * (a * b)) = toNet a b := by
    refine net_ext (by rw [linkTo_len, hl, toNet, (linesTo_parts a b _ a).2.2]; simp [blank]) (fun v hv => ?_) ?_ ?_
    · rw [toNet, (linesTo_parts a b _ a).2.2] at hv
      obtain ⟨r, s, hr, hs, rfl⟩ := corner_of (a := a) (b := b) (v := v) (by simpa [blank] using hv)
      rw [toNet, linesTo_gr (by simp [blank]) hr hs a (Nat.le_refl _), if_pos hr]
      refine row_ext_end (by rw [linkTo_row, blank4 _ _ (corner_lt hr hs)]; rfl) fun j hj => ?_
      obtain ⟨i, hi, h1, h2, h3⟩ := to_reach hr hs (show j < 4 from hj)
      have g := link_get hp (to_once a b) (2 * (a * b)) (by rw [toList_len]; exact Nat.le_refl _) i hi
      rw [h1, h2, h3] at g
      simp only [Int.toNat_natCast] at g
      exact ⟨congrArg Prod.fst g, congrArg Prod.snd g⟩
    · rw [(linkTo_parts _ _ _).1, toNet, (linesTo_parts a b _ a).1]; rfl
    · rw [(linkTo_parts _ _ _).2, toNet, (linesTo_parts a b _ a).2.1]; rfl
  refine ⟨e, ?_⟩
  rw [← e]
  refine link_ends (toList_len a b) hp (to_once a b) (fun v hv => by rw [hl] at hv; rw [blank4 _ _ hv]; omega) fun v j hv hj => ?_
  rw [hl] at hv
  rw [blank4 _ _ hv] at hj
  obtain ⟨r, s, hr, hs, rfl⟩ := corner_of hv
  obtain ⟨i, hi, h1, h2, -⟩ := to_reach hr hs hj
  exact ⟨i, hi, h1, h2⟩
end Go.Proofs.Ytecdelmcnbgglaa
