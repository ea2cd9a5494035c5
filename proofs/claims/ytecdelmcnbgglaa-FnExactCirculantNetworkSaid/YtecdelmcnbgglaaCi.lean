/- Circulant networks as plain data: what the program's edges make is what the model says. -/
import Derived.Test.YtecdelmcnbgglaaTp
namespace Go.Proofs.Ytecdelmcnbgglaa
open Go.RowKit

/-- The step t, as a natural number. -/
def stepAt (l : List Int) (t : Nat) : Nat := (gi l t).toNat
/-- The edge of step t that begins at node v. -/
def ciEdge (k : Nat) (l : List Int) (t v : Nat) : List (Int × Int) := [((v : Int), ((2 * t : Nat) : Int)), (((v + stepAt l t) % k : Nat), ((2 * t + 1 : Nat) : Int))]
def ciList (k : Nat) (l : List Int) : List (Int × Int) := catTo (ciEdge k l) k l.length
/-- The two ends of step t at node v. -/
def ciEnds (k : Nat) (l : List Int) (t v : Nat) : List (Int × Int) := [(((v + stepAt l t) % k : Nat), ((2 * t + 1 : Nat) : Int)), (((v + k - stepAt l t) % k : Nat), ((2 * t : Nat) : Int))]
def ciRow (k : Nat) (l : List Int) (v : Nat) : Nat → List (Int × Int)
  | 0 => []
  | t + 1 => ciRow k l v t ++ ciEnds k l t v
def ciNet (k : Nat) (l : List Int) : Net := ⟨(List.range k).map fun v => ciRow k l v l.length, [], List.replicate k 0⟩
/-- The steps are small. -/
def StepsOK (k : Nat) (l : List Int) : Prop := ∀ t, t < l.length → stepAt l t < k

theorem ciRow_len (k : Nat) (l : List Int) (v : Nat) : ∀ t, (ciRow k l v t).length = 2 * t
  | 0 => rfl
  | t + 1 => by rw [ciRow, List.length_append, ciRow_len k l v t]; rfl
theorem ciRow_get (k : Nat) (l : List Int) (v : Nat) : ∀ n t, t < n → gn (ciRow k l v n) (2 * t) = (((v + stepAt l t) % k : Nat) : Int) ∧ gp (ciRow k l v n) (2 * t) = ((2 * t + 1 : Nat) : Int) ∧ gn (ciRow k l v n) (2 * t + 1) = (((v + k - stepAt l t) % k : Nat) : Int) ∧ gp (ciRow k l v n) (2 * t + 1) = ((2 * t : Nat) : Int)
  | 0, t, h => absurd h (by omega)
  | n + 1, t, h => by
    have hl := ciRow_len k l v n
    rw [ciRow]
    by_cases e : t < n
    · rw [(gn_app_lt (by omega)).1, (gn_app_lt (by omega)).2, (gn_app_lt (by omega)).1, (gn_app_lt (by omega)).2]
      exact ciRow_get k l v n t e
    · obtain rfl : t = n := by omega
      rw [(gn_app_ge (by omega)).1, (gn_app_ge (by omega)).2, (gn_app_ge (by omega)).1, (gn_app_ge (by omega)).2, hl, Nat.sub_self, show 2 * t + 1 - 2 * t = 1 by omega]
      exact ⟨rfl, rfl, rfl, rfl⟩
theorem ciNet_gr {k v : Nat} (l : List Int) (h : v < k) : gr (ciNet k l).ends v = ciRow k l v l.length := by simp [gr, ciNet, List.getD, h]

theorem flat_get2 (k : Nat) (l : List Int) : ∀ n, (catFlat (ciEdge k l) k n).length = 2 * n ∧ ∀ u t, u < n → t < 2 → gn (catFlat (ciEdge k l) k n) (2 * u + t) = gn (ciEdge k l (u / k) (u % k)) t ∧ gp (catFlat (ciEdge k l) k n) (2 * u + t) = gp (ciEdge k l (u / k) (u % k)) t
  | 0 => ⟨rfl, fun u t hu => absurd hu (by omega)⟩
  | n + 1 => by
    obtain ⟨h1, h2⟩ := flat_get2 k l n
    refine ⟨by rw [catFlat, List.length_append, h1]; rfl, fun u t hu ht => ?_⟩
    rw [catFlat]
    by_cases e : u < n
    · rw [(gn_app_lt (by omega)).1, (gn_app_lt (by omega)).2]; exact h2 u t e ht
    · obtain rfl : u = n := by omega
      rw [(gn_app_ge (by omega)).1, (gn_app_ge (by omega)).2, h1, show 2 * u + t - 2 * u = t by omega]
      exact ⟨rfl, rfl⟩
theorem ciList_len (k : Nat) (l : List Int) : (ciList k l).length = 2 * (l.length * k) := by
  have := (flat_get2 k l (l.length * k)).1
  rw [catFlat_all] at this
  exact this
theorem ci_get {k : Nat} {l : List Int} {t v j : Nat} (ht : t < l.length) (hv : v < k) (hj : j < 2) : gn (ciList k l) (2 * (t * k + v) + j) = gn (ciEdge k l t v) j ∧ gp (ciList k l) (2 * (t * k + v) + j) = gp (ciEdge k l t v) j := by
  have h := (flat_get2 k l (l.length * k)).2 (t * k + v) j (corner_lt ht hv) hj
  rw [catFlat_all, (corner_div hv).1, (corner_div hv).2] at h
  exact h
theorem ci_port {k : Nat} {l : List Int} {t v j : Nat} (hj : j < 2) : gp (ciEdge k l t v) j = ((2 * t + j : Nat) : Int) := by
  match j, hj with
  | 0, _ => rfl
  | 1, _ => rfl
theorem ci_at {k i : Nat} {l : List Int} (hi : i < 2 * (l.length * k)) : ∃ t v j, t < l.length ∧ v < k ∧ j < 2 ∧ i = 2 * (t * k + v) + j := by
  obtain ⟨t, v, ht, hv, h⟩ := corner_of (a := l.length) (b := k) (v := i / 2) (by omega)
  exact ⟨t, v, i % 2, ht, hv, by omega, by omega⟩
theorem add_sub_mod {k v s : Nat} (hv : v < k) (hs : s < k) : ((v + k - s) % k + s) % k = v ∧ ((v + s) % k + k - s) % k = v := by
  constructor
  · by_cases h : s ≤ v
    · rw [show v + k - s = v - s + k by omega, Nat.add_mod_right, Nat.mod_eq_of_lt (show v - s < k by omega), Nat.sub_add_cancel h, Nat.mod_eq_of_lt hv]
    · rw [Nat.mod_eq_of_lt (show v + k - s < k by omega), show v + k - s + s = v + k by omega, Nat.add_mod_right, Nat.mod_eq_of_lt hv]
  · by_cases h : v + s < k
    · rw [Nat.mod_eq_of_lt h, show v + s + k - s = v + k by omega, Nat.add_mod_right, Nat.mod_eq_of_lt hv]
    · rw [show v + s = v + s - k + k by omega, Nat.add_mod_right, Nat.mod_eq_of_lt (show v + s - k < k by omega), show v + s - k + k - s = v by omega, Nat.mod_eq_of_lt hv]
theorem ci_once {k : Nat} {l : List Int} (hs : StepsOK k l) : Once (ciList k l) := by
  intro i i' hi hi' h1 h2
  rw [ciList_len] at hi hi'
  obtain ⟨t, v, j, ht, hv, hj, rfl⟩ := ci_at hi
  obtain ⟨t', v', j', ht', hv', hj', rfl⟩ := ci_at hi'
  rw [(ci_get ht hv hj).2, (ci_get ht' hv' hj').2, ci_port hj, ci_port hj'] at h2
  obtain ⟨rfl, rfl⟩ : t = t' ∧ j = j' := by omega
  rw [(ci_get ht hv hj).1, (ci_get ht hv' hj).1] at h1
  have key : v = v' := by
    match j, hj with
    | 0, _ =>
      have h1' : ((v : Nat) : Int) = ((v' : Nat) : Int) := h1
      omega
    | 1, _ =>
      have h1' : (((v + stepAt l t) % k : Nat) : Int) = (((v' + stepAt l t) % k : Nat) : Int) := h1
      have e := Int.ofNat.inj h1'
      rw [← (add_sub_mod hv (hs t ht)).2, e, (add_sub_mod hv' (hs t ht)).2]
  rw [key]
theorem ciEdge_in {k : Nat} {l : List Int} {t v : Nat} (ht : t < l.length) (hv : v < k) : PIn k (2 * l.length) (ciEdge k l t v) := by
  have h1 : (v + stepAt l t) % k < k := Nat.mod_lt _ (by omega)
  exact PIn.two (by omega) (by omega)
theorem ciList_in (k : Nat) (l : List Int) : PIn k (2 * l.length) (ciList k l) := PIn.cat l.length fun _ _ hu hj => ciEdge_in hu hj
theorem blankD (n d v : Nat) (h : v < n) : (gr (blank n d).ends v).length = d := by rw [show gr (blank n d).ends v = List.replicate d (0, 0) from gr_replicate _ _ _ h]; simp
/-- The edge that reaches port 2 * t + j of node v. -/
theorem ci_reach {k : Nat} {l : List Int} (hs : StepsOK k l) {t v j : Nat} (ht : t < l.length) (hv : v < k) (hj : j < 2) :
    ∃ i, i < 2 * (l.length * k) ∧ gn (ciList k l) i = (v : Int) ∧ gp (ciList k l) i = ((2 * t + j : Nat) : Int) ∧ ge (ciList k l) (mate i) = (gn (ciRow k l v l.length) (2 * t + j), gp (ciRow k l v l.length) (2 * t + j)) := by
  have l0 := corner_lt ht hv
  have m1 : (v + k - stepAt l t) % k < k := Nat.mod_lt _ (by omega)
  have l1 := corner_lt ht m1
  obtain ⟨r0, r1, r2, r3⟩ := ciRow_get k l v l.length t ht
  match j, hj with
  | 0, _ =>
    refine ⟨2 * (t * k + v) + 0, by omega, (ci_get ht hv (by omega)).1, (ci_get ht hv (by omega)).2, ?_⟩
    rw [show mate (2 * (t * k + v) + 0) = 2 * (t * k + v) + 1 by unfold mate; rw [if_pos (by omega)], show 2 * t + 0 = 2 * t from rfl, r0, r1]
    unfold ge; rw [(ci_get ht hv (by omega)).1, (ci_get ht hv (by omega)).2]; rfl
  | 1, _ =>
    refine ⟨2 * (t * k + (v + k - stepAt l t) % k) + 1, by omega, ?_, (ci_get ht m1 (by omega)).2, ?_⟩
    · rw [(ci_get ht m1 (by omega)).1]
      show ((((v + k - stepAt l t) % k + stepAt l t) % k : Nat) : Int) = _
      rw [(add_sub_mod hv (hs t ht)).1]
    · rw [show mate (2 * (t * k + (v + k - stepAt l t) % k) + 1) = 2 * (t * k + (v + k - stepAt l t) % k) + 0 by unfold mate; rw [if_neg (by omega)]; omega, r2, r3]
      unfold ge; rw [(ci_get ht m1 (by omega)).1, (ci_get ht m1 (by omega)).2]; rfl
theorem ci_same {k : Nat} {l : List Int} (h3 : l.length ≤ 3) (hs : StepsOK k l) : linkTo (blank k (2 * l.length)) (ciList k l) (l.length * k) = ciNet k l ∧ EndsOK (ciNet k l).ends := by
  have hp := (ciList_in k l).ports
  have hl : (blank k (2 * l.length)).ends.length = k := by simp [blank]
  have hln : (ciNet k l).ends.length = k := by simp [ciNet]
  have e : linkTo (blank k (2 * l.length)) (ciList k l) (l.length * k) = ciNet k l := by
    refine net_ext (by rw [linkTo_len, hl, hln]) (fun v hv => ?_) (linkTo_parts _ _ _).1 (linkTo_parts _ _ _).2
    rw [hln] at hv
    rw [ciNet_gr l hv]
    refine row_ext_end (by rw [linkTo_row, blankD _ _ _ hv, ciRow_len]) fun j hj => ?_
    rw [ciRow_len] at hj
    obtain ⟨i, hi, h1, h2, h4⟩ := ci_reach hs (t := j / 2) (j := j % 2) (by omega) hv (by omega)
    have g := link_get hp (ci_once hs) (l.length * k) (by rw [ciList_len]; exact Nat.le_refl _) i hi
    rw [h1, h2, h4, show 2 * (j / 2) + j % 2 = j by omega] at g
    simp only [Int.toNat_natCast] at g
    exact ⟨congrArg Prod.fst g, congrArg Prod.snd g⟩
  refine ⟨e, ?_⟩
  rw [← e]
  refine link_ends (ciList_len k l) hp (ci_once hs) (fun v hv => by rw [hl] at hv; rw [blankD _ _ _ hv]; omega) fun v j hv hj => ?_
  rw [hl] at hv
  rw [blankD _ _ _ hv] at hj
  obtain ⟨i, hi, h1, h2, -⟩ := ci_reach hs (t := j / 2) (j := j % 2) (by omega) hv (by omega)
  exact ⟨i, hi, h1, by rw [h2]; omega⟩
theorem ci_good {k : Nat} {l : List Int} (hk : 0 < k) (h40 : k ≤ 40) (h3 : l.length ≤ 3) (hs : StepsOK k l) : Good (ciNet k l) :=
  good_plain hk h40 (by simp [ciNet]) rfl rfl (ci_same h3 hs).2

def CiOK (n : Int) (l : List Int) : Prop := InB n 1 40 ∧ l.length ≤ 3 ∧ AllIn l 0 (n - 1)
theorem CiOK.steps {n : Int} {l : List Int} (h : CiOK n l) : StepsOK n.toNat l := fun t ht => by
  obtain ⟨h1, h2⟩ := h.2.2 t ht
  have := h.1.1
  unfold stepAt
  omega
noncomputable def ciAns (n : Int) (l : List Int) : Net := if dec (CiOK n l) = true then ciNet n.toNat l else zeroNet
theorem ciAns_t {n : Int} {l : List Int} (h : CiOK n l) : ciAns n l = ciNet n.toNat l := by simp [ciAns, dec_true h]
theorem ciAns_f {n : Int} {l : List Int} (h : ¬ CiOK n l) : ciAns n l = zeroNet := by simp [ciAns, dec_false h]
theorem ciAns_small (n : Int) (l : List Int) : (ciAns n l).small := by
  by_cases h : CiOK n l
  · rw [ciAns_t h]; exact good_small (ci_good (by have := h.1.1; omega) (by have := h.1.2; omega) h.2.1 h.steps)
  · rw [ciAns_f h]; exact zero_small
end Go.Proofs.Ytecdelmcnbgglaa
