/- Components and their codes, as plain mathematics: a node's walk goes round its component; equal codes make an isomorphism of components; all codes of a component are had by equally many of its nodes. -/
import Derived.Test.YtdoaopeegcakiaaIb
namespace Go.Proofs.Ytdoaopeegcakiaa

/-- Each port's mate leads back. -/
structure Mutual (N : Net) : Prop where
  back : ∀ x : Int, 0 ≤ x → x < N.ends.length → ∀ j, j < (rw' N x).length → ∃ i, i < (rw' N (gn (rw' N x) j)).length ∧ gn (rw' N (gn (rw' N x) j)) i = x

theorem wk_self {N : Net} {v : Int} : v ∈ wk N v := by
  have h := wkTo_first N v N.ends.length
  have hp := wkTo_pos N v N.ends.length
  have k := gi_in hp
  rw [h] at k
  exact k
/-- A walk stays in every set that is closed. -/
theorem wkTo_sub {N : Net} {S : Int → Prop} {v : Int} (hv : S v) (hc : ∀ x, S x → ∀ j, j < (rw' N x).length → S (gn (rw' N x) j)) : ∀ k, ∀ x ∈ wkTo N v k, S x
  | 0, x, hx => by
    obtain rfl : x = v := by simpa [wkTo] using hx
    exact hv
  | k + 1, x, hx => by
    have ih := wkTo_sub hv hc k
    by_cases h : k < (wkTo N v k).length
    · rw [wkTo_go h] at hx
      rcases (addTo_mem _ _ _ _).1 hx with h1 | ⟨i, hi, rfl⟩
      · exact ih x h1
      · exact hc _ (ih _ (gi_in h)) i hi
    · rw [wkTo_stay (k := k) (by omega) (k + 1) (by omega)] at hx
      exact ih x hx
theorem wk_sub {N : Net} (hN : Leads' N) {v : Int} {x : Int} (hx : 0 ≤ x ∧ x < N.ends.length) (h : v ∈ wk N x) : ∀ y ∈ wk N v, y ∈ wk N x :=
  wkTo_sub (S := fun y => y ∈ wk N x) h (wk_ok hN hx).closed _
theorem wk_symm {N : Net} (hN : Leads' N) (hM : Mutual N) {v x : Int} (hv : 0 ≤ v ∧ v < N.ends.length) (h : x ∈ wk N v) : v ∈ wk N x := by
  have ok := wk_ok hN hv
  have key := wkTo_sub (N := N) (v := v) (S := fun y => y ∈ wk N v ∧ v ∈ wk N y) ⟨wk_self, wk_self⟩ (fun y ⟨hy, hvy⟩ j hj => by
    have ry := ok.range y hy
    obtain ⟨i, hi, e⟩ := hM.back y ry.1 ry.2 j hj
    have hz := ok.closed y hy j hj
    have rz := ok.range _ hz
    have okz := wk_ok hN rz
    have yz : y ∈ wk N (gn (rw' N y) j) := by
      have := okz.closed _ wk_self i hi
      rw [e] at this; exact this
    exact ⟨hz, wk_sub hN rz yz v hvy⟩) N.ends.length
  exact (key x h).2

/-- A map of a set of nodes that keeps what a code tells. -/
structure IsoOn (N : Net) (f : Int → Int) (C : List Int) : Prop where
  head : ∀ x ∈ C, headCd N (f x) = headCd N x
  node : ∀ x ∈ C, ∀ j, j < (rw' N x).length → gn (rw' N (f x)) j = f (gn (rw' N x) j)
  port : ∀ x ∈ C, ∀ j, j < (rw' N x).length → gp (rw' N (f x)) j = gp (rw' N x) j
  closed : ∀ x ∈ C, ∀ j, j < (rw' N x).length → gn (rw' N x) j ∈ C
  inj : ∀ x ∈ C, ∀ y ∈ C, f x = f y → x = y
theorem IsoOn.deg {N : Net} {f : Int → Int} {C : List Int} (h : IsoOn N f C) {x : Int} (hx : x ∈ C) : (rw' N (f x)).length = (rw' N x).length := by
  have := h.head x hx
  unfold headCd at this
  have := (List.cons.inj this).1
  omega
theorem mem_mapI {f : Int → Int} {C : List Int} (hinj : ∀ x ∈ C, ∀ y ∈ C, f x = f y → x = y) {l : List Int} (hl : ∀ y ∈ l, y ∈ C) {x : Int} (hx : x ∈ C) : f x ∈ l.map f ↔ x ∈ l := by
  constructor
  · intro h
    obtain ⟨y, hy, e⟩ := List.mem_map.1 h
    rw [← hinj y (hl y hy) x hx e]; exact hy
  · exact fun h => List.mem_map.2 ⟨x, h, rfl⟩
theorem idx_map {f : Int → Int} {C : List Int} (hinj : ∀ x ∈ C, ∀ y ∈ C, f x = f y → x = y) : ∀ {l : List Int}, (∀ y ∈ l, y ∈ C) → ∀ {x : Int}, x ∈ C → (l.map f).idxOf (f x) = l.idxOf x
  | [], _, _, _ => rfl
  | a :: l, hl, x, hx => by
    rw [List.map_cons, List.idxOf_cons, List.idxOf_cons]
    by_cases e : a = x
    · subst e; simp
    · have e2 : ¬ f a = f x := fun h => e (hinj a (hl a (by simp)) x hx h)
      have b1 : (a == x) = false := by simp [e]
      have b2 : (f a == f x) = false := by simp [e2]
      rw [b1, b2]
      simp only [cond_false]
      rw [idx_map hinj (fun y hy => hl y (by simp [hy])) hx]
theorem addTo_map {f : Int → Int} {C : List Int} (hinj : ∀ x ∈ C, ∀ y ∈ C, f x = f y → x = y) {l : List Int} (hl : ∀ y ∈ l, y ∈ C) {r s : List (Int × Int)} : ∀ {j : Nat}, (∀ i, i < j → gn r i ∈ C ∧ gn s i = f (gn r i)) → addTo (l.map f) s j = (addTo l r j).map f
  | 0, _ => rfl
  | j + 1, h => by
    have ih := addTo_map hinj hl (r := r) (s := s) (j := j) fun i hi => h i (by omega)
    have hj := h j (by omega)
    have hm : ∀ y ∈ addTo l r j, y ∈ C := fun y hy => by
      rcases (addTo_mem _ _ _ _).1 hy with h1 | ⟨i, hi, rfl⟩
      · exact hl y h1
      · exact (h i (by omega)).1
    show addOne (addTo (l.map f) s j) (gn s j) = (addOne (addTo l r j) (gn r j)).map f
    rw [ih, hj.2]
    by_cases e : gn r j ∈ addTo l r j
    · rw [addOne_in e, addOne_in ((mem_mapI hinj hm hj.1).2 e)]
    · rw [addOne_new e, addOne_new fun k => e ((mem_mapI hinj hm hj.1).1 k)]; simp
theorem IsoOn.walk {N : Net} {f : Int → Int} {C : List Int} (h : IsoOn N f C) {u : Int} (hu : u ∈ C) : ∀ k, wkTo N (f u) k = (wkTo N u k).map f
  | 0 => rfl
  | k + 1 => by
    have ih := h.walk hu k
    have hs : ∀ y ∈ wkTo N u k, y ∈ C := wkTo_sub (S := fun y => y ∈ C) hu h.closed k
    by_cases hk : k < (wkTo N u k).length
    · have hk' : k < (wkTo N (f u) k).length := by rw [ih, List.length_map]; exact hk
      rw [wkTo_go hk, wkTo_go hk', ih]
      have hx := hs _ (gi_in hk)
      have e : gi ((wkTo N u k).map f) k = f (gi (wkTo N u k) k) := by simp [gi, List.getD, hk]
      rw [e, h.deg hx]
      exact addTo_map h.inj hs fun i hi => ⟨h.closed _ hx i hi, h.node _ hx i hi⟩
    · rw [wkTo_stay (v := u) (k := k) (by omega) (k + 1) (by omega), wkTo_stay (v := f u) (k := k) (by rw [ih, List.length_map]; omega) (k + 1) (by omega), ih]
theorem isoOn_wk {N : Net} {f : Int → Int} {C : List Int} (h : IsoOn N f C) {u : Int} (hu : u ∈ C) : wk N (f u) = (wk N u).map f := h.walk hu _
theorem endCd_map {f : Int → Int} {C : List Int} (hinj : ∀ x ∈ C, ∀ y ∈ C, f x = f y → x = y) {L : List Int} (hL : ∀ y ∈ L, y ∈ C) {r s : List (Int × Int)} : ∀ {j : Nat}, (∀ i, i < j → gn r i ∈ C ∧ gn s i = f (gn r i) ∧ gp s i = gp r i) → endCd (L.map f) s j = endCd L r j
  | 0, _ => rfl
  | j + 1, h => by
    have ih := endCd_map hinj hL (r := r) (s := s) (j := j) fun i hi => h i (by omega)
    obtain ⟨h1, h2, h3⟩ := h j (by omega)
    show endCd (L.map f) s j ++ [ixI (L.map f) (gn s j), gp s j] = endCd L r j ++ [ixI L (gn r j), gp r j]
    rw [ih, h2, h3]
    unfold ixI
    rw [idx_map hinj hL h1]
theorem cdTo_map {N : Net} {f : Int → Int} {C : List Int} (h : IsoOn N f C) {L : List Int} (hL : ∀ y ∈ L, y ∈ C) : ∀ k, k ≤ L.length → cdTo N (L.map f) k = cdTo N L k
  | 0, _ => rfl
  | k + 1, hk => by
    have hx := hL _ (gi_in (show k < L.length by omega))
    have e : gi (L.map f) k = f (gi L k) := by simp [gi, List.getD, show k < L.length by omega]
    show cdTo N (L.map f) k ++ nodeCd N (L.map f) (gi (L.map f) k) = cdTo N L k ++ nodeCd N L (gi L k)
    rw [cdTo_map h hL k (by omega), e]
    unfold nodeCd
    rw [h.head _ hx, h.deg hx, endCd_map h.inj hL fun i hi => ⟨h.closed _ hx i hi, h.node _ hx i hi, h.port _ hx i hi⟩]
theorem isoOn_code {N : Net} {f : Int → Int} {C : List Int} (h : IsoOn N f C) {u : Int} (hu : u ∈ C) : code N (f u) = code N u := by
  unfold code
  rw [isoOn_wk h hu]
  unfold cd
  rw [List.length_map]
  exact cdTo_map h (wkTo_sub (S := fun y => y ∈ C) hu h.closed _) _ (Nat.le_refl _)

/-- What a node's code is mapped to: the node at the same place of the other walk. -/
def toW (N : Net) (v w : Int) (x : Int) : Int := gi (wk N w) ((wk N v).idxOf x)
theorem endCd_inj {L K : List Int} {r s : List (Int × Int)} : ∀ {j : Nat}, endCd L r j = endCd K s j → ∀ i, i < j → ixI L (gn r i) = ixI K (gn s i) ∧ gp r i = gp s i
  | 0, _, i, hi => absurd hi (by omega)
  | j + 1, h, i, hi => by
    have h' : endCd L r j ++ [ixI L (gn r j), gp r j] = endCd K s j ++ [ixI K (gn s j), gp s j] := h
    obtain ⟨h1, h2⟩ := List.append_inj h' (by rw [endCd_len, endCd_len])
    by_cases e : i = j
    · subst e
      have a := List.cons.inj h2
      exact ⟨a.1, (List.cons.inj a.2).1⟩
    · exact endCd_inj h1 i (by omega)
theorem toW_iso {N : Net} (hN : Leads' N) {v w : Int} (hv : 0 ≤ v ∧ v < N.ends.length) (hw : 0 ≤ w ∧ w < N.ends.length) (h : code N v = code N w) : IsoOn N (toW N v w) (wk N v) := by
  have ov := wk_ok hN hv
  have ow := wk_ok hN hw
  have hl : (wk N v).length = (wk N w).length := cd_len h
  have hb := cd_blocks h
  have blk : ∀ i, i < (wk N v).length → nodeCd N (wk N v) (gi (wk N v) i) = nodeCd N (wk N w) (gi (wk N w) i) := fun i hi => by
    have := congrArg (fun l => l[i]?) hb
    simpa [hi, ← hl] using this
  have key : ∀ x ∈ wk N v, headCd N x = headCd N (toW N v w x) ∧ ∀ j, j < (rw' N x).length → ixI (wk N v) (gn (rw' N x) j) = ixI (wk N w) (gn (rw' N (toW N v w x)) j) ∧ gp (rw' N x) j = gp (rw' N (toW N v w x)) j := fun x hx => by
    have hi : (wk N v).idxOf x < (wk N v).length := List.idxOf_lt_length_of_mem hx
    have b := blk _ hi
    rw [gi_idx hx] at b
    unfold nodeCd at b
    obtain ⟨b1, b2⟩ := List.append_inj b (by simp [headCd])
    have hd : (rw' N x).length = (rw' N (toW N v w x)).length := by
      have := (List.cons.inj b1).1
      unfold toW; omega
    refine ⟨b1, fun j hj => ?_⟩
    have b3 : endCd (wk N v) (rw' N x) (rw' N x).length = endCd (wk N w) (rw' N (toW N v w x)) (rw' N x).length := by
      conv => rhs; rw [hd]
      exact b2
    exact endCd_inj b3 j hj
  have tin : ∀ x ∈ wk N v, toW N v w x ∈ wk N w := fun x hx => gi_in (by rw [← hl]; exact List.idxOf_lt_length_of_mem hx)
  refine ⟨fun x hx => (key x hx).1.symm, fun x hx j hj => ?_, fun x hx j hj => ((key x hx).2 j hj).2.symm, ov.closed, fun x hx y hy e => ?_⟩
  · have k1 := ((key x hx).2 j hj).1
    have hd : (rw' N x).length = (rw' N (toW N v w x)).length := by
      have := (List.cons.inj (key x hx).1).1; omega
    have hm := ow.closed _ (tin x hx) j (by omega)
    unfold ixI at k1
    show gn (rw' N (toW N v w x)) j = gi (wk N w) ((wk N v).idxOf (gn (rw' N x) j))
    rw [show (wk N v).idxOf (gn (rw' N x) j) = (wk N w).idxOf (gn (rw' N (toW N v w x)) j) by omega, gi_idx hm]
  · have hx1 := List.idxOf_lt_length_of_mem hx
    have hy1 := List.idxOf_lt_length_of_mem hy
    have e1 : (wk N w).idxOf (toW N v w x) = (wk N w).idxOf (toW N v w y) := by rw [e]
    unfold toW at e1
    rw [idx_gi ow.nodup (by rw [← hl]; exact hx1), idx_gi ow.nodup (by rw [← hl]; exact hy1)] at e1
    rw [← gi_idx hx, ← gi_idx hy, e1]
end Go.Proofs.Ytdoaopeegcakiaa
