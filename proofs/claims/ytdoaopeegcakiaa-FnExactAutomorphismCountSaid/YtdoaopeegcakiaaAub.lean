/- How many nodes of a component have a code: equally many for all codes that occur in it, and in all components with equal codes. -/
import Derived.Test.YtdoaopeegcakiaaAua
namespace Go.Proofs.Ytdoaopeegcakiaa

theorem sub_len : ∀ (l m : List Nat), l.Nodup → (∀ x ∈ l, x ∈ m) → l.length ≤ m.length
  | [], _, _, _ => Nat.zero_le _
  | a :: l, m, hn, hs => by
    have hn' := List.nodup_cons.1 hn
    have ha : a ∈ m := hs a (by simp)
    have ih := sub_len l (m.erase a) hn'.2 fun x hx => by
      have : x ≠ a := fun e => hn'.1 (e ▸ hx)
      exact (List.mem_erase_of_ne this).2 (hs x (by simp [hx]))
    rw [List.length_erase_of_mem ha] at ih
    have : 0 < m.length := List.length_pos_of_mem ha
    simp; omega
theorem map_nodup {f : Nat → Nat} : ∀ (l : List Nat), l.Nodup → (∀ x ∈ l, ∀ y ∈ l, f x = f y → x = y) → (l.map f).Nodup
  | [], _, _ => by simp
  | a :: l, hn, hi => by
    have hn' := List.nodup_cons.1 hn
    rw [List.map_cons, List.nodup_cons]
    refine ⟨fun h => ?_, map_nodup l hn'.2 fun x hx y hy => hi x (by simp [hx]) y (by simp [hy])⟩
    obtain ⟨y, hy, e⟩ := List.mem_map.1 h
    have := hi y (by simp [hy]) a (by simp) e
    exact hn'.1 (this ▸ hy)
/-- How many of the first n numbers. -/
def cntB (n : Nat) (p : Nat → Bool) : Nat := ((List.range n).filter p).length
theorem cntB_le {n : Nat} {p q : Nat → Bool} (f : Nat → Nat) (h : ∀ x, x < n → p x = true → f x < n ∧ q (f x) = true) (hi : ∀ x y, x < n → y < n → p x = true → p y = true → f x = f y → x = y) : cntB n p ≤ cntB n q := by
  unfold cntB
  have e : (((List.range n).filter p).map f).length = ((List.range n).filter p).length := List.length_map f
  rw [← e]
  refine sub_len _ _ (map_nodup _ (List.nodup_range.filter _) fun x hx y hy => ?_) fun x hx => ?_
  · have a := List.mem_filter.1 hx; have b := List.mem_filter.1 hy
    exact hi x y (List.mem_range.1 a.1) (List.mem_range.1 b.1) a.2 b.2
  · obtain ⟨y, hy, rfl⟩ := List.mem_map.1 hx
    have a := List.mem_filter.1 hy
    have := h y (List.mem_range.1 a.1) a.2
    exact List.mem_filter.2 ⟨List.mem_range.2 this.1, this.2⟩
theorem cntB_congr {n : Nat} {p q : Nat → Bool} (h : ∀ x, x < n → p x = q x) : cntB n p = cntB n q := by
  unfold cntB
  rw [List.filter_congr fun x hx => h x (List.mem_range.1 hx)]

/-- A node of the network. -/
def InN (N : Net) (x : Int) : Prop := 0 ≤ x ∧ x < (N.ends.length : Int)
/-- How many nodes of a node's component have the code c. -/
def KN (N : Net) (v : Int) (c : List Int) : Nat := cntB N.ends.length fun x => decide ((x : Int) ∈ wk N v ∧ code N (x : Int) = c)
theorem wk_same {N : Net} (hN : Leads' N) (hM : Mutual N) {v u : Int} (hv : InN N v) (h : u ∈ wk N v) : ∀ x, x ∈ wk N u ↔ x ∈ wk N v := by
  have ru := (wk_ok hN hv).range u h
  exact fun x => ⟨wk_sub hN hv h x, wk_sub hN ru (wk_symm hN hM hv h) x⟩
theorem KN_same {N : Net} (hN : Leads' N) (hM : Mutual N) {v u : Int} (hv : InN N v) (h : u ∈ wk N v) (c : List Int) : KN N u c = KN N v c := by
  unfold KN
  exact cntB_congr fun x _ => by rw [decide_eq_decide]; rw [wk_same hN hM hv h]
theorem nat_of {N : Net} {x : Int} (h : InN N x) : ((x.toNat : Nat) : Int) = x ∧ x.toNat < N.ends.length := by unfold InN at h; omega
/-- Isomorphic components. -/
theorem KN_iso_le {N : Net} (hN : Leads' N) {v w : Int} (hv : InN N v) (hw : InN N w) (h : code N v = code N w) (c : List Int) : KN N v c ≤ KN N w c := by
  have iso := toW_iso hN hv hw h
  have ow := wk_ok hN hw
  have ov := wk_ok hN hv
  have hl : (wk N v).length = (wk N w).length := cd_len h
  have tin : ∀ x ∈ wk N v, toW N v w x ∈ wk N w := fun x hx => gi_in (by rw [← hl]; exact List.idxOf_lt_length_of_mem hx)
  refine cntB_le (fun x => (toW N v w x).toNat) (fun x hx hp => ?_) fun x y hx hy hp hq e => ?_
  · obtain ⟨a, b⟩ := of_decide_eq_true hp
    have r := nat_of (ow.range _ (tin _ a))
    refine ⟨r.2, decide_eq_true ?_⟩
    rw [r.1]
    exact ⟨tin _ a, (isoOn_code iso a).trans b⟩
  · obtain ⟨a, _⟩ := of_decide_eq_true hp
    obtain ⟨b, _⟩ := of_decide_eq_true hq
    have r1 := nat_of (ow.range _ (tin _ a))
    have r2 := nat_of (ow.range _ (tin _ b))
    have : toW N v w (x : Int) = toW N v w (y : Int) := by rw [← r1.1, ← r2.1]; exact congrArg _ e
    have := iso.inj _ a _ b this
    omega
theorem KN_iso {N : Net} (hN : Leads' N) {v w : Int} (hv : InN N v) (hw : InN N w) (h : code N v = code N w) (c : List Int) : KN N v c = KN N w c :=
  Nat.le_antisymm (KN_iso_le hN hv hw h c) (KN_iso_le hN hw hv h.symm c)
/-- One component: as many nodes have the one code as the other. -/
theorem KN_le {N : Net} (hN : Leads' N) (hM : Mutual N) {v u : Int} (hv : InN N v) (hu : u ∈ wk N v) : KN N v (code N v) ≤ KN N v (code N u) := by
  have ov := wk_ok hN hv
  have hi := List.idxOf_lt_length_of_mem hu
  have ru := ov.range u hu
  have vu := wk_symm hN hM hv hu
  have facts : ∀ w : Int, w ∈ wk N v → code N w = code N v → toW N v w u ∈ wk N v ∧ code N (toW N v w u) = code N u ∧ gi (wk N (toW N v w u)) ((wk N u).idxOf v) = w := fun w hw hc => by
    have rw' := ov.range w hw
    have iso := toW_iso hN hv rw' hc.symm
    have hl : (wk N v).length = (wk N w).length := cd_len hc.symm
    refine ⟨wk_sub hN hv hw _ (gi_in (by rw [← hl]; exact hi)), isoOn_code iso hu, ?_⟩
    rw [isoOn_wk iso hu]
    have hj := List.idxOf_lt_length_of_mem vu
    have e : gi ((wk N u).map (toW N v w)) ((wk N u).idxOf v) = toW N v w (gi (wk N u) ((wk N u).idxOf v)) := by simp [gi, List.getD, hj]
    rw [e, gi_idx vu]
    unfold toW
    have e0 : (wk N v).idxOf v = 0 := by
      have h0 := wkTo_first N v N.ends.length
      have hp := wkTo_pos N v N.ends.length
      have := idx_gi ov.nodup (i := 0) hp
      rw [show gi (wk N v) 0 = v from h0] at this; exact this
    rw [e0]
    exact wkTo_first N w N.ends.length
  refine cntB_le (fun x => (toW N v x u).toNat) (fun x hx hp => ?_) fun x y hx hy hp hq e => ?_
  · obtain ⟨a, b⟩ := of_decide_eq_true hp
    obtain ⟨f1, f2, _⟩ := facts _ a b
    have r := nat_of (ov.range _ f1)
    refine ⟨r.2, decide_eq_true ?_⟩
    rw [r.1]; exact ⟨f1, f2⟩
  · obtain ⟨a, b⟩ := of_decide_eq_true hp
    obtain ⟨a', b'⟩ := of_decide_eq_true hq
    obtain ⟨f1, _, f3⟩ := facts _ a b
    obtain ⟨g1, _, g3⟩ := facts _ a' b'
    have r1 := nat_of (ov.range _ f1)
    have r2 := nat_of (ov.range _ g1)
    have : toW N v (x : Int) u = toW N v (y : Int) u := by rw [← r1.1, ← r2.1]; exact congrArg _ e
    rw [this, g3] at f3
    omega
theorem KN_orbit {N : Net} (hN : Leads' N) (hM : Mutual N) {v u : Int} (hv : InN N v) (hu : u ∈ wk N v) : KN N v (code N u) = KN N v (code N v) := by
  have ru : InN N u := (wk_ok hN hv).range u hu
  have h1 := KN_le hN hM hv hu
  have h2 := KN_le hN hM ru (wk_symm hN hM hv hu)
  rw [KN_same hN hM hv hu, KN_same hN hM hv hu] at h2
  omega
/-- A component without the code. -/
theorem KN_zero {N : Net} {v : Int} {c : List Int} (h : ∀ x, x ∈ wk N v → code N x ≠ c) : KN N v c = 0 := by
  unfold KN cntB
  rw [List.length_eq_zero_iff, List.filter_eq_nil_iff]
  intro x _ hp
  obtain ⟨a, b⟩ := of_decide_eq_true hp
  exact h _ a b
end Go.Proofs.Ytdoaopeegcakiaa
