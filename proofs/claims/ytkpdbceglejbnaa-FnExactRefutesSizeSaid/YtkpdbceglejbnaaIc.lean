/- Nodes with equal codes, orbits, nodes that are alone, and the first isomorphism, as plain mathematics. -/
import Derived.Test.YtkpdbceglejbnaaIa
namespace Go.Proofs.Ytkpdbceglejbnaa

/-- The nodes below k whose code is c. -/
def withCd (N : Net) (c : List Int) : Nat → List Int
  | 0 => []
  | k + 1 => if code N (k : Int) = c then withCd N c k ++ [(k : Int)] else withCd N c k
def withC (N : Net) (c : List Int) : List Int := withCd N c N.ends.length
theorem withCd_mem (N : Net) (c : List Int) : ∀ (k : Nat) (x : Int), x ∈ withCd N c k ↔ ∃ w : Nat, w < k ∧ x = (w : Int) ∧ code N (w : Int) = c
  | 0, x => by simp [withCd]
  | k + 1, x => by
    have ih := withCd_mem N c k x
    simp only [withCd]
    split
    · rename_i h
      rw [List.mem_append, ih, List.mem_singleton]
      constructor
      · rintro (⟨w, hw, e, hc⟩ | e)
        · exact ⟨w, by omega, e, hc⟩
        · exact ⟨k, by omega, e, h⟩
      · rintro ⟨w, hw, e, hc⟩
        by_cases hk : w = k
        · subst hk; exact .inr e
        · exact .inl ⟨w, by omega, e, hc⟩
    · rename_i h
      rw [ih]
      constructor
      · rintro ⟨w, hw, e, hc⟩; exact ⟨w, by omega, e, hc⟩
      · rintro ⟨w, hw, e, hc⟩
        by_cases hk : w = k
        · subst hk; exact absurd hc h
        · exact ⟨w, by omega, e, hc⟩
theorem withCd_nodup (N : Net) (c : List Int) : ∀ k, (withCd N c k).Nodup
  | 0 => by simp [withCd]
  | k + 1 => by
    simp only [withCd]; split
    · rw [List.nodup_append]
      refine ⟨withCd_nodup N c k, by simp, fun a ha b hb => ?_⟩
      obtain ⟨w, hw, rfl, _⟩ := (withCd_mem N c k a).1 ha
      obtain rfl := List.mem_singleton.1 hb
      omega
    · exact withCd_nodup N c k
theorem withCd_len (N : Net) (c : List Int) : ∀ k, (withCd N c k).length ≤ k
  | 0 => by simp [withCd]
  | k + 1 => by
    have := withCd_len N c k
    simp only [withCd]; split <;> simp <;> omega
theorem withCd_range (N : Net) (c : List Int) (k : Nat) : ∀ i, i < (withCd N c k).length → 0 ≤ gi (withCd N c k) i ∧ gi (withCd N c k) i < (k : Int) := fun i hi => by
  obtain ⟨w, hw, e, _⟩ := (withCd_mem N c k _).1 (gi_in hi)
  omega
theorem withCd_none {N : Net} {c : List Int} : ∀ k, (∀ u : Nat, u < k → code N (u : Int) ≠ c) → withCd N c k = []
  | 0, _ => rfl
  | k + 1, h => by
    simp only [withCd]; rw [if_neg (h k (by omega))]
    exact withCd_none k fun u hu => h u (by omega)
theorem withCd_first {N : Net} {c : List Int} {w : Nat} (hw : code N (w : Int) = c) (hb : ∀ u : Nat, u < w → code N (u : Int) ≠ c) : ∀ k, w < k → 0 < (withCd N c k).length ∧ gi (withCd N c k) 0 = (w : Int)
  | 0, h => by omega
  | k + 1, h => by
    by_cases e : w = k
    · subst e
      simp only [withCd]; rw [if_pos hw, withCd_none w hb]
      exact ⟨by simp, rfl⟩
    · obtain ⟨h1, h2⟩ := withCd_first hw hb k (by omega)
      simp only [withCd]; split
      · exact ⟨by simp, by rw [← h2]; exact (Begins.at ⟨_, rfl⟩ h1)⟩
      · exact ⟨h1, h2⟩
/-- The least node with the code of a node. -/
theorem least_ex (N : Net) (v : Nat) : ∃ w : Nat, w ≤ v ∧ code N (w : Int) = code N (v : Int) ∧ ∀ u : Nat, u < w → code N (u : Int) ≠ code N (v : Int) := by
  have : ∀ k, (∃ w : Nat, w < k ∧ code N (w : Int) = code N (v : Int) ∧ ∀ u : Nat, u < w → code N (u : Int) ≠ code N (v : Int)) ∨ ∀ u : Nat, u < k → code N (u : Int) ≠ code N (v : Int) := by
    intro k
    induction k with
    | zero => exact .inr fun u hu => by omega
    | succ k ih =>
      rcases ih with ⟨w, hw, h⟩ | h
      · exact .inl ⟨w, by omega, h⟩
      · by_cases e : code N (k : Int) = code N (v : Int)
        · exact .inl ⟨k, by omega, e, h⟩
        · exact .inr fun u hu => by
            by_cases e2 : u = k
            · subst e2; exact e
            · exact h u (by omega)
  rcases this (v + 1) with ⟨w, hw, h⟩ | h
  · exact ⟨w, by omega, h⟩
  · exact absurd rfl (h v (by omega))
def orb (N : Net) (v : Nat) : Int := gi (withC N (code N (v : Int))) 0
theorem orb_eq {N : Net} {v w : Nat} (hv : w < N.ends.length) (hw : code N (w : Int) = code N (v : Int)) (hb : ∀ u : Nat, u < w → code N (u : Int) ≠ code N (v : Int)) : orb N v = (w : Int) := (withCd_first hw hb _ hv).2
theorem orb_spec {N : Net} {v : Nat} (hv : v < N.ends.length) : ∃ w : Nat, w ≤ v ∧ orb N v = (w : Int) ∧ code N (w : Int) = code N (v : Int) ∧ 0 < (withC N (code N (v : Int))).length := by
  obtain ⟨w, h1, h2, h3⟩ := least_ex N v
  exact ⟨w, h1, orb_eq (by omega) h2 h3, h2, (withCd_first h2 h3 _ (by omega)).1⟩
def orbL (N : Net) : List Int := (List.range N.ends.length).map (orb N)
theorem orbL_len (N : Net) : (orbL N).length = N.ends.length := by simp [orbL]
theorem gi_orbL {N : Net} {v : Nat} (h : v < N.ends.length) : gi (orbL N) v = orb N v := by simp [orbL, gi, h]
/-- The node is alone in its orbit. -/
def Alone (N : Net) (v : Nat) : Prop := (withC N (code N (v : Int))).length = 1
theorem alone_iff {N : Net} {v : Nat} (hv : v < N.ends.length) : Alone N v ↔ orb N v = (v : Int) ∧ ∀ w : Nat, w < N.ends.length → w ≠ v → orb N w ≠ orb N v := by
  have hin : (v : Int) ∈ withC N (code N (v : Int)) := (withCd_mem _ _ _ _).2 ⟨v, hv, rfl, rfl⟩
  constructor
  · intro h
    obtain ⟨y, hy⟩ : ∃ y, withC N (code N (v : Int)) = [y] := by
      unfold Alone at h
      match hl : withC N (code N (v : Int)), h with
      | [y], _ => exact ⟨y, rfl⟩
    have hyv : (v : Int) = y := by rw [hy] at hin; simpa using hin
    have h0 : orb N v = (v : Int) := by unfold orb; rw [hy, hyv]; rfl
    refine ⟨h0, fun w hw hne e => ?_⟩
    obtain ⟨u, _, hu, hc, _⟩ := orb_spec hw
    rw [hu, h0] at e
    obtain rfl : u = v := by omega
    have : (w : Int) ∈ withC N (code N (u : Int)) := (withCd_mem _ _ _ _).2 ⟨w, hw, rfl, hc.symm⟩
    rw [hy] at this
    have := List.mem_singleton.1 this
    omega
  · rintro ⟨h0, h⟩
    have hall : ∀ x ∈ withC N (code N (v : Int)), x = (v : Int) := fun x hx => by
      obtain ⟨w, hw, rfl, hc⟩ := (withCd_mem _ _ _ _).1 hx
      by_cases e : w = v
      · rw [e]
      · exact absurd (by unfold orb; rw [hc]) (h w hw e)
    have hn := withCd_nodup N (code N (v : Int)) N.ends.length
    unfold Alone
    change (withC N (code N (v : Int))).Nodup at hn
    match hl : withC N (code N (v : Int)) with
    | [] => rw [hl] at hin; simp at hin
    | [y] => rfl
    | y :: z :: t =>
      rw [hl] at hn hall
      have h1 := hall y (by simp)
      have h2 := hall z (by simp)
      simp [h1, h2] at hn
def fixTo (N : Net) : Nat → List Int
  | 0 => []
  | k + 1 => if (withC N (code N (k : Int))).length = 1 then fixTo N k ++ [(k : Int)] else fixTo N k
theorem fixTo_len (N : Net) : ∀ k, (fixTo N k).length ≤ k
  | 0 => by simp [fixTo]
  | k + 1 => by
    have := fixTo_len N k
    simp only [fixTo]; split <;> simp <;> omega
theorem fixTo_mem (N : Net) : ∀ (k : Nat), ∀ x ∈ fixTo N k, 0 ≤ x ∧ x < (k : Int)
  | 0, x, h => by simp [fixTo] at h
  | k + 1, x, h => by
    simp only [fixTo] at h; split at h
    · rcases List.mem_append.1 h with h | h
      · have := fixTo_mem N k x h; omega
      · obtain rfl := List.mem_singleton.1 h; omega
    · have := fixTo_mem N k x h; omega

/-- The first index below k that is as asked. -/
def first (p : Nat → Bool) : Nat → Option Nat
  | 0 => none
  | k + 1 => match first p k with
    | some w => some w
    | none => if p k = true then some k else none
theorem first_none {p : Nat → Bool} : ∀ k, (∀ w, w < k → p w = false) → first p k = none
  | 0, _ => rfl
  | k + 1, h => by
    simp only [first]; rw [first_none k fun w hw => h w (by omega)]
    simp [h k (by omega)]
theorem first_some {p : Nat → Bool} {w : Nat} (hp : p w = true) (hb : ∀ u, u < w → p u = false) : ∀ k, w < k → first p k = some w
  | 0, h => by omega
  | k + 1, h => by
    by_cases e : w = k
    · subst e; simp only [first]; rw [first_none w hb]; simp [hp]
    · simp only [first]; rw [first_some hp hb k (by omega)]
theorem first_spec {p : Nat → Bool} {k w : Nat} (h : first p k = some w) : w < k ∧ p w = true ∧ ∀ u, u < w → p u = false := by
  induction k with
  | zero => simp [first] at h
  | succ k ih =>
    by_cases hn : ∀ u, u < k → p u = false
    · simp only [first] at h
      rw [first_none k hn] at h
      simp only [Option.ite_none_right_eq_some, Option.some.injEq] at h
      obtain ⟨h1, rfl⟩ := h
      exact ⟨by omega, h1, hn⟩
    · cases hf : first p k with
      | none =>
        exfalso; apply hn; clear ih h hn
        induction k with
        | zero => intro u hu; omega
        | succ k ih =>
          simp only [first] at hf
          cases hk : first p k with
          | some x => rw [hk] at hf; simp at hf
          | none =>
            rw [hk] at hf
            intro u hu
            by_cases e : u = k
            · subst e; simpa using hf
            · exact ih hk u (by omega)
      | some x =>
        simp only [first] at h
        rw [hf] at h
        obtain rfl := Option.some.inj h
        obtain ⟨a, b, c⟩ := ih hf
        exact ⟨by omega, b, c⟩

/-- The nodes of a walk get those of another one as their images. -/
def fill (f L K : List Int) : Nat → List Int
  | 0 => f
  | i + 1 => (fill f L K i).set (gi L i).toNat (gi K i)
theorem fill_len (f L K : List Int) : ∀ i, (fill f L K i).length = f.length
  | 0 => rfl
  | i + 1 => by simp [fill, fill_len f L K i]
theorem gi_set {l : List Int} {k i : Nat} {x : Int} (hk : k < l.length) : gi (l.set k x) i = if i = k then x else gi l i := by
  by_cases e : i = k
  · subst e; simp [gi, hk]
  · simp [gi, List.getD, e, Ne.symm e]
/-- An image, or none yet. -/
def ImgOK (f : List Int) (n : Nat) : Prop := f.length = n ∧ ∀ i, i < n → gi f i = -1 ∨ (0 ≤ gi f i ∧ gi f i < (n : Int))
theorem fill_ok {f L K : List Int} {n : Nat} (h : ImgOK f n) (hL : ∀ x ∈ L, 0 ≤ x ∧ x < (n : Int)) (hK : ∀ x ∈ K, 0 ≤ x ∧ x < (n : Int)) : ∀ i, i ≤ L.length → i ≤ K.length → ImgOK (fill f L K i) n
  | 0, _, _ => h
  | i + 1, h1, h2 => by
    obtain ⟨a, b⟩ := fill_ok h hL hK i (by omega) (by omega)
    have hl := hL _ (gi_in (show i < L.length by omega))
    refine ⟨by rw [fill_len]; exact h.1, fun j hj => ?_⟩
    have e : gi (fill f L K (i + 1)) j = if j = (gi L i).toNat then gi K i else gi (fill f L K i) j := gi_set (by omega)
    rw [e]
    split
    · exact .inr (hK _ (gi_in (by omega)))
    · exact b j hj
theorem fill_first {f L K : List Int} {n : Nat} (h : f.length = n) (hn : L.Nodup) (hL : ∀ x ∈ L, 0 ≤ x ∧ x < (n : Int)) : ∀ i, 0 < i → i ≤ L.length → gi (fill f L K i) (gi L 0).toNat = gi K 0
  | 0, h0, _ => by omega
  | i + 1, _, hi => by
    have hl := hL _ (gi_in (show i < L.length by omega))
    have h0 := hL _ (gi_in (show 0 < L.length by omega))
    show gi ((fill f L K i).set _ _) _ = _
    rw [gi_set (by rw [fill_len]; omega)]
    split
    · rename_i e
      have : gi L 0 = gi L i := by omega
      have := congrArg L.idxOf this
      rw [idx_gi hn (by omega), idx_gi hn (by omega)] at this
      rw [← this]
    · rename_i e
      have hi0 : 0 < i := by
        rcases Nat.eq_zero_or_pos i with e0 | e0
        · subst e0; exact absurd rfl e
        · exact e0
      exact fill_first h hn hL i hi0 (by omega)

/-- A node of the other network that may be the image. -/
def mayBe (N M : Net) (f : List Int) (v w : Nat) : Bool := decide (code N (v : Int) = code M (w : Int)) && !decide ((w : Int) ∈ f)
theorem mayBe_iff {N M : Net} {f : List Int} {v w : Nat} : mayBe N M f v w = true ↔ code N (v : Int) = code M (w : Int) ∧ (w : Int) ∉ f := by simp [mayBe]
/-- The images once a node has been looked at. -/
def isoStep (N M : Net) (f : List Int) (v : Nat) : Option (List Int) :=
  if gi f v = -1 then
    match first (mayBe N M f v) M.ends.length with
    | none => none
    | some w => some (fill f (wk N (v : Int)) (wk M (w : Int)) (wk N (v : Int)).length)
  else some f
/-- The images once the first k nodes have been looked at. -/
def isoTo (N M : Net) : Nat → Option (List Int)
  | 0 => some (List.replicate N.ends.length (-1))
  | k + 1 => match isoTo N M k with
    | none => none
    | some f => isoStep N M f k
theorem isoTo_none {N M : Net} {k : Nat} (h : isoTo N M k = none) : ∀ m, k ≤ m → isoTo N M m = none
  | 0, hm => by obtain rfl : k = 0 := by omega
                exact h
  | m + 1, hm => by
    by_cases e : k = m + 1
    · subst e; exact h
    · simp only [isoTo]; rw [isoTo_none h m (by omega)]
theorem isoTo_ok {N M : Net} (hN : Leads' N) (hM : Leads' M) (hl : N.ends.length = M.ends.length) : ∀ (k : Nat), k ≤ N.ends.length → ∀ f, isoTo N M k = some f → ImgOK f N.ends.length
  | 0, _, f, h => by
    obtain rfl := Option.some.inj h
    exact ⟨by simp, fun i hi => .inl (by simp [gi, hi])⟩
  | k + 1, hk, f, h => by
    simp only [isoTo] at h
    cases hg : isoTo N M k with
    | none => rw [hg] at h; simp at h
    | some g =>
      rw [hg] at h
      have hok := isoTo_ok hN hM hl k (by omega) g hg
      simp only [isoStep] at h
      split at h
      · cases hf : first (mayBe N M g k) M.ends.length with
        | none => rw [hf] at h; simp at h
        | some w =>
          rw [hf] at h
          obtain rfl := Option.some.inj h
          obtain ⟨hw, hp, _⟩ := first_spec hf
          have hc := (mayBe_iff.1 hp).1
          have o1 := wk_ok hN (v := (k : Int)) (by omega)
          have o2 := wk_ok hM (v := (w : Int)) (by omega)
          have := cd_len hc
          exact fill_ok hok o1.range (by rw [hl]; exact o2.range) _ (Nat.le_refl _) (by omega)
      · obtain rfl := Option.some.inj h; exact hok
/-- There is an isomorphism, and the first one. -/
def isoL (N M : Net) : List Int := (isoTo N M N.ends.length).getD []
end Go.Proofs.Ytkpdbceglejbnaa
