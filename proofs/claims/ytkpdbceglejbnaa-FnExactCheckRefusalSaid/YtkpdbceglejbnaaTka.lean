/- Tasks and refusals, as plain mathematics. -/
import Derived.Test.YtkpdbceglejbnaaVd
import Derived.Test.YtkpdbceglejbnaaKb
namespace Go.Proofs.Ytkpdbceglejbnaa

/-- The lexicographically first two nodes with a property. -/
def FstP (P : Nat → Nat → Prop) (p : Nat × Nat) : Prop := P p.1 p.2 ∧ (∀ v, v < p.2 → ¬ P p.1 v) ∧ ∀ u v, u < p.1 → ¬ P u v
def HasP (P : Nat → Nat → Prop) : Prop := ∃ u v, P u v
open Classical in
noncomputable def fpP (P : Nat → Nat → Prop) : Nat × Nat := if h : ∃ p, FstP P p then Classical.choose h else (0, 0)
noncomputable def fpU (P : Nat → Nat → Prop) : Int := ((fpP P).1 : Int)
noncomputable def fpV (P : Nat → Nat → Prop) : Int := ((fpP P).2 : Int)
theorem fst_uniq {P : Nat → Nat → Prop} {p q : Nat × Nat} (h : FstP P p) (k : FstP P q) : p = q := by
  obtain ⟨p1, p2⟩ := p; obtain ⟨q1, q2⟩ := q
  obtain ⟨h1, h2, h3⟩ := h; obtain ⟨k1, k2, k3⟩ := k
  have e : p1 = q1 := by
    rcases Nat.lt_trichotomy p1 q1 with h | h | h
    · exact absurd h1 (k3 _ _ h)
    · exact h
    · exact absurd k1 (h3 _ _ h)
  subst e
  have e : p2 = q2 := by
    rcases Nat.lt_trichotomy p2 q2 with h | h | h
    · exact absurd h1 (k2 _ h)
    · exact h
    · exact absurd k1 (h2 _ h)
  subst e; rfl
theorem fp_t {P : Nat → Nat → Prop} {u v : Nat} (h : FstP P (u, v)) : fpU P = (u : Int) ∧ fpV P = (v : Int) ∧ HasP P := by
  have hx : ∃ p, FstP P p := ⟨_, h⟩
  have e : fpP P = (u, v) := by unfold fpP; rw [dif_pos hx]; exact fst_uniq (Classical.choose_spec hx) h
  unfold fpU fpV; rw [e]; exact ⟨rfl, rfl, u, v, h.1⟩
theorem fp_f {P : Nat → Nat → Prop} (h : ∀ u v, ¬ P u v) : fpU P = 0 ∧ fpV P = 0 ∧ ¬ HasP P := by
  have hx : ¬ ∃ p, FstP P p := fun ⟨p, hp⟩ => h _ _ hp.1
  unfold fpU fpV fpP; rw [dif_neg hx]; exact ⟨rfl, rfl, fun ⟨u, v, k⟩ => h u v k⟩

/-- Node v is alone in its class; the first such one. -/
def Alone (c : List Int) (v : Nat) : Prop := v < c.length ∧ ∀ u, u < c.length → gi c u = gi c v → u = v
def FstA (c : List Int) (v : Nat) : Prop := Alone c v ∧ ∀ u, u < v → ¬ Alone c u
def HasA (c : List Int) : Prop := ∃ v, Alone c v
open Classical in
noncomputable def alV (c : List Int) : Int := if h : ∃ v, FstA c v then ((Classical.choose h : Nat) : Int) else -1
theorem al_t {c : List Int} {v : Nat} (h : FstA c v) : alV c = (v : Int) ∧ HasA c := by
  have hx : ∃ v, FstA c v := ⟨_, h⟩
  refine ⟨?_, v, h.1⟩
  unfold alV; rw [dif_pos hx]
  have hs := Classical.choose_spec hx
  have e : Classical.choose hx = v := by
    rcases Nat.lt_trichotomy (Classical.choose hx) v with x | x | x
    · exact absurd hs.1 (h.2 _ x)
    · exact x
    · exact absurd h.1 (hs.2 _ x)
  rw [e]
theorem al_f {c : List Int} (h : ∀ v, v < c.length → ¬ Alone c v) : alV c = -1 ∧ ¬ HasA c := by
  have hn : ∀ v, ¬ Alone c v := fun v k => h v k.1 k
  have hx : ¬ ∃ v, FstA c v := fun ⟨v, hv⟩ => hn v hv.1
  unfold alV; rw [dif_neg hx]; exact ⟨rfl, fun ⟨v, k⟩ => hn v k⟩
theorem al_cases (c : List Int) : (∃ v, FstA c v) ∨ ∀ v, v < c.length → ¬ Alone c v := by
  by_cases h : ∃ v, FstA c v
  · exact .inl h
  · refine .inr fun v hv k => ?_
    have : ∀ n v, v < n → ¬ Alone c v := by
      intro n
      induction n with
      | zero => intro v hv; omega
      | succ n ih =>
        intro v hv k
        by_cases e : v = n
        · subst e; exact h ⟨v, k, ih⟩
        · exact ih v (by omega) k
    exact this (v + 1) v (by omega) k
theorem al_range (c : List Int) : -1 ≤ alV c ∧ (alV c < c.length) ∧ (0 ≤ alV c ↔ HasA c) := by
  rcases al_cases c with ⟨v, h⟩ | h
  · obtain ⟨e, k⟩ := al_t h
    have := h.1.1
    exact ⟨by omega, by omega, fun _ => k, fun _ => by omega⟩
  · obtain ⟨e, k⟩ := al_f h
    exact ⟨by omega, by omega, fun x => by omega, fun x => absurd x k⟩

/-- The outputs that make the first node that is alone the leader. -/
noncomputable def ldr (c : List Int) : List Int := (List.range c.length).map fun (v : Nat) => if (v : Int) = alV c then 1 else 0
theorem ldr_len (c : List Int) : (ldr c).length = c.length := by simp [ldr]
theorem ldr_at {c : List Int} {v : Nat} (h : v < c.length) : gi (ldr c) v = if (v : Int) = alV c then 1 else 0 := by
  simp [gi, ldr, h]
/-- The outputs of a task by classes. -/
noncomputable def meetL (t : Int) (c : List Int) : List Int := if t = 1 then ldr c else c
theorem meetL_len (t : Int) (c : List Int) : (meetL t c).length = c.length := by unfold meetL; split; exact ldr_len c; rfl

/-- One leader, all others none. -/
def LeadOK (l : List Int) : Prop := ∃ v, v < l.length ∧ gi l v = 1 ∧ ∀ u, u < l.length → u ≠ v → gi l u = 0
theorem lead_ldr (c : List Int) : LeadOK (ldr c) ↔ HasA c := by
  constructor
  · rintro ⟨v, hv, h, -⟩
    rw [ldr_len] at hv
    rw [ldr_at hv] at h
    by_cases e : (v : Int) = alV c
    · exact (al_range c).2.2.1 (by omega)
    · rw [if_neg e] at h; omega
  · intro h
    have hr := (al_range c).2.2.2 h
    obtain ⟨v, hv⟩ := Int.eq_ofNat_of_zero_le hr
    have hl := (al_range c).2.1
    refine ⟨v, by rw [ldr_len]; omega, by rw [ldr_at (by omega), if_pos (by omega)], fun u hu huv => ?_⟩
    rw [ldr_len] at hu
    rw [ldr_at hu, if_neg (by omega)]

/-- A port of u leads to v. -/
def NrT (N : Net) (u v : Nat) : Prop := ∃ i, i < (gr N.ends u).length ∧ gn (gr N.ends u) i = (v : Int)
/-- Two nodes that refuse a task, with classes (or outputs) c. -/
def Rf (N : Net) (t : Int) (c : List Int) (u v : Nat) : Prop :=
  u < c.length ∧ v < c.length ∧ ((t = 1 ∧ u = 0 ∧ v = 0 ∧ ¬ HasA c) ∨ (t = 2 ∧ u ≤ v ∧ gi c u = gi c v ∧ NrT N u v) ∨ (t = 3 ∧ u < v ∧ gi c u = gi c v))
/-- Outputs meet a task. -/
def Meets (N : Net) (t : Int) (l : List Int) : Prop := if t = 1 then LeadOK l else ¬ HasP (Rf N t l)
/-- A task can be met with one output for each class. -/
def Can (N : Net) (t : Int) (c : List Int) : Prop := ¬ HasP (Rf N t c)
theorem can_1 {N : Net} {c : List Int} (h : 0 < c.length) : Can N 1 c ↔ HasA c := by
  unfold Can
  constructor
  · intro k
    by_cases e : HasA c
    · exact e
    · exact absurd ⟨0, 0, h, h, .inl ⟨rfl, rfl, rfl, e⟩⟩ k
  · rintro k ⟨u, v, -, -, ⟨-, -, -, x⟩ | ⟨x, -⟩ | ⟨x, -⟩⟩
    · exact x k
    · omega
    · omega
theorem meets_can {N : Net} {t : Int} {c : List Int} (h : 0 < c.length) : Meets N t (meetL t c) ↔ Can N t c := by
  unfold Meets meetL
  by_cases e : t = 1
  · subst e; rw [if_pos rfl, if_pos rfl, lead_ldr, can_1 h]
  · rw [if_neg e, if_neg e]; rfl
theorem rf_1 {N : Net} {c : List Int} (h : 0 < c.length) (k : ¬ HasA c) : FstP (Rf N 1 c) (0, 0) :=
  ⟨⟨h, h, .inl ⟨rfl, rfl, rfl, k⟩⟩, fun v hv => absurd hv (by omega), fun u v hu => absurd hu (by omega)⟩

/-- A list of classes is consistent. -/
def ConsOK (N : Net) (c : List Int) : Prop := c.length = N.ends.length ∧ (∀ v, v < c.length → 0 ≤ gi c v) ∧ ∀ u v, u < c.length → v < u → gi c u = gi c v → likeS N c u v = true
theorem cons_first {N : Net} {c : List Int} (h : ∀ v, v < c.length → ∀ f, f < c.length → gi c f = gi c v → (∀ u, u < f → gi c u ≠ gi c v) → likeS N c v f = true) :
    ∀ u v, u < c.length → v < c.length → gi c u = gi c v → likeS N c u v = true := by
  have E := equS N c c.length
  have hf : ∀ n v, v ≤ n → v < c.length → ∃ f, f < c.length ∧ gi c f = gi c v ∧ (∀ u, u < f → gi c u ≠ gi c v) := by
    intro n
    induction n with
    | zero =>
      intro v hv hl
      obtain rfl : v = 0 := by omega
      exact ⟨0, hl, rfl, fun u hu => absurd hu (by omega)⟩
    | succ n ih =>
      intro v hv hl
      by_cases e : ∃ u, u < v ∧ gi c u = gi c v
      · obtain ⟨u, hu, he⟩ := e
        obtain ⟨f, h1, h2, h3⟩ := ih u (by omega) (by omega)
        exact ⟨f, h1, h2.trans he, fun x hx => he ▸ h3 x hx⟩
      · exact ⟨v, hl, rfl, fun u hu he => e ⟨u, hu, he⟩⟩
  intro u v hu hv he
  obtain ⟨f, h1, h2, h3⟩ := hf v v (Nat.le_refl _) hv
  have a := h v hv f h1 h2 h3
  have b := h u hu f h1 (h2.trans he.symm) (fun x hx => he.symm ▸ h3 x hx)
  exact E.trans u f v hu h1 hv b (E.symm v f hv h1 a)

/-- Numbers of nodes that are alone rise. -/
def RisA (c : List Int) : Prop := ∀ u v, Alone c u → Alone c v → u < v → gi c u < gi c v
theorem first_alone {same : Nat → Nat → Bool} {n v : Nat} (h : Equ same n) (k : Alone (num same n) v) : firstOf same v = v := by
  have hv : v < n := by have := k.1; rw [num_len] at this; exact this
  have hs := firstOf_spec same v
  by_cases e : firstOf same v < v
  · have := k.2 (firstOf same v) (by rw [num_len]; omega) ((cl_same h (by omega) hv).2 (hs.2.2 e))
    exact this
  · omega
theorem ris_num {same : Nat → Nat → Bool} {n : Nat} (h : Equ same n) : RisA (num same n) := by
  intro u v hu hv huv
  have lu : u < n := by have := hu.1; rw [num_len] at this; exact this
  have lv : v < n := by have := hv.1; rw [num_len] at this; exact this
  have fu := first_alone h hu
  have fv := first_alone h hv
  rw [cl_at h lu, cl_at h lv, fu, fv]
  have e := (num_succ_rep fu).2
  have m := cnt_mono (same := same) (m := u + 1) (n := v) (by omega)
  omega
theorem ris_seq (N : Net) (t : Nat) : RisA (seqC N t) := by rw [seqC_num]; exact ris_num (equR N t _)
theorem pos_seq (N : Net) (t : Nat) {v : Nat} (h : v < (seqC N t).length) : 0 ≤ gi (seqC N t) v := by
  rw [seqC_num] at h ⊢
  rw [num_len] at h
  exact (cl_range (equR N t _) h).1

/-- The model's least number that occurs once, among the first k. -/
noncomputable def oncT (c : List Int) : Nat → Int
  | 0 => -1
  | k + 1 => if dec (Alone c k) = true ∧ (oncT c k < 0 ∨ gi c k < oncT c k) then gi c k else oncT c k
theorem oncT_none {c : List Int} : ∀ k, (∀ v, v < k → ¬ Alone c v) → oncT c k = -1
  | 0, _ => rfl
  | k + 1, h => by
    simp only [oncT]
    rw [if_neg (by rw [dec_false (h k (by omega))]; simp)]
    exact oncT_none k fun v hv => h v (by omega)
theorem oncT_ris {c : List Int} (hp : ∀ v, v < c.length → 0 ≤ gi c v) (hr : RisA c) {v : Nat} (h : FstA c v) : ∀ k, v < k → k ≤ c.length → oncT c k = gi c v
  | 0, hk, _ => by omega
  | k + 1, hk, hl => by
    simp only [oncT]
    by_cases e : v = k
    · subst e
      rw [oncT_none v h.2, if_pos ⟨dec_true h.1, .inl (by omega)⟩]
    · rw [oncT_ris hp hr h k (by omega) (by omega)]
      refine if_neg ?_
      rintro ⟨a, b⟩
      have a : Alone c k := by
        by_cases x : Alone c k
        · exact x
        · rw [dec_false x] at a; simp at a
      have := hr v k h.1 a (by omega)
      have := hp v h.1.1
      omega
theorem oncT_sign {c : List Int} (hp : ∀ v, v < c.length → 0 ≤ gi c v) : ∀ k, k ≤ c.length → (0 ≤ oncT c k ↔ ∃ v, v < k ∧ Alone c v)
  | 0, _ => by simp [oncT]
  | k + 1, hl => by
    have ih := oncT_sign hp k (by omega)
    simp only [oncT]
    have := hp k (by omega)
    by_cases a : Alone c k
    · refine ⟨fun _ => ⟨k, by omega, a⟩, fun _ => ?_⟩
      rw [dec_true a]
      split
      · exact this
      · rename_i h; simp at h; exact h.1
    · rw [if_neg (by rw [dec_false a]; simp), ih]
      refine ⟨fun ⟨v, hv, h⟩ => ⟨v, by omega, h⟩, fun ⟨v, hv, h⟩ => ⟨v, ?_, h⟩⟩
      by_cases e : v = k
      · subst e; exact absurd h a
      · omega
theorem oncT_has {c : List Int} (hp : ∀ v, v < c.length → 0 ≤ gi c v) : 0 ≤ oncT c c.length ↔ HasA c := by
  rw [oncT_sign hp _ (Nat.le_refl _)]
  exact ⟨fun ⟨v, _, h⟩ => ⟨v, h⟩, fun ⟨v, h⟩ => ⟨v, h.1, h⟩⟩
theorem once_is {c : List Int} (hp : ∀ v, v < c.length → 0 ≤ gi c v) (hr : RisA c) (h : HasA c) {v : Nat} (hv : v < c.length) : (gi c v = oncT c c.length ↔ (v : Int) = alV c) := by
  rcases al_cases c with ⟨f, hf⟩ | hn
  · rw [oncT_ris hp hr hf _ hf.1.1 (Nat.le_refl _), (al_t hf).1]
    exact ⟨fun e => by have := hf.1.2 v hv e; omega, fun e => by obtain rfl : v = f := by omega
                                                                 rfl⟩
  · obtain ⟨x, hx⟩ := h
    exact absurd hx (hn x hx.1)
end Go.Proofs.Ytkpdbceglejbnaa
