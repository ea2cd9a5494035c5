/- Conflicts of outputs, as plain mathematics: the first one of a depth, and the least depth without one. -/
import Derived.Test.YtkpdbceglejbnaaVd
import Derived.Test.YtkpdbceglejbnaaKb
namespace Go.Proofs.Ytkpdbceglejbnaa

/-- Outputs of a network. -/
def OutsOK (N : Net) (l : List Int) : Prop := Good N ∧ l.length = N.ends.length ∧ AllIn l 0 99
/-- u and v are a conflict. -/
def CfAt (c l : List Int) (u v : Nat) : Prop := u < v ∧ v < c.length ∧ gi c u = gi c v ∧ gi l u ≠ gi l v
/-- The first conflict. -/
def CfFirst (c l : List Int) (p : Nat × Nat) : Prop := CfAt c l p.1 p.2 ∧ (∀ v, v < p.2 → ¬ CfAt c l p.1 v) ∧ ∀ u v, u < p.1 → ¬ CfAt c l u v
def HasCf (c l : List Int) : Prop := ∃ u v, CfAt c l u v
open Classical in
noncomputable def cfP (c l : List Int) : Nat × Nat := if h : ∃ p, CfFirst c l p then Classical.choose h else (0, 0)
theorem cf_uniq {c l : List Int} {p q : Nat × Nat} (h : CfFirst c l p) (k : CfFirst c l q) : p = q := by
  obtain ⟨p1, p2⟩ := p; obtain ⟨q1, q2⟩ := q
  obtain ⟨h1, h2, h3⟩ := h; obtain ⟨k1, k2, k3⟩ := k
  have e : p1 = q1 := by
    rcases Nat.lt_trichotomy p1 q1 with h | h | h
    · exact absurd h1 (k3 _ _ h)
    · exact h
    · exact absurd k1 (h3 _ _ h)
  subst e
  have e : p2 = q2 := by
    rcases Nat.lt_trichotomy p2 q2 with h | h | h
    · exact absurd h1 (k2 _ h)
    · exact h
    · exact absurd k1 (h2 _ h)
  subst e; rfl
noncomputable def cfU (c l : List Int) : Int := ((cfP c l).1 : Int)
noncomputable def cfV (c l : List Int) : Int := ((cfP c l).2 : Int)
theorem cfP_t {c l : List Int} {u v : Nat} (h : CfFirst c l (u, v)) : cfP c l = (u, v) := by
  have hx : ∃ p, CfFirst c l p := ⟨_, h⟩
  unfold cfP
  rw [dif_pos hx]
  exact cf_uniq (Classical.choose_spec hx) h
theorem cf_t {c l : List Int} {u v : Nat} (h : CfFirst c l (u, v)) : cfU c l = (u : Int) ∧ cfV c l = (v : Int) ∧ HasCf c l := by
  unfold cfU cfV; rw [cfP_t h]; exact ⟨rfl, rfl, u, v, h.1⟩
theorem cf_f {c l : List Int} (h : ∀ u v, ¬ CfAt c l u v) : cfU c l = 0 ∧ cfV c l = 0 ∧ ¬ HasCf c l := by
  have hx : ¬ ∃ p, CfFirst c l p := fun ⟨p, hp⟩ => h _ _ hp.1
  unfold cfU cfV cfP; rw [dif_neg hx]; exact ⟨rfl, rfl, fun ⟨u, v, k⟩ => h u v k⟩

/-- The bool of ConflictOf, and its nodes. -/
def CoB (N : Net) (t : Int) (l : List Int) : Prop := OutsOK N l ∧ InB t 0 80 ∧ HasCf (seqC N t.toNat) l
noncomputable def coU (N : Net) (t : Int) (l : List Int) : Int := if dec (CoB N t l) = true then cfU (seqC N t.toNat) l else 0
noncomputable def coV (N : Net) (t : Int) (l : List Int) : Int := if dec (CoB N t l) = true then cfV (seqC N t.toNat) l else 0
theorem co_f {N : Net} {t : Int} {l : List Int} (h : ¬ (OutsOK N l ∧ InB t 0 80)) : coU N t l = 0 ∧ coV N t l = 0 ∧ dec (CoB N t l) = false := by
  have hb : ¬ CoB N t l := fun k => h ⟨k.1, k.2.1⟩
  unfold coU coV; rw [dec_false hb]; exact ⟨rfl, rfl, rfl⟩
theorem co_t {N : Net} {t : Int} {l : List Int} (h : OutsOK N l ∧ InB t 0 80) : cfU (seqC N t.toNat) l = coU N t l ∧ cfV (seqC N t.toNat) l = coV N t l ∧ dec (HasCf (seqC N t.toNat) l) = dec (CoB N t l) := by
  by_cases hc : HasCf (seqC N t.toNat) l
  · have hb : CoB N t l := ⟨h.1, h.2, hc⟩
    unfold coU coV; rw [dec_true hb, dec_true hc]; exact ⟨rfl, rfl, rfl⟩
  · have hb : ¬ CoB N t l := fun k => hc k.2.2
    have hn := cf_f (c := seqC N t.toNat) (l := l) fun u v k => hc ⟨u, v, k⟩
    unfold coU coV; rw [dec_false hb, dec_false hc]; exact ⟨hn.1, hn.2.1, rfl⟩

/-- The least depth without a conflict. -/
def LdAt (N : Net) (l : List Int) (t : Nat) : Prop := t ≤ 80 ∧ ¬ HasCf (seqC N t) l ∧ ∀ s, s < t → HasCf (seqC N s) l
def LdB (N : Net) (l : List Int) : Prop := OutsOK N l ∧ ∃ t, LdAt N l t
open Classical in
noncomputable def ldAns (N : Net) (l : List Int) : Int := if h : LdB N l then ((Classical.choose h.2 : Nat) : Int) else 0
theorem ld_f {N : Net} {l : List Int} (h : ¬ LdB N l) : ldAns N l = 0 ∧ dec (LdB N l) = false := by
  unfold ldAns; rw [dif_neg h]; exact ⟨rfl, dec_false h⟩
theorem ld_t {N : Net} {l : List Int} {t : Nat} (h : OutsOK N l) (k : LdAt N l t) : ldAns N l = (t : Int) ∧ dec (LdB N l) = true := by
  have hb : LdB N l := ⟨h, t, k⟩
  refine ⟨?_, dec_true hb⟩
  unfold ldAns; rw [dif_pos hb]
  have hs := Classical.choose_spec hb.2
  have e : Classical.choose hb.2 = t := by
    rcases Nat.lt_trichotomy (Classical.choose hb.2) t with x | x | x
    · exact absurd (k.2.2 _ x) hs.2.1
    · exact x
    · exact absurd (hs.2.2 _ x) k.2.1
  rw [e]
theorem ld_none {N : Net} {l : List Int} (h : NodesIn N) (hn : 0 < N.ends.length) (k : ∀ s, s ≤ stOf N → HasCf (seqC N s) l) : ¬ LdB N l := by
  rintro ⟨_, t, _, h2, _⟩
  by_cases ht : t ≤ stOf N
  · exact h2 (k t ht)
  · rw [seq_late h hn (t := t) (by omega)] at h2
    exact h2 (k _ (Nat.le_refl _))
theorem ld_none80 {N : Net} {l : List Int} (k : ∀ s, s ≤ 80 → HasCf (seqC N s) l) : ¬ LdB N l := by
  rintro ⟨_, t, h1, h2, _⟩
  exact h2 (k t h1)
end Go.Proofs.Ytkpdbceglejbnaa
