/- Classes of views of a network, as plain mathematics: the classes of each depth, the least depth from which on they stay, and the first depth at which two nodes are apart. -/
import Derived.Test.YtkpdbceglejbnaaVc
namespace Go.Proofs.Ytkpdbceglejbnaa

/-- How many nodes. -/
def Net.n (N : Net) : Nat := N.ends.length

/-- All ports lead to nodes; one input a node. -/
structure NodesIn (N : Net) : Prop where
  len : N.inputs.length = N.ends.length
  node : ∀ v, v < N.ends.length → ∀ i, i < (gr N.ends v).length → 0 ≤ gn (gr N.ends v) i ∧ gn (gr N.ends v) i < (N.ends.length : Int)

/-- Equal degrees and inputs. -/
def Like0 (N : Net) (u v : Nat) : Prop := (gr N.ends u).length = (gr N.ends v).length ∧ gi N.inputs u = gi N.inputs v
/-- Equal numbers of ports and classes behind them. -/
def LikeE (N : Net) (c : List Int) (u v : Nat) : Prop :=
  ∀ i, i < (gr N.ends u).length → gp (gr N.ends u) i = gp (gr N.ends v) i ∧ gi c (gn (gr N.ends u) i).toNat = gi c (gn (gr N.ends v) i).toNat
open Classical in
noncomputable def like0 (N : Net) (u v : Nat) : Bool := decide (Like0 N u v)
open Classical in
noncomputable def likeS (N : Net) (c : List Int) (u v : Nat) : Bool := decide (Like0 N u v ∧ LikeE N c u v)
theorem like0_iff {N : Net} {u v : Nat} : like0 N u v = true ↔ Like0 N u v := by simp [like0]
theorem likeS_iff {N : Net} {c : List Int} {u v : Nat} : likeS N c u v = true ↔ Like0 N u v ∧ LikeE N c u v := by simp [likeS]

/-- Classes of the views of depth t. -/
noncomputable def seqC (N : Net) : Nat → List Int
  | 0 => num (like0 N) N.ends.length
  | t + 1 => num (likeS N (seqC N t)) N.ends.length
/-- The relation behind them. -/
noncomputable def seqR (N : Net) : Nat → Nat → Nat → Bool
  | 0 => like0 N
  | t + 1 => likeS N (seqC N t)
theorem seqC_num (N : Net) (t : Nat) : seqC N t = num (seqR N t) N.ends.length := by cases t <;> rfl
theorem seqC_len (N : Net) (t : Nat) : (seqC N t).length = N.ends.length := by rw [seqC_num, num_len]

theorem equ0 (N : Net) (n : Nat) : Equ (like0 N) n := by
  refine ⟨fun v _ => like0_iff.2 ⟨rfl, rfl⟩, fun u v _ _ h => ?_, fun u v x _ _ _ h k => ?_⟩
  · have := like0_iff.1 h; exact like0_iff.2 ⟨this.1.symm, this.2.symm⟩
  · have h := like0_iff.1 h; have k := like0_iff.1 k; exact like0_iff.2 ⟨h.1.trans k.1, h.2.trans k.2⟩
theorem equS (N : Net) (c : List Int) (n : Nat) : Equ (likeS N c) n := by
  refine ⟨fun v _ => likeS_iff.2 ⟨⟨rfl, rfl⟩, fun i _ => ⟨rfl, rfl⟩⟩, fun u v _ _ h => ?_, fun u v x _ _ _ h k => ?_⟩
  · obtain ⟨⟨h1, h2⟩, h3⟩ := likeS_iff.1 h
    exact likeS_iff.2 ⟨⟨h1.symm, h2.symm⟩, fun i hi => let ⟨a, b⟩ := h3 i (by omega); ⟨a.symm, b.symm⟩⟩
  · obtain ⟨⟨h1, h2⟩, h3⟩ := likeS_iff.1 h
    obtain ⟨⟨k1, k2⟩, k3⟩ := likeS_iff.1 k
    exact likeS_iff.2 ⟨⟨h1.trans k1, h2.trans k2⟩, fun i hi => let ⟨a, b⟩ := h3 i hi; let ⟨c, d⟩ := k3 i (by omega); ⟨a.trans c, b.trans d⟩⟩
theorem equR (N : Net) (t n : Nat) : Equ (seqR N t) n := by cases t; exact equ0 N n; exact equS N _ n

theorem seq_same {N : Net} {t u v : Nat} (hu : u < N.ends.length) (hv : v < N.ends.length) : gi (seqC N t) u = gi (seqC N t) v ↔ seqR N t u v = true := by
  rw [seqC_num]; exact cl_same (equR N t _) hu hv

/-- Classes of a greater depth are finer. -/
theorem seq_finer {N : Net} (h : NodesIn N) : ∀ (t u v : Nat), u < N.ends.length → v < N.ends.length → seqR N (t + 1) u v = true → seqR N t u v = true
  | 0, u, v, hu, hv, hs => like0_iff.2 (likeS_iff.1 hs).1
  | t + 1, u, v, hu, hv, hs => by
    obtain ⟨h1, h2⟩ := likeS_iff.1 hs
    refine likeS_iff.2 ⟨h1, fun i hi => ?_⟩
    obtain ⟨a, b⟩ := h2 i hi
    have n1 := h.node u hu i hi
    have n2 := h.node v hv i (by have := h1.1; omega)
    refine ⟨a, (seq_same (by omega) (by omega)).2 (seq_finer h t _ _ (by omega) (by omega) ((seq_same (by omega) (by omega)).1 b))⟩

theorem seq_like0 {N : Net} : ∀ {t u v : Nat}, seqR N t u v = true → Like0 N u v
  | 0, _, _, hs => like0_iff.1 hs
  | _ + 1, _, _, hs => (likeS_iff.1 hs).1

/-- Only the classes before, the ports and the classes behind them are looked at. -/
theorem seq_next {N : Net} (h : NodesIn N) {t u v : Nat} (hu : u < N.ends.length) (hv : v < N.ends.length) :
    (gi (seqC N t) u = gi (seqC N t) v ∧ (gr N.ends u).length = (gr N.ends v).length ∧ LikeE N (seqC N t) u v) ↔ seqR N (t + 1) u v = true := by
  constructor
  · intro ⟨h1, _, h3⟩
    exact likeS_iff.2 ⟨seq_like0 ((seq_same hu hv).1 h1), h3⟩
  · intro hs
    obtain ⟨h1, h2⟩ := likeS_iff.1 hs
    exact ⟨(seq_same hu hv).2 (seq_finer h t u v hu hv hs), h1.1, h2⟩

/-- As many classes of depth t as of depth t + 1. -/
def EvenAt (N : Net) (t : Nat) : Prop := maxI (seqC N (t + 1)) = maxI (seqC N t)

theorem even_cnt {N : Net} (hn : 0 < N.ends.length) (t : Nat) : EvenAt N t ↔ cnt (seqR N (t + 1)) N.ends.length = cnt (seqR N t) N.ends.length := by
  unfold EvenAt
  rw [seqC_num, seqC_num, maxI_num (equR N _ _) hn, maxI_num (equR N _ _) hn]
  omega

theorem even_next {N : Net} (h : NodesIn N) (hn : 0 < N.ends.length) {t : Nat} (he : EvenAt N t) : seqC N (t + 1) = seqC N t := by
  rw [even_cnt hn] at he
  have := finer_same (equR N t _) (equR N (t + 1) _) (seq_finer h t) he.symm
  rw [seqC_num, seqC_num]
  unfold num
  rw [num_congr (same := seqR N (t + 1)) (same' := seqR N t) fun u v hu hv => (this u v (by omega) hv).symm]

theorem even_all {N : Net} (h : NodesIn N) (hn : 0 < N.ends.length) {t : Nat} (he : EvenAt N t) : ∀ k, seqC N (t + k) = seqC N t
  | 0 => rfl
  | k + 1 => by
    have ih := even_all h hn he k
    have h1 := even_next h hn he
    show seqC N (t + k + 1) = _
    rw [← h1]
    show num (likeS N (seqC N (t + k))) _ = num (likeS N (seqC N t)) _
    rw [ih]

/-- The least such depth. -/
def StableAt (N : Net) (t : Nat) : Prop := EvenAt N t ∧ ∀ s, s < t → ¬ EvenAt N s

theorem uneven_cnt {N : Net} (h : NodesIn N) (hn : 0 < N.ends.length) : ∀ t, (∀ s, s < t → ¬ EvenAt N s) → t < cnt (seqR N t) N.ends.length
  | 0, _ => (cl_last hn (equR N 0 _).refl).1
  | t + 1, hs => by
    have ih := uneven_cnt h hn t fun s h => hs s (by omega)
    have h1 := hs t (by omega)
    rw [even_cnt hn] at h1
    have h2 := finer_le (n := N.ends.length) (seq_finer h t)
    omega
theorem uneven_lt {N : Net} (h : NodesIn N) (hn : 0 < N.ends.length) {t : Nat} (hs : ∀ s, s < t → ¬ EvenAt N s) : t < N.ends.length := by
  have := uneven_cnt h hn t hs
  have := cnt_le (seqR N t) N.ends.length
  omega

open Classical in
theorem stable_ex {N : Net} (h : NodesIn N) (hn : 0 < N.ends.length) : ∃ t, StableAt N t := by
  rcases em (∃ t, EvenAt N t) with ⟨t, ht⟩ | hno
  · have : ∀ t, EvenAt N t → ∃ s, StableAt N s := fun t => by
      induction t using Nat.strongRecOn with
      | ind t ih =>
        intro he
        rcases em (∃ s, s < t ∧ EvenAt N s) with ⟨s, hs, he'⟩ | hno
        · exact ih s hs he'
        · exact ⟨t, he, fun s hs he' => hno ⟨s, hs, he'⟩⟩
    exact this t ht
  · have := uneven_lt h hn (t := N.ends.length) fun s _ he => hno ⟨s, he⟩
    omega

open Classical in
/-- The stable depth; 0 where there is none. -/
noncomputable def stOf (N : Net) : Nat := if h : ∃ t, StableAt N t then Classical.choose h else 0
theorem stable_one {N : Net} {s t : Nat} (hs : StableAt N s) (ht : StableAt N t) : s = t := by
  rcases Nat.lt_trichotomy s t with h | h | h
  · exact absurd hs.1 (ht.2 s h)
  · exact h
  · exact absurd ht.1 (hs.2 t h)
theorem stOf_eq {N : Net} {t : Nat} (h : StableAt N t) : stOf N = t := by
  have he : ∃ t, StableAt N t := ⟨t, h⟩
  rw [stOf, dif_pos he]
  exact stable_one (Classical.choose_spec he) h
theorem stOf_stable {N : Net} (h : NodesIn N) (hn : 0 < N.ends.length) : StableAt N (stOf N) := by
  obtain ⟨t, ht⟩ := stable_ex h hn
  rw [stOf_eq ht]; exact ht
theorem stOf_lt {N : Net} (h : NodesIn N) (hn : 0 < N.ends.length) : stOf N < N.ends.length := uneven_lt h hn (stOf_stable h hn).2

theorem seq_late {N : Net} (h : NodesIn N) (hn : 0 < N.ends.length) {t : Nat} (ht : stOf N ≤ t) : seqC N t = seqC N (stOf N) := by
  have := even_all h hn (stOf_stable h hn).1 (t - stOf N)
  rwa [show stOf N + (t - stOf N) = t by omega] at this

/-- Different for a depth, different for each greater one. -/
theorem seq_apart {N : Net} (h : NodesIn N) {u v : Nat} (hu : u < N.ends.length) (hv : v < N.ends.length) {s : Nat} : ∀ {k : Nat}, gi (seqC N s) u ≠ gi (seqC N s) v → gi (seqC N (s + k)) u ≠ gi (seqC N (s + k)) v
  | 0, hs => hs
  | k + 1, hs => fun he => seq_apart h hu hv (k := k) hs ((seq_same hu hv).2 (seq_finer h _ u v hu hv ((seq_same hu hv).1 he)))

/-- The first depth at which two nodes are apart, up to the stable one. -/
def SepAt (N : Net) (u v t : Nat) : Prop := t ≤ stOf N ∧ gi (seqC N t) u ≠ gi (seqC N t) v ∧ ∀ s, s < t → gi (seqC N s) u = gi (seqC N s) v
def NoSep (N : Net) (u v : Nat) : Prop := ∀ s, s ≤ stOf N → gi (seqC N s) u = gi (seqC N s) v

theorem noSep_iff {N : Net} (h : NodesIn N) {u v : Nat} (hu : u < N.ends.length) (hv : v < N.ends.length) : NoSep N u v ↔ gi (seqC N (stOf N)) u = gi (seqC N (stOf N)) v := by
  refine ⟨fun hs => hs _ (Nat.le_refl _), fun he s hs => ?_⟩
  rcases Decidable.em (gi (seqC N s) u = gi (seqC N s) v) with e | e
  · exact e
  · have := seq_apart h hu hv (k := stOf N - s) e
    rw [show s + (stOf N - s) = stOf N by omega] at this
    exact absurd he this

theorem noSep_all {N : Net} (h : NodesIn N) (hn : 0 < N.ends.length) {u v t : Nat} (hs : NoSep N u v) : gi (seqC N t) u = gi (seqC N t) v := by
  rcases Nat.le_total t (stOf N) with ht | ht
  · exact hs t ht
  · rw [seq_late h hn ht]; exact hs _ (Nat.le_refl _)

theorem sep_iff {N : Net} (h : NodesIn N) {u v s : Nat} (hu : u < N.ends.length) (hv : v < N.ends.length) (hs : SepAt N u v s) (t : Nat) : gi (seqC N t) u = gi (seqC N t) v ↔ t < s := by
  constructor
  · intro he
    rcases Nat.lt_or_ge t s with hl | hl
    · exact hl
    · have := seq_apart h hu hv (k := t - s) hs.2.1
      rw [show s + (t - s) = t by omega] at this
      exact absurd he this
  · exact fun hl => hs.2.2 t hl
theorem sep_no {N : Net} {u v s : Nat} (hs : SepAt N u v s) : ¬ NoSep N u v := fun h => hs.2.1 (h s hs.1)
theorem sep_one {N : Net} {u v s t : Nat} (hs : SepAt N u v s) (ht : SepAt N u v t) : s = t := by
  rcases Nat.lt_trichotomy s t with h | h | h
  · exact absurd (ht.2.2 s h) hs.2.1
  · exact h
  · exact absurd (hs.2.2 t h) ht.2.1
end Go.Proofs.Ytkpdbceglejbnaa
