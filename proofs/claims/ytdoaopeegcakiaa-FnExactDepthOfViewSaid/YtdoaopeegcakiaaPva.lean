/- Texts of views, as plain mathematics: how they are read, and what the program's stack of missing parts makes of them. -/
import Derived.Test.YtdoaopeegcakiaaKa
namespace Go.Proofs.Ytdoaopeegcakiaa

abbrev Bs := List UInt8
/-- What a digit says. -/
def dgv (c : UInt8) : Int := (c.toNat : Int) - 48
/-- A digit in lo..hi is taken away. -/
def tkD (lo hi : Int) : Bs → Option (Int × Bs)
  | [] => none
  | c :: r => if lo ≤ dgv c ∧ dgv c ≤ hi then some (dgv c, r) else none
/-- A mark is taken away. -/
def tkM (c : UInt8) : Bs → Option Bs
  | [] => none
  | x :: r => if x = c then some r else none
theorem tkD_some {lo hi d : Int} {r r' : Bs} (h : tkD lo hi r = some (d, r')) : ∃ c, r = c :: r' ∧ d = dgv c ∧ lo ≤ d ∧ d ≤ hi := by
  cases r with
  | nil => simp [tkD] at h
  | cons c t =>
    simp only [tkD] at h
    by_cases g : lo ≤ dgv c ∧ dgv c ≤ hi
    · rw [if_pos g] at h; cases h; exact ⟨c, rfl, rfl, g.1, g.2⟩
    · rw [if_neg g] at h; cases h
theorem tkM_some {c : UInt8} {r r' : Bs} (h : tkM c r = some r') : r = c :: r' := by
  cases r with
  | nil => simp [tkM] at h
  | cons x t =>
    simp only [tkM] at h
    by_cases g : x = c
    · rw [if_pos g] at h; cases h; rw [g]
    · rw [if_neg g] at h; cases h
theorem tkD_len {lo hi d : Int} {r r' : Bs} (h : tkD lo hi r = some (d, r')) : r.length = r'.length + 1 := by
  obtain ⟨c, rfl, _⟩ := tkD_some h; simp
theorem tkM_len {c : UInt8} {r r' : Bs} (h : tkM c r = some r') : r.length = r'.length + 1 := by
  rw [tkM_some h]; simp

/-- Parts of views: for each the number of its port, its degree, its input, its own parts; and the parts behind it. -/
inductive VF where
  | nil
  | cons (port deg inp : Int) (sub rest : VF)

/-- What stands in front of a bracket. -/
def hd3 (lo : Int) (r : Bs) : Option ((Int × Int) × Bs) :=
  match tkD lo 6 r with
  | none => none
  | some (d, r1) => match tkM 46 r1 with
    | none => none
    | some r2 => match tkD 0 9 r2 with
      | none => none
      | some (i, r3) => some ((d, i), r3)
theorem hd3_some {lo d i : Int} {r r' : Bs} (h : hd3 lo r = some ((d, i), r')) : r.length = r'.length + 3 ∧ lo ≤ d ∧ d ≤ 6 ∧ 0 ≤ i ∧ i ≤ 9 := by
  unfold hd3 at h
  cases h1 : tkD lo 6 r with
  | none => rw [h1] at h; cases h
  | some x =>
    obtain ⟨d1, r1⟩ := x
    rw [h1] at h
    cases h2 : tkM 46 r1 with
    | none => simp only [h2] at h; cases h
    | some r2 =>
      simp only [h2] at h
      cases h3 : tkD 0 9 r2 with
      | none => simp only [h3] at h; cases h
      | some y =>
        obtain ⟨i1, r3⟩ := y
        simp only [h3] at h
        cases h
        have := tkD_len h1; have := tkM_len h2; have := tkD_len h3
        obtain ⟨_, _, _, a, b⟩ := tkD_some h1
        obtain ⟨_, _, _, a', b'⟩ := tkD_some h3
        exact ⟨by omega, a, b, a', b'⟩

abbrev VR := Option ((Int × Int × VF) × Bs)
/-- k parts, each behind a mark: c ahead of the first, a comma ahead of the others. -/
def pps (f : Bs → VR) : Nat → UInt8 → Bs → Option (VF × Bs)
  | 0, _, r => some (.nil, r)
  | k + 1, c, r =>
    match tkM c r with
    | none => none
    | some r1 => match tkD 0 5 r1 with
      | none => none
      | some (j, r2) => match tkM 58 r2 with
        | none => none
        | some r3 => match f r3 with
          | none => none
          | some ((d, i, s), r4) => if j < d then
              match pps f k 44 r4 with
              | none => none
              | some (F, r5) => some (.cons j d i s F, r5)
            else none
/-- A view. -/
def pv : Nat → Bs → VR
  | 0, _ => none
  | n + 1, r =>
    match hd3 0 r with
    | none => none
    | some ((d, i), r1) => if d = 0 ∨ tkM 40 r1 = none then some ((d, i, .nil), r1) else
        match pps (pv n) d.toNat 40 r1 with
        | none => none
        | some (F, r2) => match tkM 41 r2 with
          | none => none
          | some r3 => some ((d, i, F), r3)

theorem pps_len {f : Bs → VR} (hf : ∀ r t r', f r = some (t, r') → r'.length ≤ r.length) : ∀ (k : Nat) (c : UInt8) (r : Bs) (F : VF) (r' : Bs), pps f k c r = some (F, r') → r'.length ≤ r.length
  | 0, c, r, F, r', h => by simp only [pps] at h; cases h; exact Nat.le_refl _
  | k + 1, c, r, F, r', h => by
    simp only [pps] at h
    cases h1 : tkM c r with
    | none => simp only [h1] at h; cases h
    | some r1 =>
      simp only [h1] at h
      cases h2 : tkD 0 5 r1 with
      | none => simp only [h2] at h; cases h
      | some x =>
        obtain ⟨j, r2⟩ := x
        simp only [h2] at h
        cases h3 : tkM 58 r2 with
        | none => simp only [h3] at h; cases h
        | some r3 =>
          simp only [h3] at h
          cases h4 : f r3 with
          | none => simp only [h4] at h; cases h
          | some y =>
            obtain ⟨⟨d, i, s⟩, r4⟩ := y
            simp only [h4] at h
            by_cases hj : j < d
            · rw [if_pos hj] at h
              cases h5 : pps f k 44 r4 with
              | none => simp only [h5] at h; cases h
              | some z =>
                obtain ⟨G, r5⟩ := z
                simp only [h5] at h
                cases h
                have := tkM_len h1; have := tkD_len h2; have := tkM_len h3; have := hf _ _ _ h4; have := pps_len hf k _ _ _ _ h5
                omega
            · rw [if_neg hj] at h; cases h
theorem pv_len : ∀ (n : Nat) (r : Bs) (t : Int × Int × VF) (r' : Bs), pv n r = some (t, r') → r'.length ≤ r.length
  | 0, r, t, r', h => by simp [pv] at h
  | n + 1, r, t, r', h => by
    simp only [pv] at h
    cases h1 : hd3 0 r with
    | none => simp only [h1] at h; cases h
    | some x =>
      obtain ⟨⟨d, i⟩, r1⟩ := x
      simp only [h1] at h
      have hl := (hd3_some h1).1
      by_cases hd : d = 0 ∨ tkM 40 r1 = none
      · rw [if_pos hd] at h; cases h; omega
      · rw [if_neg hd] at h
        cases h2 : pps (pv n) d.toNat 40 r1 with
        | none => simp only [h2] at h; cases h
        | some y =>
          obtain ⟨F, r2⟩ := y
          simp only [h2] at h
          have := pps_len (pv_len n) _ _ _ _ _ h2
          cases h3 : tkM 41 r2 with
          | none => simp only [h3] at h; cases h
          | some r3 =>
            simp only [h3] at h
            have := tkM_len h3
            cases h; omega
theorem pps_congr {f g : Bs → VR} (hf : ∀ r t r', f r = some (t, r') → r'.length ≤ r.length) : ∀ (k : Nat) (c : UInt8) (r : Bs), (∀ x : Bs, x.length < r.length → f x = g x) → pps f k c r = pps g k c r
  | 0, c, r, _ => rfl
  | k + 1, c, r, h => by
    simp only [pps]
    cases h1 : tkM c r with
    | none => rfl
    | some r1 =>
      simp only
      cases h2 : tkD 0 5 r1 with
      | none => rfl
      | some x =>
        obtain ⟨j, r2⟩ := x
        simp only
        cases h3 : tkM 58 r2 with
        | none => rfl
        | some r3 =>
          have := tkM_len h1; have := tkD_len h2; have := tkM_len h3
          simp only
          rw [← h r3 (by omega)]
          cases h4 : f r3 with
          | none => rfl
          | some y =>
            obtain ⟨⟨d, i, s⟩, r4⟩ := y
            have := hf _ _ _ h4
            simp only
            rw [pps_congr hf k 44 r4 fun x hx => h x (by omega)]
theorem pv_fuel : ∀ (n m : Nat) (r : Bs), r.length < n → r.length < m → pv n r = pv m r
  | 0, m, r, h, _ => absurd h (by omega)
  | n + 1, 0, r, _, h => absurd h (by omega)
  | n + 1, m + 1, r, h, k => by
    simp only [pv]
    cases h1 : hd3 0 r with
    | none => rfl
    | some x =>
      obtain ⟨⟨d, i⟩, r1⟩ := x
      have := (hd3_some h1).1
      simp only
      rw [pps_congr (pv_len n) d.toNat 40 r1 fun x hx => pv_fuel n m x (by omega) (by omega)]

/-- The view that a text begins with, and what is left of the text. -/
def PV (r : Bs) : VR := pv (r.length + 1) r
theorem PV_len {r r' : Bs} {t : Int × Int × VF} (h : PV r = some (t, r')) : r'.length ≤ r.length := pv_len _ _ _ _ h
theorem PV_eq (r : Bs) : PV r = match hd3 0 r with
    | none => none
    | some ((d, i), r1) => if d = 0 ∨ tkM 40 r1 = none then some ((d, i, .nil), r1) else
        match pps PV d.toNat 40 r1 with
        | none => none
        | some (F, r2) => match tkM 41 r2 with
          | none => none
          | some r3 => some ((d, i, F), r3) := by
  unfold PV
  simp only [pv]
  cases h1 : hd3 0 r with
  | none => rfl
  | some x =>
    obtain ⟨⟨d, i⟩, r1⟩ := x
    have := (hd3_some h1).1
    simp only
    rw [pps_congr (g := PV) (pv_len r.length) d.toNat 40 r1 fun x hx => pv_fuel _ _ x (by omega) (by omega)]
    rfl

/-- A part: the number of its port, and its view. -/
def PP (r : Bs) : Option ((Int × Int × Int × VF) × Bs) :=
  match tkD 0 5 r with
  | none => none
  | some (j, r2) => match tkM 58 r2 with
    | none => none
    | some r3 => match PV r3 with
      | none => none
      | some ((d, i, s), r4) => if j < d then some ((j, d, i, s), r4) else none
theorem pps_zero (c : UInt8) (r : Bs) : pps PV 0 c r = some (.nil, r) := rfl
theorem pps_succ (k : Nat) (c : UInt8) (r : Bs) : pps PV (k + 1) c r = match tkM c r with
    | none => none
    | some r1 => match PP r1 with
      | none => none
      | some ((j, d, i, s), r4) => match pps PV k 44 r4 with
        | none => none
        | some (F, r5) => some (.cons j d i s F, r5) := by
  simp only [pps]
  cases h1 : tkM c r with
  | none => rfl
  | some r1 =>
    simp only [PP]
    cases h2 : tkD 0 5 r1 with
    | none => rfl
    | some x =>
      obtain ⟨j, r2⟩ := x
      simp only
      cases h3 : tkM 58 r2 with
      | none => rfl
      | some r3 =>
        simp only
        cases h4 : PV r3 with
        | none => rfl
        | some y =>
          obtain ⟨⟨d, i, s⟩, r4⟩ := y
          simp only
          by_cases hj : j < d
          · rw [if_pos hj, if_pos hj]
          · rw [if_neg hj, if_neg hj]

/-- How deep. -/
def VF.dep : VF → Nat
  | .nil => 0
  | .cons _ _ _ s r => max (s.dep + 1) r.dep
/-- Parts of the depth k. -/
def VF.fit : VF → Nat → Prop
  | .nil, _ => True
  | .cons _ d _ s r, k => (d = 0 ∨ ((s = .nil ↔ k = 0) ∧ s.fit (k - 1))) ∧ r.fit k
/-- All degrees are positive. -/
def VF.pos : VF → Prop
  | .nil => True
  | .cons j d _ s r => (0 ≤ j ∧ j < d) ∧ s.pos ∧ r.pos
/-- A view with these parts has the depth k. -/
def fitT (s : VF) (k : Nat) : Prop := (s = .nil ↔ k = 0) ∧ s.fit (k - 1)

theorem pps_pos {f : Bs → VR} (hf : ∀ r d i s r', f r = some ((d, i, s), r') → s.pos) : ∀ (k : Nat) (c : UInt8) (r : Bs) (F : VF) (r' : Bs), pps f k c r = some (F, r') → F.pos ∧ (0 < k → F ≠ .nil)
  | 0, c, r, F, r', h => by simp only [pps] at h; cases h; exact ⟨trivial, fun h => absurd h (by omega)⟩
  | k + 1, c, r, F, r', h => by
    simp only [pps] at h
    cases h1 : tkM c r with
    | none => simp only [h1] at h; cases h
    | some r1 =>
      simp only [h1] at h
      cases h2 : tkD 0 5 r1 with
      | none => simp only [h2] at h; cases h
      | some x =>
        obtain ⟨j, r2⟩ := x
        simp only [h2] at h
        cases h3 : tkM 58 r2 with
        | none => simp only [h3] at h; cases h
        | some r3 =>
          simp only [h3] at h
          cases h4 : f r3 with
          | none => simp only [h4] at h; cases h
          | some y =>
            obtain ⟨⟨d, i, s⟩, r4⟩ := y
            simp only [h4] at h
            by_cases hj : j < d
            · rw [if_pos hj] at h
              cases h5 : pps f k 44 r4 with
              | none => simp only [h5] at h; cases h
              | some z =>
                obtain ⟨G, r5⟩ := z
                simp only [h5] at h
                cases h
                obtain ⟨_, _, _, a, _⟩ := tkD_some h2
                exact ⟨⟨⟨a, hj⟩, hf _ _ _ _ _ h4, (pps_pos hf k _ _ _ _ h5).1⟩, fun _ e => by cases e⟩
            · rw [if_neg hj] at h; cases h
theorem pv_pos : ∀ (n : Nat) (r : Bs) (d i : Int) (s : VF) (r' : Bs), pv n r = some ((d, i, s), r') → s.pos ∧ (d = 0 → s = .nil) ∧ 0 ≤ d ∧ d ≤ 6 ∧ 0 ≤ i ∧ i ≤ 9
  | 0, r, d, i, s, r', h => by simp [pv] at h
  | n + 1, r, d, i, s, r', h => by
    simp only [pv] at h
    cases h1 : hd3 0 r with
    | none => simp only [h1] at h; cases h
    | some x =>
      obtain ⟨⟨d', i'⟩, r1⟩ := x
      simp only [h1] at h
      have hl := (hd3_some h1).2
      by_cases hd : d' = 0 ∨ tkM 40 r1 = none
      · rw [if_pos hd] at h; cases h; exact ⟨trivial, fun _ => rfl, hl⟩
      · rw [if_neg hd] at h
        cases h2 : pps (pv n) d'.toNat 40 r1 with
        | none => simp only [h2] at h; cases h
        | some y =>
          obtain ⟨F, r2⟩ := y
          simp only [h2] at h
          have hp := pps_pos (fun r d i s r' h => (pv_pos n r d i s r' h).1) _ _ _ _ _ h2
          cases h3 : tkM 41 r2 with
          | none => simp only [h3] at h; cases h
          | some r3 =>
            simp only [h3] at h
            cases h
            exact ⟨hp.1, fun e => absurd (.inl e) hd, hl⟩
theorem PV_pos {r r' : Bs} {d i : Int} {s : VF} (h : PV r = some ((d, i, s), r')) : s.pos ∧ (d = 0 → s = .nil) ∧ 0 ≤ d ∧ d ≤ 6 ∧ 0 ≤ i ∧ i ≤ 9 := pv_pos _ _ _ _ _ _ h
theorem PP_pos {r r' : Bs} {j d i : Int} {s : VF} (h : PP r = some ((j, d, i, s), r')) : s.pos ∧ 0 ≤ j ∧ j < d := by
  unfold PP at h
  cases h2 : tkD 0 5 r with
  | none => rw [h2] at h; cases h
  | some x =>
    obtain ⟨j', r2⟩ := x
    simp only [h2] at h
    cases h3 : tkM 58 r2 with
    | none => simp only [h3] at h; cases h
    | some r3 =>
      simp only [h3] at h
      cases h4 : PV r3 with
      | none => simp only [h4] at h; cases h
      | some y =>
        obtain ⟨⟨d', i', s'⟩, r4⟩ := y
        simp only [h4] at h
        by_cases hj : j' < d'
        · rw [if_pos hj] at h
          cases h
          obtain ⟨_, _, _, a, _⟩ := tkD_some h2
          exact ⟨(PV_pos h4).1, a, hj⟩
        · rw [if_neg hj] at h; cases h

/-- The depth of a view text: parts that are all equally many steps away; at most 80. -/
def VDok (s : VF) : Prop := s.dep ≤ 80 ∧ fitT s s.dep
theorem dep_fit : ∀ {F : VF} {k : Nat}, F.pos → F.fit k → F ≠ .nil → F.dep = k + 1
  | .nil, _, _, _, h => absurd rfl h
  | .cons j d i s r, k, hp, hf, _ => by
    obtain ⟨⟨hj0, hj⟩, hs, hr⟩ := hp
    obtain ⟨h1, h2⟩ := hf
    have h1 := h1.resolve_left (by omega)
    have e1 : s.dep = k := by
      by_cases hn : s = .nil
      · have := h1.1.1 hn; subst hn; subst this; rfl
      · have h0 : k ≠ 0 := fun e => hn (h1.1.2 e)
        have := dep_fit hs h1.2 hn
        omega
    have e2 : r.dep ≤ k + 1 := by
      by_cases hn : r = .nil
      · subst hn; simp [VF.dep]
      · have := dep_fit hr h2 hn; omega
    simp only [VF.dep]; omega

/-! The program's way: the depth is that of the first view without a bracket. -/
def leafD (s : Nat) : Option Nat → Option (Option Nat)
  | none => some (some s)
  | some x => if x = s then some (some x) else none
def VF.no : VF → Bool
  | .nil => true
  | .cons _ _ _ _ _ => false
theorem no_iff {F : VF} : F.no = true ↔ F = .nil := by cases F <;> simp [VF.no]
def runF : VF → Nat → Option Nat → Option (Option Nat)
  | .nil, _, d => some d
  | .cons _ _ _ sub rest, s, d =>
    match (if 80 < s then none else if sub.no then leafD s d else runF sub (s + 1) d) with
    | none => none
    | some d' => runF rest s d'
def runT (sub : VF) (s : Nat) (d : Option Nat) : Option (Option Nat) := if 80 < s then none else if sub.no then leafD s d else runF sub (s + 1) d
theorem runF_cons (j d i : Int) (sub rest : VF) (s : Nat) (x : Option Nat) : runF (.cons j d i sub rest) s x = match runT sub s x with | none => none | some d' => runF rest s d' := by
  rw [runF]; rfl
theorem runT_node {sub : VF} (h : sub ≠ .nil) (s : Nat) (d : Option Nat) : runT sub s d = if 80 < s then none else runF sub (s + 1) d := by
  have : ¬ sub.no = true := fun e => h (no_iff.1 e)
  unfold runT; rw [if_neg this]
theorem runT_nil (s : Nat) (d : Option Nat) : runT .nil s d = if 80 < s then none else leafD s d := rfl
theorem leafD_iff {s : Nat} {d d' : Option Nat} : leafD s d = some d' ↔ (d = none ∨ d = some s) ∧ d' = some s := by
  cases d with
  | none =>
    constructor
    · intro h; exact ⟨.inl rfl, (Option.some.inj h).symm⟩
    · rintro ⟨_, rfl⟩; rfl
  | some x =>
    by_cases h : x = s
    · subst h
      have e : leafD x (some x) = some (some x) := if_pos rfl
      rw [e]
      constructor
      · intro h; exact ⟨.inr rfl, (Option.some.inj h).symm⟩
      · rintro ⟨_, rfl⟩; rfl
    · have e : leafD s (some x) = none := if_neg h
      rw [e]
      constructor
      · intro h; cases h
      · rintro ⟨h' | h', _⟩
        · cases h'
        · cases h'; exact absurd rfl h

theorem runT_iff {sub : VF} (ih : sub ≠ .nil → ∀ s d d', runF sub s d = some d' ↔ ∃ k, sub.fit k ∧ s + k ≤ 80 ∧ (d = none ∨ d = some (s + k)) ∧ d' = some (s + k)) (s : Nat) (d d' : Option Nat) :
    runT sub s d = some d' ↔ ∃ k, fitT sub k ∧ s + k ≤ 80 ∧ (d = none ∨ d = some (s + k)) ∧ d' = some (s + k) := by
  by_cases hn : sub = .nil
  · subst hn
    rw [runT_nil]
    by_cases h80 : 80 < s
    · rw [if_pos h80]
      exact ⟨fun h => (by cases h), fun ⟨k, _, h, _⟩ => absurd h (by omega)⟩
    · rw [if_neg h80, leafD_iff]
      constructor
      · rintro ⟨h1, h2⟩; exact ⟨0, ⟨⟨fun _ => rfl, fun _ => rfl⟩, trivial⟩, by omega, h1, h2⟩
      · rintro ⟨k, ⟨hk, _⟩, _, h1, h2⟩
        obtain rfl : k = 0 := hk.1 rfl
        exact ⟨h1, h2⟩
  · rw [runT_node hn]
    by_cases h80 : 80 < s
    · rw [if_pos h80]
      exact ⟨fun h => (by cases h), fun ⟨k, _, h, _⟩ => absurd h (by omega)⟩
    · rw [if_neg h80, ih hn]
      constructor
      · rintro ⟨k, h1, h2, h3, h4⟩
        refine ⟨k + 1, ⟨⟨fun h => absurd h hn, fun h => absurd h (by omega)⟩, h1⟩, by omega, ?_, ?_⟩
        · rcases h3 with h | h
          · exact .inl h
          · exact .inr (by rw [h]; congr 1; omega)
        · rw [h4]; congr 1; omega
      · rintro ⟨k, ⟨h0, h1⟩, h2, h3, h4⟩
        have hk : k ≠ 0 := fun e => hn (h0.2 e)
        refine ⟨k - 1, h1, by omega, ?_, ?_⟩
        · rcases h3 with h | h
          · exact .inl h
          · exact .inr (by rw [h]; congr 1; omega)
        · rw [h4]; congr 1; omega
theorem runF_iff : ∀ (F : VF), F.pos → F ≠ .nil → ∀ s d d', runF F s d = some d' ↔ ∃ k, F.fit k ∧ s + k ≤ 80 ∧ (d = none ∨ d = some (s + k)) ∧ d' = some (s + k)
  | .nil, _, h, _, _, _ => absurd rfl h
  | .cons j dg i sub rest, hp, _, s, d, d' => by
    obtain ⟨⟨hj0, hj⟩, hs, hr⟩ := hp
    rw [runF_cons]
    have hT := fun d' => runT_iff (fun hn => runF_iff sub hs hn) s d d'
    have hfit : ∀ k, (VF.cons j dg i sub rest).fit k ↔ fitT sub k ∧ rest.fit k := fun k => by
      show ((dg = 0 ∨ _) ∧ _) ↔ _
      exact ⟨fun h => ⟨h.1.resolve_left (by omega), h.2⟩, fun h => ⟨.inr h.1, h.2⟩⟩
    cases h1 : runT sub s d with
    | none =>
      simp only
      constructor
      · intro h; cases h
      · rintro ⟨k, hk, a, b, c⟩
        have := (hT (some (s + k))).2 ⟨k, ((hfit k).1 hk).1, a, b, rfl⟩
        rw [h1] at this; cases this
    | some d1 =>
      obtain ⟨k, k1, k2, k3, k4⟩ := (hT d1).1 h1
      simp only
      by_cases hn : rest = .nil
      · subst hn
        simp only [runF]
        constructor
        · intro h; cases h; exact ⟨k, (hfit k).2 ⟨k1, trivial⟩, k2, k3, k4⟩
        · rintro ⟨k', hk', a, b, c⟩
          have := (hT (some (s + k'))).2 ⟨k', ((hfit k').1 hk').1, a, b, rfl⟩
          rw [h1] at this; rw [c]; exact this
      · rw [runF_iff rest hr hn]
        constructor
        · rintro ⟨k', a, b, c, e⟩
          have : s + k = s + k' := by
            rw [k4] at c
            rcases c with h | h
            · cases h
            · exact Option.some.inj h
          obtain rfl : k = k' := by omega
          exact ⟨k, (hfit k).2 ⟨k1, a⟩, b, k3, e⟩
        · rintro ⟨k', hk', a, b, c⟩
          have := (hT (some (s + k'))).2 ⟨k', ((hfit k').1 hk').1, a, b, rfl⟩
          rw [h1] at this
          refine ⟨k', ((hfit k').1 hk').2, a, .inr (Option.some.inj this), c⟩
theorem run_root {sub : VF} (hp : sub.pos) (x : Option Nat) : runT sub 0 none = some x ↔ VDok sub ∧ x = some sub.dep := by
  rw [runT_iff (fun hn => runF_iff sub hp hn)]
  have hd : ∀ k, fitT sub k → sub.dep = k := fun k h => by
    by_cases hn : sub = .nil
    · have := h.1.1 hn; subst hn; subst this; rfl
    · have h0 : k ≠ 0 := fun e => hn (h.1.2 e)
      have := dep_fit hp h.2 hn
      omega
  constructor
  · rintro ⟨k, h1, h2, _, h4⟩
    have e := hd k h1
    refine ⟨⟨by omega, by rw [e]; exact h1⟩, ?_⟩
    rw [h4, e]; congr 1; omega
  · rintro ⟨⟨h1, h2⟩, h3⟩
    exact ⟨_, h2, by omega, .inl rfl, by rw [h3]; congr 1; omega⟩
end Go.Proofs.Ytdoaopeegcakiaa
