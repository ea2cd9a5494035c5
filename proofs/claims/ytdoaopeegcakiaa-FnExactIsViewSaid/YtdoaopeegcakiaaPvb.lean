/- The program's stack of missing parts reads a view as it is read part by part. -/
import Derived.Test.YtdoaopeegcakiaaPva
namespace Go.Proofs.Ytdoaopeegcakiaa

/-- What stands behind a view: the parts that are missing in each open bracket, the innermost first; d: the depth that is known. -/
noncomputable def cont : List Nat → Bs → Option Nat → Option Nat
  | [], r, d => if r = [] then d else none
  | m :: L, r, d => match pps PV (m - 1) 44 r with
    | none => none
    | some (F, r1) => match runF F (L.length + 1) d with
      | none => none
      | some d1 => match tkM 41 r1 with
        | none => none
        | some r2 => cont L r2 d1
def inP : List Nat → Bool
  | [] => false
  | _ :: _ => true
/-- A view, or the view of a part. -/
def VW : Bool → Bs → Option (VF × Bs)
  | false, r => match PV r with | none => none | some ((_, _, s), r1) => some (s, r1)
  | true, r => match PP r with | none => none | some ((_, _, _, s), r1) => some (s, r1)
noncomputable def KK (r : Bs) (L : List Nat) (d : Option Nat) : Option Nat :=
  match VW (inP L) r with
  | none => none
  | some (s, r1) => match runT s L.length d with
    | none => none
    | some d1 => cont L r1 d1
/-- What the program takes of a view's beginning. -/
def th : Bool → Bs → Option (Int × Bs)
  | false, r => match hd3 0 r with | none => none | some ((d, _), r1) => some (d, r1)
  | true, r => match tkD 0 5 r with
    | none => none
    | some (j, r1) => match tkM 58 r1 with
      | none => none
      | some r2 => match hd3 (j + 1) r2 with | none => none | some ((d, _), r3) => some (d, r3)

theorem tkD_lo {lo : Int} (h : 0 ≤ lo) (r : Bs) : tkD lo 6 r = match tkD 0 6 r with | none => none | some (d, r1) => if lo ≤ d then some (d, r1) else none := by
  cases r with
  | nil => rfl
  | cons c t =>
    simp only [tkD]
    by_cases h1 : 0 ≤ dgv c ∧ dgv c ≤ 6
    · rw [if_pos h1]
      simp only
      by_cases h2 : lo ≤ dgv c
      · rw [if_pos h2, if_pos ⟨h2, h1.2⟩]
      · rw [if_neg h2, if_neg fun h => h2 h.1]
    · rw [if_neg h1, if_neg fun k => h1 ⟨by omega, k.2⟩]
theorem hd3_lo {lo : Int} (h : 0 ≤ lo) (r : Bs) : hd3 lo r = match hd3 0 r with | none => none | some ((d, i), r1) => if lo ≤ d then some ((d, i), r1) else none := by
  unfold hd3
  rw [tkD_lo h]
  cases h1 : tkD 0 6 r with
  | none => rfl
  | some x =>
    obtain ⟨d, r1⟩ := x
    simp only
    by_cases hd : lo ≤ d
    · rw [if_pos hd]
      simp only
      cases h2 : tkM 46 r1 with
      | none => rfl
      | some r2 =>
        simp only
        cases h3 : tkD 0 9 r2 with
        | none => rfl
        | some y => simp only [if_pos hd]
    · rw [if_neg hd]
      simp only
      cases h2 : tkM 46 r1 with
      | none => rfl
      | some r2 =>
        simp only
        cases h3 : tkD 0 9 r2 with
        | none => rfl
        | some y => simp only [if_neg hd]

/-- A view by its beginning. -/
theorem VW_eq (b : Bool) (r : Bs) : VW b r = match th b r with
    | none => none
    | some (d, r1) => if d = 0 ∨ tkM 40 r1 = none then some (.nil, r1) else
        match pps PV d.toNat 40 r1 with
        | none => none
        | some (F, r2) => match tkM 41 r2 with
          | none => none
          | some r3 => some (F, r3) := by
  cases b with
  | false =>
    simp only [VW, th]
    rw [PV_eq]
    cases h1 : hd3 0 r with
    | none => rfl
    | some x =>
      obtain ⟨⟨d, i⟩, r1⟩ := x
      simp only
      by_cases hd : d = 0 ∨ tkM 40 r1 = none
      · rw [if_pos hd, if_pos hd]
      · rw [if_neg hd, if_neg hd]
        cases h2 : pps PV d.toNat 40 r1 with
        | none => rfl
        | some y =>
          obtain ⟨F, r2⟩ := y
          simp only
          cases h3 : tkM 41 r2 with
          | none => rfl
          | some r3 => rfl
  | true =>
    simp only [VW, th, PP]
    cases h0 : tkD 0 5 r with
    | none => rfl
    | some z =>
      obtain ⟨j, r0⟩ := z
      obtain ⟨_, _, _, hj0, _⟩ := tkD_some h0
      simp only
      cases h9 : tkM 58 r0 with
      | none => rfl
      | some r9 =>
        simp only
        rw [PV_eq, hd3_lo (lo := j + 1) (by omega)]
        cases h1 : hd3 0 r9 with
        | none => rfl
        | some x =>
          obtain ⟨⟨d, i⟩, r1⟩ := x
          simp only
          by_cases hj : j + 1 ≤ d
          · rw [if_pos hj]
            have hj' : j < d := by omega
            simp only
            by_cases hd : d = 0 ∨ tkM 40 r1 = none
            · rw [if_pos hd, if_pos hd]; simp only [if_pos hj']
            · rw [if_neg hd, if_neg hd]
              cases h2 : pps PV d.toNat 40 r1 with
              | none => rfl
              | some y =>
                obtain ⟨F, r2⟩ := y
                simp only
                cases h3 : tkM 41 r2 with
                | none => rfl
                | some r3 => simp only [if_pos hj']
          · rw [if_neg hj]
            have hj' : ¬ j < d := by omega
            by_cases hd : d = 0 ∨ tkM 40 r1 = none
            · rw [if_pos hd]; simp only [if_neg hj']
            · rw [if_neg hd]
              cases h2 : pps PV d.toNat 40 r1 with
              | none => rfl
              | some y =>
                obtain ⟨F, r2⟩ := y
                simp only
                cases h3 : tkM 41 r2 with
                | none => rfl
                | some r3 => simp only [if_neg hj']

theorem KK_none {r : Bs} {L : List Nat} {o : Option Nat} (h : th (inP L) r = none) : KK r L o = none := by
  unfold KK; rw [VW_eq, h]
theorem KK_deep {r : Bs} {L : List Nat} {o : Option Nat} (h : 80 < L.length) : KK r L o = none := by
  unfold KK
  cases VW (inP L) r with
  | none => rfl
  | some x => simp only [runT, if_pos h]
theorem KK_leaf {r r1 : Bs} {L : List Nat} {o : Option Nat} {d : Int} (h : th (inP L) r = some (d, r1)) (hd : d = 0 ∨ tkM 40 r1 = none) (hl : ¬ 80 < L.length) :
    KK r L o = match leafD L.length o with | none => none | some o1 => cont L r1 o1 := by
  unfold KK; rw [VW_eq, h]
  simp only [if_pos hd, runT_nil, if_neg hl]
/-- With an open bracket: the part's number and view, then the parts behind it, then the bracket. -/
theorem KK_part (r : Bs) (k : Nat) (L : List Nat) (o : Option Nat) : KK r ((k + 1) :: L) o = match PP r with
    | none => none
    | some ((_, _, _, s), r4) => match runT s (L.length + 1) o with
      | none => none
      | some o1 => match pps PV k 44 r4 with
        | none => none
        | some (F, r5) => match runF F (L.length + 1) o1 with
          | none => none
          | some o2 => match tkM 41 r5 with
            | none => none
            | some r6 => cont L r6 o2 := by
  unfold KK
  simp only [inP, VW]
  cases h1 : PP r with
  | none => rfl
  | some x =>
    obtain ⟨⟨j, d, i, s⟩, r4⟩ := x
    simp only [List.length_cons, cont, Nat.add_sub_cancel]
theorem KK_open {r r1 r2 : Bs} {L : List Nat} {o : Option Nat} {d : Int} (h : th (inP L) r = some (d, r1)) (hd : 0 < d) (hm : tkM 40 r1 = some r2) (hl : ¬ 80 < L.length) :
    KK r L o = KK r2 (d.toNat :: L) o := by
  obtain ⟨k, hk⟩ : ∃ k, d.toNat = k + 1 := ⟨d.toNat - 1, by omega⟩
  rw [hk, KK_part]
  unfold KK; rw [VW_eq, h]
  have hn : ¬ (d = 0 ∨ tkM 40 r1 = none) := by rw [hm]; rintro (h | h); omega; cases h
  simp only [if_neg hn, hk]
  rw [pps_succ, hm]
  simp only
  cases h1 : PP r2 with
  | none => rfl
  | some x =>
    obtain ⟨⟨j, d', i, s⟩, r4⟩ := x
    simp only
    cases h2 : pps PV k 44 r4 with
    | none =>
      simp only
      cases runT s (L.length + 1) o with
      | none => rfl
      | some _ => rfl
    | some y =>
      obtain ⟨F, r5⟩ := y
      simp only
      cases h3 : tkM 41 r5 with
      | none =>
        simp only
        cases runT s (L.length + 1) o with
        | none => rfl
        | some o1 =>
          simp only
          cases runF F (L.length + 1) o1 with
          | none => rfl
          | some _ => rfl
      | some r6 =>
        simp only
        rw [runT_node (by intro e; cases e), if_neg hl, runF_cons]
        cases runT s (L.length + 1) o with
        | none => rfl
        | some o1 => rfl
theorem cont_more {r r2 : Bs} {L : List Nat} {o : Option Nat} {k : Nat} (hm : tkM 44 r = some r2) : cont ((k + 2) :: L) r o = KK r2 ((k + 1) :: L) o := by
  rw [KK_part]
  simp only [cont, show k + 2 - 1 = k + 1 from rfl]
  rw [pps_succ, hm]
  simp only
  cases h1 : PP r2 with
  | none => rfl
  | some x =>
    obtain ⟨⟨j, d', i, s⟩, r4⟩ := x
    simp only
    cases h2 : pps PV k 44 r4 with
    | none =>
      simp only
      cases runT s (L.length + 1) o with
      | none => rfl
      | some _ => rfl
    | some y =>
      obtain ⟨F, r5⟩ := y
      simp only
      rw [runF_cons]
      cases runT s (L.length + 1) o with
      | none => rfl
      | some o1 => rfl
theorem cont_nomore {r : Bs} {L : List Nat} {o : Option Nat} {k : Nat} (hm : tkM 44 r = none) : cont ((k + 2) :: L) r o = none := by
  simp only [cont, show k + 2 - 1 = k + 1 from rfl]
  rw [pps_succ, hm]
theorem cont_close {r : Bs} {L : List Nat} {o : Option Nat} : cont (1 :: L) r o = match tkM 41 r with | none => none | some r1 => cont L r1 o := by
  simp only [cont, show 1 - 1 = 0 from rfl, pps_zero, runF]

/-- A view text: its depth. -/
theorem KK_iff {s : Bs} {x : Nat} : KK s [] none = some x ↔ ∃ d i sub, PV s = some ((d, i, sub), []) ∧ VDok sub ∧ x = sub.dep := by
  unfold KK
  simp only [inP, VW, List.length_nil]
  cases h1 : PV s with
  | none => exact ⟨fun h => (by cases h), fun ⟨_, _, _, h, _⟩ => (by cases h)⟩
  | some y =>
    obtain ⟨⟨d, i, sub⟩, r1⟩ := y
    simp only
    have hr := run_root (PV_pos h1).1
    cases h2 : runT sub 0 none with
    | none =>
      simp only
      refine ⟨fun h => (by cases h), fun ⟨d', i', sub', e, h, _⟩ => ?_⟩
      cases e
      have := (hr (some sub.dep)).2 ⟨h, rfl⟩
      rw [h2] at this; cases this
    | some o1 =>
      simp only [cont]
      obtain ⟨k1, k2⟩ := (hr o1).1 h2
      by_cases hn : r1 = []
      · subst hn
        rw [if_pos rfl, k2]
        exact ⟨fun h => ⟨d, i, sub, rfl, k1, (Option.some.inj h).symm⟩, fun ⟨_, _, _, e, _, hx⟩ => by cases e; rw [hx]⟩
      · rw [if_neg hn]
        exact ⟨fun h => (by cases h), fun ⟨_, _, _, e, _⟩ => by cases e; exact absurd rfl hn⟩

/-- A text is one of a view; its depth. -/
def IsV (s : Bs) : Prop := s.length ≤ 4000 ∧ ∃ x, KK s [] none = some x
noncomputable def depV (s : Bs) : Int := if dec (IsV s) = true then (((KK s [] none).getD 0 : Nat) : Int) else 0
theorem depV_t {s : Bs} {x : Nat} (h : s.length ≤ 4000) (k : KK s [] none = some x) : depV s = (x : Int) ∧ dec (IsV s) = true := by
  have hv : IsV s := ⟨h, x, k⟩
  unfold depV; rw [dec_true hv, k]; exact ⟨rfl, rfl⟩
theorem depV_f {s : Bs} (h : ¬ s.length ≤ 4000 ∨ KK s [] none = none) : depV s = 0 ∧ dec (IsV s) = false := by
  have hv : ¬ IsV s := fun ⟨a, x, b⟩ => by
    rcases h with h | h
    · exact h a
    · rw [b] at h; cases h
  unfold depV; rw [dec_false hv]; exact ⟨rfl, rfl⟩
end Go.Proofs.Ytdoaopeegcakiaa
