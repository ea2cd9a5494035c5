/- Edges that reach each port once: what is joined with what, and that all ends are mutual. -/
import Derived.Test.YtdcgpodjoalokaaGa
namespace Go.Proofs.Ytdcgpodjoalokaa
open Go.RowKit

def endAt (N : Net) (u j : Nat) : Int × Int := (gn (gr N.ends u) j, gp (gr N.ends u) j)
theorem endAt_set {N : Net} {u j : Nat} (hu : u < N.ends.length) (hj : j < (gr N.ends u).length) (x : Int × Int) (v i : Nat) : endAt (setEnd N u j x) v i = if v = u ∧ i = j then x else endAt N v i := by
  unfold endAt
  rw [show gr (setEnd N u j x).ends v = _ from gr_set _ _ _ _ hu]
  by_cases e : v = u
  · subst e
    rw [if_pos rfl, gn_set _ _ _ _ hj, gp_set _ _ _ _ hj]
    by_cases e2 : i = j
    · rw [if_pos e2, if_pos e2, if_pos ⟨rfl, e2⟩]
    · rw [if_neg e2, if_neg e2, if_neg (fun h => e2 h.2)]
  · rw [if_neg e, if_neg (fun h => e h.1)]
/-- The other port of the same edge. -/
def mate (i : Nat) : Nat := if i % 2 = 0 then i + 1 else i - 1
theorem mate_mate (i : Nat) : mate (mate i) = i := by unfold mate; split <;> split <;> omega
theorem mate_lt {i m : Nat} (h : i < 2 * m) : mate i < 2 * m := by unfold mate; split <;> omega
/-- No port is reached twice. -/
def Once (E : List (Int × Int)) : Prop := ∀ i j, i < E.length → j < E.length → gn E i = gn E j → gp E i = gp E j → i = j

theorem link_get {N : Net} {E : List (Int × Int)} (hp : PortsOK N E) (ho : Once E) : ∀ m, 2 * m ≤ E.length → ∀ i, i < 2 * m → endAt (linkTo N E m) (gn E i).toNat (gp E i).toNat = ge E (mate i)
  | 0, _, i, hi => absurd hi (by omega)
  | m + 1, hm, i, hi => by
    have ih := link_get hp ho m (by omega)
    obtain ⟨a1, a2, a3, a4⟩ := hp (2 * m) (by omega)
    obtain ⟨b1, b2, b3, b4⟩ := hp (2 * m + 1) (by omega)
    obtain ⟨c1, c2, c3, c4⟩ := hp i (by omega)
    have hl := linkTo_len N E m
    rw [linkTo, linkNet, ge, ge]
    rw [endAt_set (by rw [setEnd_len, hl]; simp only; omega) (by rw [setEnd_row, linkTo_row]; simp only; omega)]
    have hne : ∀ j, j < E.length → i ≠ j → ¬ ((gn E i).toNat = (gn E j).toNat ∧ (gp E i).toNat = (gp E j).toNat) := fun j hj hij h => by
      obtain ⟨d1, d2, d3, d4⟩ := hp j hj
      exact hij (ho i j (by omega) hj (by omega) (by omega))
    by_cases e1 : i = 2 * m + 1
    · subst e1
      rw [if_pos ⟨rfl, rfl⟩, show mate (2 * m + 1) = 2 * m by unfold mate; rw [if_neg (by omega)]; omega]
      rfl
    · rw [if_neg (hne _ (by omega) e1), endAt_set (by rw [hl]; simp only; omega) (by rw [linkTo_row]; simp only; omega)]
      by_cases e2 : i = 2 * m
      · subst e2
        rw [if_pos ⟨rfl, rfl⟩, show mate (2 * m) = 2 * m + 1 by unfold mate; rw [if_pos (by omega)]]
        rfl
      · rw [if_neg (hne _ (by omega) e2)]
        exact ih i (by omega)

/-- Where each port is reached, all ends are mutual. -/
theorem link_ends {N : Net} {E : List (Int × Int)} {m : Nat} (hm : E.length = 2 * m) (hp : PortsOK N E) (ho : Once E) (hd : ∀ v, v < N.ends.length → (gr N.ends v).length ≤ 6)
    (hc : ∀ v j, v < N.ends.length → j < (gr N.ends v).length → ∃ i, i < 2 * m ∧ gn E i = v ∧ gp E i = j) : EndsOK (linkTo N E m).ends := by
  intro v hv
  rw [linkTo_len] at hv
  refine ⟨by rw [linkTo_row]; exact hd v hv, fun j hj => ?_⟩
  rw [linkTo_row] at hj
  obtain ⟨i, hi, h1, h2⟩ := hc v j hv hj
  have g1 := link_get hp ho m (by omega) i hi
  have g2 := link_get hp ho m (by omega) (mate i) (mate_lt hi)
  rw [mate_mate] at g2
  rw [h1, h2] at g1
  simp only [Int.toNat_natCast] at g1
  obtain ⟨c1, c2, c3, c4⟩ := hp (mate i) (by rw [hm]; exact mate_lt hi)
  have e1 : gn (gr (linkTo N E m).ends v) j = gn E (mate i) := congrArg Prod.fst g1
  have e2 : gp (gr (linkTo N E m).ends v) j = gp E (mate i) := congrArg Prod.snd g1
  unfold JoinOK PortOK
  rw [e1, e2, linkTo_len, linkTo_row]
  have e3 : gn (gr (linkTo N E m).ends (gn E (mate i)).toNat) (gp E (mate i)).toNat = gn E i := congrArg Prod.fst g2
  have e4 : gp (gr (linkTo N E m).ends (gn E (mate i)).toNat) (gp E (mate i)).toNat = gp E i := congrArg Prod.snd g2
  exact ⟨⟨c1, c2, c3, c4⟩, by rw [e3, h1], by rw [e4, h2]⟩

theorem row_ext_end {l l' : List (Int × Int)} (hl : l.length = l'.length) (h : ∀ j, j < l'.length → gn l j = gn l' j ∧ gp l j = gp l' j) : l = l' := by
  refine List.ext_getElem hl fun j h1 h2 => ?_
  obtain ⟨e1, e2⟩ := h j h2
  have f1 : gn l j = l[j].1 := by simp [gn, List.getD, h1]
  have f2 : gp l j = l[j].2 := by simp [gp, List.getD, h1]
  have f3 : gn l' j = l'[j].1 := by simp [gn, List.getD, h2]
  have f4 : gp l' j = l'[j].2 := by simp [gp, List.getD, h2]
  exact Prod.ext (by rw [← f1, ← f3, e1]) (by rw [← f2, ← f4, e2])
theorem linkTo_parts (N : Net) (E : List (Int × Int)) : ∀ m, (linkTo N E m).ids = N.ids ∧ (linkTo N E m).inputs = N.inputs
  | 0 => ⟨rfl, rfl⟩
  | m + 1 => linkTo_parts N E m
theorem mod_succ {s b : Nat} (h : s < b) : (s + 1) % b = if s + 1 = b then 0 else s + 1 := by
  by_cases e : s + 1 = b
  · rw [if_pos e, e, Nat.mod_self]
  · rw [if_neg e, Nat.mod_eq_of_lt (by omega)]
theorem mod_pred {s b : Nat} (h : s < b) : (s + b - 1) % b = if s = 0 then b - 1 else s - 1 := by
  by_cases e : s = 0
  · subst e
    rw [if_pos rfl, Nat.mod_eq_of_lt (by omega)]; omega
  · rw [if_neg e, show s + b - 1 = s - 1 + b by omega, Nat.add_mod_right, Nat.mod_eq_of_lt (by omega)]
theorem succ_pred {s b : Nat} (h : s < b) : ((s + b - 1) % b + 1) % b = s := by
  have h1 : (s + b - 1) % b < b := Nat.mod_lt _ (by omega)
  rw [mod_succ h1]
  rw [mod_pred h]
  split <;> split <;> omega
theorem pred_succ {s b : Nat} (h : s < b) : ((s + 1) % b + b - 1) % b = s := by
  have h1 : (s + 1) % b < b := Nat.mod_lt _ (by omega)
  rw [mod_pred h1, mod_succ h]
  split <;> split <;> omega
end Go.Proofs.Ytdcgpodjoalokaa
