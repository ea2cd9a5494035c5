/- Value programs as plain data: needs, heights, valid programs. -/
import Derived.Test.YtbddjejpacaglaaGreatDoorVpa
namespace Go.Proofs.YtbddjejpacaglaaGreatDoor
open Go.RowKit

/-- How many values an operation of a kind needs. -/
def nd (k : Int) : Nat := if k = 19 then 3 else if 13 ≤ k then 2 else if 11 ≤ k then 1 else 0
theorem nd_le (k : Int) : nd k ≤ 3 := by unfold nd; (repeat' split) <;> omega
theorem nd_le' (k : Int) : (nd k : Int) ≤ 3 := by have := nd_le k; omega

/-- An operation that may stand in a program. -/
def OpOK (x y : Int) : Prop := InB x 1 19 ∧ InB y 0 1000000 ∧ (x = 1 ∨ y = 0)
/-- How many values lie on the stack behind k operations. -/
def hg (l : List (Int × Int)) : Nat → Int
  | 0 => 0
  | k + 1 => hg l k + (1 - (nd (gn l k) : Int))
theorem hg_hi (l : List (Int × Int)) (k : Nat) : hg l k ≤ k := by
  induction k with
  | zero => simp [hg]
  | succ k ih => simp only [hg]; omega
theorem hg_lo (l : List (Int × Int)) (k : Nat) : -(2 * (k : Int)) ≤ hg l k := by
  induction k with
  | zero => simp [hg]
  | succ k ih => simp only [hg]; have := nd_le' (gn l k); omega
def OpAt (l : List (Int × Int)) (k : Nat) : Prop := OpOK (gn l k) (gp l k) ∧ (nd (gn l k) : Int) ≤ hg l k
def ProgOK (l : List (Int × Int)) : Prop := InB l.length 1 40 ∧ (∀ k, k < l.length → OpAt l k) ∧ hg l l.length = 1
/-- The first k operations are as a program wants them. -/
def OpsTo (l : List (Int × Int)) (k : Nat) : Prop := ∀ j, j < k → OpAt l j
theorem OpsTo.step {l : List (Int × Int)} {k : Nat} (h : OpsTo l k) (ha : OpAt l k) : OpsTo l (k + 1) := fun j hj => by
  by_cases e : j = k
  · subst e; exact ha
  · exact h j (by omega)
theorem not_prog_len {l : List (Int × Int)} (h : ¬ InB l.length 1 40) : ¬ ProgOK l := fun p => h p.1
theorem not_prog_at {l : List (Int × Int)} {k : Nat} (hk : k < l.length) (h : ¬ OpAt l k) : ¬ ProgOK l := fun p => h (p.2.1 k hk)
theorem prog_end {l : List (Int × Int)} (h : InB l.length 1 40) (ha : OpsTo l l.length) : ProgOK l ↔ hg l l.length = 1 := ⟨fun p => p.2.2, fun e => ⟨h, ha, e⟩⟩
end Go.Proofs.YtbddjejpacaglaaGreatDoor
