/- Regular trees as plain data: nodes in the order in which they are reached, each with its children. -/
import Derived.Test.YtpkgghkibgadnaaEp
import Derived.Test.YtpkgghkibgadnaaKh
namespace Go.Proofs.Ytpkgghkibgadnaa
open Go.RowKit

/-- How many nodes but node 0 there are when the nodes ahead of v have their children. -/
def tcnt (d v : Nat) : Nat := if v = 0 then 0 else d + (v - 1) * (d - 1)
def tkid (d v : Nat) : Nat := if v = 0 then d else d - 1
/-- The parent of node k + 1. -/
def tpar (d k : Nat) : Nat := if k < d then 0 else 1 + (k - d) / (d - 1)
theorem tcnt_succ (d v : Nat) : tcnt d (v + 1) = tcnt d v + tkid d v := by
  unfold tcnt tkid
  by_cases h : v = 0
  · subst h; simp
  · rw [if_neg (by omega), if_neg h, if_neg h]
    obtain ⟨x, rfl⟩ : ∃ x, v = x + 1 := ⟨v - 1, by omega⟩
    simp only [Nat.add_sub_cancel]
    rw [Nat.add_mul, Nat.one_mul]
    omega
theorem tpar_at {d v t : Nat} (h : t < tkid d v) : tpar d (tcnt d v + t) = v := by
  unfold tkid at h
  unfold tcnt tpar
  by_cases hv : v = 0
  · subst hv
    rw [if_pos rfl] at h ⊢
    rw [if_pos (by omega)]
  · rw [if_neg hv] at h ⊢
    rw [if_neg (by omega)]
    obtain ⟨x, rfl⟩ : ∃ x, v = x + 1 := ⟨v - 1, by omega⟩
    simp only [Nat.add_sub_cancel]
    rw [show d + x * (d - 1) + t - d = t + x * (d - 1) by omega, Nat.add_mul_div_right _ _ (by omega), Nat.div_eq_of_lt h]
    omega
def treeE (d : Nat) : Nat → List (Int × Int)
  | 0 => []
  | k + 1 => treeE d k ++ [((tpar d k : Int), (k : Int) + 1)]
theorem treeE_len (d : Nat) : ∀ k, (treeE d k).length = k
  | 0 => rfl
  | k + 1 => by rw [treeE, List.length_append, treeE_len d k]; rfl
/-- The distances of the first k + 1 nodes. -/
def treeD (d : Nat) : Nat → List Int
  | 0 => [0]
  | k + 1 => treeD d k ++ [gi (treeD d k) (tpar d k) + 1]
theorem treeD_len (d : Nat) : ∀ k, (treeD d k).length = k + 1
  | 0 => rfl
  | k + 1 => by rw [treeD, List.length_append, treeD_len d k]; rfl
theorem gi_treeD_old (d k : Nat) {i : Nat} (h : i ≤ k) : gi (treeD d (k + 1)) i = gi (treeD d k) i := by
  rw [treeD]
  simp [gi, List.getD, List.getElem?_append_left (show i < (treeD d k).length by rw [treeD_len]; omega)]
theorem gi_treeD_new (d k : Nat) : gi (treeD d (k + 1)) (k + 1) = gi (treeD d k) (tpar d k) + 1 := by
  rw [treeD]
  simp [gi, List.getD, treeD_len]
theorem gi_treeD_le (d : Nat) {i : Nat} : ∀ m k, i ≤ k → gi (treeD d (k + m)) i = gi (treeD d k) i
  | 0, _, _ => rfl
  | m + 1, k, h => by rw [show k + (m + 1) = (k + m) + 1 by omega, gi_treeD_old d _ (by omega), gi_treeD_le d m k h]
theorem tree_fits : ∀ d, d ≤ 6 → ∀ k, k ≤ 39 → 1 ≤ d → (d = 1 → k ≤ 1) → edgesC (k + 1) (treeE d k) = true := by decide +kernel
/-- Whether the tree is a network, and how many edges it has: from node v on. -/
def treeRun (d : Nat) (depth : Int) : Nat → Nat → Option Nat
  | 0, _ => none
  | f + 1, v => if v < tcnt d v + 1 ∧ gi (treeD d (tcnt d v)) v < depth then (if 40 ≤ tcnt d (v + 1) then none else treeRun d depth f (v + 1)) else some (tcnt d v)
def treeAt (d : Nat) (depth : Int) (v : Nat) : Option Nat := treeRun d depth (41 - v) v
theorem treeAt_step {d : Nat} {depth : Int} {v : Nat} (hv : v ≤ 40) :
    treeAt d depth v = if v < tcnt d v + 1 ∧ gi (treeD d (tcnt d v)) v < depth then (if 40 ≤ tcnt d (v + 1) then none else treeAt d depth (v + 1)) else some (tcnt d v) := by
  unfold treeAt
  rw [show 41 - v = (41 - (v + 1)) + 1 by omega, treeRun]
theorem treeAt_le {d : Nat} {depth : Int} : ∀ f v k, treeRun d depth f v = some k → tcnt d v < 40 → k < 40
  | 0, _, _, h, _ => by simp [treeRun] at h
  | f + 1, v, k, h, h40 => by
    rw [treeRun] at h
    by_cases c : v < tcnt d v + 1 ∧ gi (treeD d (tcnt d v)) v < depth
    · rw [if_pos c] at h
      by_cases e : 40 ≤ tcnt d (v + 1)
      · rw [if_pos e] at h; exact absurd h (by simp)
      · rw [if_neg e] at h; exact treeAt_le f (v + 1) k h (by omega)
    · rw [if_neg c] at h
      have := Option.some.inj h
      omega
end Go.Proofs.Ytpkgghkibgadnaa
