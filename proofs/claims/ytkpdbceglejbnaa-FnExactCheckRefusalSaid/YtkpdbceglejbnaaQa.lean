/- What a port map is, as plain mathematics; the nodes that have one image. -/
import Derived.Test.YtkpdbceglejbnaaIb
namespace Go.Proofs.Ytkpdbceglejbnaa
open Go.RowKit

/-- A number is a node. -/
def NdIn (N : Net) (x : Int) : Prop := 0 ≤ x ∧ x < N.ends.length
/-- The ends of a row with the images of their nodes. -/
def under (m : List Int) (r : List (Int × Int)) : List (Int × Int) := r.map fun e => (gi m e.1.toNat, e.2)
theorem length_under (m : List Int) (r : List (Int × Int)) : (under m r).length = r.length := by simp [under]
theorem under_at (m : List Int) (r : List (Int × Int)) (i : Nat) (h : i < r.length) : gn (under m r) i = gi m (gn r i).toNat ∧ gp (under m r) i = gp r i := by
  simp [gn, gp, under, h]
def PmAt (A B : Net) (m : List Int) (v : Nat) : Prop := NdIn B (gi m v) ∧ gi A.inputs v = gi B.inputs (gi m v).toNat ∧ under m (gr A.ends v) = gr B.ends (gi m v).toNat
def PmOK (A B : Net) (m : List Int) : Prop := m.length = A.ends.length ∧ ∀ v, v < A.ends.length → PmAt A B m v
def TwoG (A B : Net) : Prop := Good A ∧ Good B
def PmAns (A B : Net) (m : List Int) : Prop := TwoG A B ∧ PmOK A B m
theorem pm_f {A B : Net} {m : List Int} (h : ¬ TwoG A B) : dec (PmAns A B m) = false := dec_false fun k => h k.1
theorem PmOK.node {A B : Net} {m : List Int} (h : PmOK A B m) {v : Nat} (hv : v < A.ends.length) : NdIn B (gi m v) := (h.2 v hv).1

/-- The first k nodes with the image w. -/
def fibTo (m : List Int) (w : Int) : Nat → List Int
  | 0 => []
  | k + 1 => if gi m k = w then fibTo m w k ++ [(k : Int)] else fibTo m w k
def fib (m : List Int) (w : Int) : List Int := fibTo m w m.length
theorem fibTo_len (m : List Int) (w : Int) : ∀ k, (fibTo m w k).length ≤ k
  | 0 => by simp [fibTo]
  | k + 1 => by
    have := fibTo_len m w k
    simp only [fibTo]; split
    · simp; omega
    · omega
theorem fibTo_mem (m : List Int) (w : Int) : ∀ (k : Nat) (x : Int), x ∈ fibTo m w k ↔ ∃ v : Nat, v < k ∧ x = (v : Int) ∧ gi m v = w
  | 0, x => by simp [fibTo]
  | k + 1, x => by
    have ih := fibTo_mem m w k x
    simp only [fibTo]; split
    · rename_i h
      rw [List.mem_append, ih]
      constructor
      · rintro (⟨v, a, b, c⟩ | a)
        · exact ⟨v, by omega, b, c⟩
        · exact ⟨k, by omega, by simpa using a, h⟩
      · rintro ⟨v, a, b, c⟩
        by_cases e : v = k
        · subst e; exact .inr (by simp [b])
        · exact .inl ⟨v, by omega, b, c⟩
    · rename_i h
      rw [ih]
      constructor
      · rintro ⟨v, a, b, c⟩; exact ⟨v, by omega, b, c⟩
      · rintro ⟨v, a, b, c⟩
        by_cases e : v = k
        · subst e; exact absurd c h
        · exact ⟨v, by omega, b, c⟩
theorem fibTo_yes {m : List Int} {w : Int} {k : Nat} (h : gi m k = w) : fibTo m w (k + 1) = fibTo m w k ++ [(k : Int)] := by simp [fibTo, h]
theorem fibTo_no {m : List Int} {w : Int} {k : Nat} (h : gi m k ≠ w) : fibTo m w (k + 1) = fibTo m w k := by simp [fibTo, h]
theorem fibTo_at {m : List Int} {w : Int} {k i : Nat} (h : i < (fibTo m w k).length) : ∃ v : Nat, v < k ∧ gi (fibTo m w k) i = (v : Int) ∧ gi m v = w := by
  obtain ⟨v, a, b, c⟩ := (fibTo_mem m w k _).1 (gi_in h)
  exact ⟨v, a, b, c⟩
/-- The fibres of all nodes. -/
def fibs (m : List Int) (n : Nat) : List (List Int) := (List.range n).map fun (w : Nat) => fib m (w : Int)
theorem length_fibs (m : List Int) (n : Nat) : (fibs m n).length = n := by simp [fibs]
theorem gr_fibs (m : List Int) (n w : Nat) (h : w < n) : gr (fibs m n) w = fib m (w : Int) := by simp [gr, fibs, h]
theorem fib_nonempty {m : List Int} {w : Int} : 0 < (fib m w).length ↔ ∃ v : Nat, v < m.length ∧ gi m v = w := by
  constructor
  · intro h
    obtain ⟨v, a, _, c⟩ := fibTo_at h
    exact ⟨v, a, c⟩
  · rintro ⟨v, a, c⟩
    have : (v : Int) ∈ fib m w := (fibTo_mem m w m.length _).2 ⟨v, a, rfl, c⟩
    exact List.length_pos_of_mem this
/-- The first node of a fibre is the least one. -/
theorem fibTo_first {m : List Int} {w : Int} : ∀ (k v : Nat), v < k → gi m v = w → (∀ u : Nat, u < v → gi m u ≠ w) → 0 < (fibTo m w k).length ∧ gi (fibTo m w k) 0 = (v : Int)
  | 0, v, h, _, _ => absurd h (by omega)
  | k + 1, v, h, hv, hb => by
    by_cases e : v = k
    · subst e
      have h0 : fibTo m w v = [] := by
        apply List.eq_nil_iff_forall_not_mem.2
        intro x hx
        obtain ⟨u, a, _, c⟩ := (fibTo_mem m w v x).1 hx
        exact hb u a c
      rw [fibTo_yes hv, h0]
      exact ⟨by simp, rfl⟩
    · obtain ⟨h1, h2⟩ := fibTo_first k v (by omega) hv hb
      by_cases hk : gi m k = w
      · rw [fibTo_yes hk]
        refine ⟨by simp, ?_⟩
        rw [← h2]
        simp only [gi, List.getD]
        rw [List.getElem?_append_left (by omega)]
      · rw [fibTo_no hk]; exact ⟨h1, h2⟩
end Go.Proofs.Ytkpdbceglejbnaa
