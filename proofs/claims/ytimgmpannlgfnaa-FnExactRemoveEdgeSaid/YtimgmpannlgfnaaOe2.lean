/- Contracts of both OtherEnd: an end and true where the port exists, the zero end and false elsewhere. -/
import Derived.Test.YtimgmpannlgfnaaOe
namespace Go.Proofs.Ytimgmpannlgfnaa
open Go.RowKit

/-- What OtherEnd answers. -/
def EndAns (N : Net) (v i : Int) (x y : Int) (b : Bool) : Prop :=
  (OtherOK N v i ∧ b = true ∧ x = gn (gr N.ends v.toNat) i.toNat ∧ y = gp (gr N.ends v.toNat) i.toNat) ∨ (¬ OtherOK N v i ∧ b = false ∧ x = 0 ∧ y = 0)
theorem EndAns.unique {N : Net} {v i x y x' y' : Int} {b b' : Bool} (h : EndAns N v i x y b) (h' : EndAns N v i x' y' b') : x = x' ∧ y = y' ∧ b = b' := by
  rcases h with ⟨h, rfl, rfl, rfl⟩ | ⟨h, rfl, rfl, rfl⟩ <;> rcases h' with ⟨h', rfl, rfl, rfl⟩ | ⟨h', rfl, rfl, rfl⟩ <;> first | exact ⟨rfl, rfl, rfl⟩ | exact absurd h h' | exact absurd h' h

end Go.Proofs.Ytimgmpannlgfnaa
