/- What an isomorphism is, as plain mathematics. -/
import Derived.Test.YtcdfjckdkicggaaJm
import Derived.Test.YtcdfjckdkicggaaPm
namespace Go.Proofs.Ytcdfjckdkicggaa
open Go.RowKit

/-- The marks of a node and its image agree. -/
def IsoMk (A B : Net) (v : Nat) (w : Int) : Prop := (gr A.ends v).length = (rw' B w).length ∧ gi A.inputs v = gi B.inputs w.toNat ∧ idOf A v = idOf B w
/-- The i-th ends of a node and its image agree. -/
def IsoEnd (A B : Net) (f : List Int) (v : Nat) (w : Int) (i : Nat) : Prop := gi f (gn (gr A.ends v) i).toNat = gn (rw' B w) i ∧ gp (gr A.ends v) i = gp (rw' B w) i
def IsoAt (A B : Net) (f : List Int) (v : Nat) : Prop := IsoMk A B v (gi f v) ∧ ∀ i, i < (gr A.ends v).length → IsoEnd A B f v (gi f v) i
def IsoPm (A B : Net) (f : List Int) : Prop := A.ends.length = B.ends.length ∧ PermOK f A.ends.length
def IsoB (A B : Net) : Prop := Good A ∧ Good B
def IsoAns (A B : Net) (f : List Int) : Prop := IsoB A B ∧ IsoPm A B f ∧ ∀ v, v < A.ends.length → IsoAt A B f v
theorem ids_same {A B : Net} {f : List Int} (hA : GoodW A) (hB : GoodW B) (hp : IsoPm A B f) (h : IsoAt A B f 0) : A.ids.length = B.ids.length := by
  obtain ⟨k, hk, hkn⟩ := perm_range hp.2 (i := 0) hA.one
  have e := h.1.2.2
  have h1 := hp.1
  have a1 := hA.idl
  have b1 := hB.idl
  have a2 := hA.one
  rw [hk] at e
  unfold idOf at e
  by_cases ha : A.ids.length = 0
  · by_cases hb : B.ids.length = 0
    · omega
    · rw [if_pos ha, if_neg hb] at e
      have := (hB.idr k (by omega)).1
      rw [Int.toNat_natCast] at e
      omega
  · by_cases hb : B.ids.length = 0
    · rw [if_neg ha, if_pos hb] at e
      have := (hA.idr 0 (by omega)).1
      have e' : gi A.ids 0 = 0 := e
      omega
    · omega
end Go.Proofs.Ytcdfjckdkicggaa
