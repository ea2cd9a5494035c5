/- A region that draws its order is walked once, in the order of the text, where each of its operations yields one value in every world in which nothing that was there has changed. -/
import Derived.Test.YtndgbildkeglfaaPort
namespace Go.Proofs.Ytndgbildkeglfaa
open Go.RowKit

/-- A world in which nothing of W has changed. -/
structure Wx (W : World) where
  w : World
  ok : Ext W w

instance (W : World) : Nonempty (Wx W) := ⟨⟨W, Ext.rfl' W⟩⟩
instance (W : World) : Inhabited (Wx W) := ⟨⟨W, Ext.rfl' W⟩⟩

theorem wp_region_ext {P : Program} {id : Nat} {Q : Exit → Act → World → Prop} {a : Act} {w : World} {l : List Oper} (hm : P.follows .mixedOrders = true) (hB : Region.lexB .any l.toArray = true)
    (h : wpQuiet P l.toArray (fun w' => ∃ x : Wx w, w' = x.w) (fun a' => ∀ w', (∃ x : Wx w, w' = x.w) → Q .normal a' w') l a) : (Code.region id l.toArray true).wp P Q a w :=
  wp_region_quiet (C := fun w' => ∃ x : Wx w, w' = x.w) hm hB ⟨⟨_, (Ext.rfl' w).drew'⟩, rfl⟩ (by simpa using h)

theorem in_ext {P : Program} {f : FuncId} {args : Array Value} {W : World} {x : Wx W} {v : Value}
    (h : Calls P f args x.w fun e w' => e = .returned v ∧ Ext x.w w') : Calls P f args x.w fun e w'' => e = .returned v ∧ ∃ y : Wx W, w'' = y.w :=
  h.mono fun _ w' ⟨he, hx⟩ => ⟨he, ⟨w', x.ok.trans' hx⟩, rfl⟩
theorem in_same {P : Program} {f : FuncId} {args : Array Value} {W : World} {x : Wx W} {v : Value}
    (h : Calls P f args x.w fun e w' => e = .returned v ∧ x.w = w') : Calls P f args x.w fun e w'' => e = .returned v ∧ ∃ y : Wx W, w'' = y.w :=
  h.mono fun _ _ ⟨he, hx⟩ => ⟨he, x, hx.symm⟩
theorem in_ext_bool {P : Program} {f : FuncId} {args : Array Value} {W : World} {x : Wx W} {b c : Bool}
    (h : Calls P f args x.w fun e w' => e = .returned (.bool b) ∧ Ext x.w w') (e : b = c) : Calls P f args x.w fun e w'' => e = .returned (.bool c) ∧ ∃ y : Wx W, w'' = y.w := by
  subst e; exact in_ext h
theorem in_same_bool {P : Program} {f : FuncId} {args : Array Value} {W : World} {x : Wx W} {b c : Bool}
    (h : Calls P f args x.w fun e w' => e = .returned (.bool b) ∧ x.w = w') (e : b = c) : Calls P f args x.w fun e w'' => e = .returned (.bool c) ∧ ∃ y : Wx W, w'' = y.w := by
  subst e; exact in_same h
end Go.Proofs.Ytndgbildkeglfaa
