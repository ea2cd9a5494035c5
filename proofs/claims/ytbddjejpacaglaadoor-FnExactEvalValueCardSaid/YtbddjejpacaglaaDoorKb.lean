/- Several texts in one: Port, Reg, Mut, Good, Ne, Ne2, Agg, Oe, Oe2, App. -/
import Derived.Test.YtbddjejpacaglaaDoorKa
/- The contract of hasPort. -/
namespace Go.Proofs.YtbddjejpacaglaaDoor
open Go.RowKit

theorem Ext.drewN' {a b : World} (h : Ext a b) (n : Nat) : Ext a (b.drewN n) := ⟨h.os, h.tape, h.output, h.size, h.block⟩
def PortOK (l : List (List (Int × Int))) (x y : Int) : Prop := 0 ≤ x ∧ x < l.length ∧ 0 ≤ y ∧ y < (gr l x.toNat).length

end Go.Proofs.YtbddjejpacaglaaDoor

/- A region that draws its order is walked once, in the order of the text, where each of its operations yields one value in every world in which nothing that was there has changed. -/
namespace Go.Proofs.YtbddjejpacaglaaDoor
open Go.RowKit

/-- A world in which nothing of W has changed. -/
structure Wx (W : World) where
  w : World
  ok : Ext W w

instance (W : World) : Nonempty (Wx W) := ⟨⟨W, Ext.rfl' W⟩⟩
instance (W : World) : Inhabited (Wx W) := ⟨⟨W, Ext.rfl' W⟩⟩

theorem wp_region_ext {P : Program} {id : Nat} {Q : Exit → Act → World → Prop} {a : Act} {w : World} {l : List Oper} (hm : P.follows .mixedOrders = true) (hB : Region.lexB .any l.toArray = true)
    (h : wpQuiet P l.toArray (fun w' => ∃ x : Wx w, w' = x.w) (fun a' => ∀ w', (∃ x : Wx w, w' = x.w) → Q .normal a' w') l a) : (Code.region id l.toArray true).wp P Q a w :=
  wp_region_quiet (C := fun w' => ∃ x : Wx w, w' = x.w) hm hB ⟨⟨_, (Ext.rfl' w).drew'⟩, rfl⟩ (by simpa using h)

theorem in_ext {P : Program} {f : FuncId} {args : Array Value} {W : World} {x : Wx W} {v : Value}
    (h : Calls P f args x.w fun e w' => e = .returned v ∧ Ext x.w w') : Calls P f args x.w fun e w'' => e = .returned v ∧ ∃ y : Wx W, w'' = y.w :=
  h.mono fun _ w' ⟨he, hx⟩ => ⟨he, ⟨w', x.ok.trans' hx⟩, rfl⟩
theorem in_same {P : Program} {f : FuncId} {args : Array Value} {W : World} {x : Wx W} {v : Value}
    (h : Calls P f args x.w fun e w' => e = .returned v ∧ x.w = w') : Calls P f args x.w fun e w'' => e = .returned v ∧ ∃ y : Wx W, w'' = y.w :=
  h.mono fun _ _ ⟨he, hx⟩ => ⟨he, x, hx.symm⟩
theorem in_ext_bool {P : Program} {f : FuncId} {args : Array Value} {W : World} {x : Wx W} {b c : Bool}
    (h : Calls P f args x.w fun e w' => e = .returned (.bool b) ∧ Ext x.w w') (e : b = c) : Calls P f args x.w fun e w'' => e = .returned (.bool c) ∧ ∃ y : Wx W, w'' = y.w := by
  subst e; exact in_ext h
theorem in_same_bool {P : Program} {f : FuncId} {args : Array Value} {W : World} {x : Wx W} {b c : Bool}
    (h : Calls P f args x.w fun e w' => e = .returned (.bool b) ∧ x.w = w') (e : b = c) : Calls P f args x.w fun e w'' => e = .returned (.bool c) ∧ ∃ y : Wx W, w'' = y.w := by
  subst e; exact in_same h
end Go.Proofs.YtbddjejpacaglaaDoor

/- The contracts of isMutual and areMutualEnds. -/
namespace Go.Proofs.YtbddjejpacaglaaDoor
open Go.RowKit

def JoinOK (l : List (List (Int × Int))) (v i : Nat) : Prop :=
  PortOK l (gn (gr l v) i) (gp (gr l v) i) ∧ gn (gr l (gn (gr l v) i).toNat) (gp (gr l v) i).toNat = v ∧ gp (gr l (gn (gr l v) i).toNat) (gp (gr l v) i).toNat = i
def RowOK (l : List (List (Int × Int))) (v : Nat) : Prop := (gr l v).length ≤ 6 ∧ ∀ i, i < (gr l v).length → JoinOK l v i
def EndsOK (l : List (List (Int × Int))) : Prop := ∀ v, v < l.length → RowOK l v

theorem dec_eq_of {p : Prop} {b : Bool} (h1 : p → b = true) (h2 : ¬ p → b = false) : b = dec p := by
  by_cases h : p
  · rw [dec_true h, h1 h]
  · rw [dec_false h, h2 h]

end Go.Proofs.YtbddjejpacaglaaDoor

/- The contract of the program's own IsNetwork. -/
namespace Go.Proofs.YtbddjejpacaglaaDoor
open Go.RowKit

/-- What a network has to fulfil. -/
def Good (N : Net) : Prop := (1 ≤ N.ends.length ∧ N.ends.length ≤ 40) ∧ EndsOK N.ends ∧ IdsOK N.ids N.ends.length ∧ InputsOK N.inputs N.ends.length

end Go.Proofs.YtbddjejpacaglaaDoor

/- The contract of the model's neGood and IsNetwork. -/
namespace Go.Proofs.YtbddjejpacaglaaDoor
open Go.RowKit

/-- The world with a new block of three cells. -/
abbrev boxed (w : World) (v0 v1 v2 : Value) (t : Nat) : World := w.alloc (.cells #[v0, v1, v2] t)
theorem boxed_ext (w : World) (v0 v1 v2 : Value) (t : Nat) : Ext w (boxed w v0 v1 v2 t) := (Ext.rfl' w).alloc' _
theorem boxed_row (w : World) (v0 v1 v2 : Value) (t : Nat) : (boxed w v0 v1 v2 t).rowIs w.heap.size t 3 (tri v0 v1 v2) := row3_made w v0 v1 v2 t

theorem join_in {l : List (List (Int × Int))} {k j : Nat} (h : JoinOK l k j) : InB (gn (gr l k) j) 0 (l.length - 1) ∧ InB (gp (gr l k) j) 0 ((gr l (gn (gr l k) j).toNat).length - 1) := by
  obtain ⟨⟨a, b, c, d⟩, _⟩ := h
  exact ⟨⟨a, by omega⟩, ⟨c, by omega⟩⟩

end Go.Proofs.YtbddjejpacaglaaDoor

/- The contract of the model's neGood and IsNetwork. -/
namespace Go.Proofs.YtbddjejpacaglaaDoor
open Go.RowKit
end Go.Proofs.YtbddjejpacaglaaDoor

/- A network in memory of its own is written out; two copies are equal. -/
namespace Go.Proofs.YtbddjejpacaglaaDoor
open Go.RowKit

theorem OwnSl.isSlice {w : World} {v : Value} {n k t : Nat} {f : Nat → Value} {bs : List Nat} (h : OwnSl w v n k t f bs) : ∃ a c, v = .slice a n c := by
  obtain ⟨c, _, _, h3⟩ := h
  rcases h3 with ⟨rfl, _, a, _, rfl⟩ | ⟨b, m, g, _, rfl, _⟩
  · exact ⟨a, c, rfl⟩
  · exact ⟨_, c, rfl⟩
end Go.Proofs.YtbddjejpacaglaaDoor

/- Contracts of nePort and of both OtherEnd. -/
namespace Go.Proofs.YtbddjejpacaglaaDoor
open Go.RowKit

def OtherOK (N : Net) (v i : Int) : Prop := Good N ∧ PortOK N.ends v i

end Go.Proofs.YtbddjejpacaglaaDoor

/- Contracts of both OtherEnd: an end and true where the port exists, the zero end and false elsewhere. -/
namespace Go.Proofs.YtbddjejpacaglaaDoor
open Go.RowKit

/-- What OtherEnd answers. -/
def EndAns (N : Net) (v i : Int) (x y : Int) (b : Bool) : Prop :=
  (OtherOK N v i ∧ b = true ∧ x = gn (gr N.ends v.toNat) i.toNat ∧ y = gp (gr N.ends v.toNat) i.toNat) ∨ (¬ OtherOK N v i ∧ b = false ∧ x = 0 ∧ y = 0)
theorem EndAns.unique {N : Net} {v i x y x' y' : Int} {b b' : Bool} (h : EndAns N v i x y b) (h' : EndAns N v i x' y' b') : x = x' ∧ y = y' ∧ b = b' := by
  rcases h with ⟨h, rfl, rfl, rfl⟩ | ⟨h, rfl, rfl, rfl⟩ <;> rcases h' with ⟨h', rfl, rfl, rfl⟩ | ⟨h', rfl, rfl, rfl⟩ <;> first | exact ⟨rfl, rfl, rfl⟩ | exact absurd h h' | exact absurd h' h

end Go.Proofs.YtbddjejpacaglaaDoor

/- What is collected by append lies in memory of its own; the contract of neDegrees. -/
namespace Go.Proofs.YtbddjejpacaglaaDoor
open Go.RowKit

/-- What is collected by append is a slice of integers in memory of its own. -/
theorem own_of_row {w : World} {B : Nat} {v : Value} {l : List Int} {xs : List Value} (h : w.ownsRow B 3 1 v l.length xs) (hx : ∀ i, i < l.length → xs[i]? = some (.int .i64 (gi l i))) (hr : ∀ i, i < l.length → inI64 (gi l i)) :
    ∃ bs, OwnI w v l bs ∧ bs.Nodup ∧ ∀ b ∈ bs, B ≤ b := by
  obtain ⟨hl, h⟩ := h
  rcases h with ⟨rfl, hn⟩ | ⟨g, cap, cur, rfl, hb, hh, hc1, hc2, hs, ht⟩
  · exact ⟨[], ⟨⟨0, by omega, by unfold maxLen; omega, .inl ⟨hn, rfl, none, ⟨rfl, rfl⟩, rfl⟩⟩, hr⟩, List.nodup_nil, by simp⟩
  · refine ⟨[g], ⟨⟨cap, hc1, hc2, .inr ⟨g, cap, fun i => cur.getD i undef, rfl, rfl, by omega, ⟨cur, hh, by omega, fun i hi => ?_⟩, fun i hi => ?_⟩⟩, hr⟩, by simp, by simpa using hb⟩
    · have hlt : i < cur.size := by omega
      simp [hlt]
    · have e := hx i (by omega)
      rw [← ht, List.getElem?_take, if_pos (by omega)] at e
      have hlt : i < cur.size := by omega
      simp only [Array.getElem?_toList] at e
      simp [Array.getD, hlt]
      simpa [hlt] using e

theorem grown_ext {W w w' : World} {B : Nat} {v : Value} {n : Nat} {xs : List Value} {t k : Nat} (he : Ext W w) (hB : W.heap.size ≤ B) (ho : w.ownsRow B t k v n xs) (hg : w.grownBy w' v.ownBlock) : Ext W w' :=
  he.grown hg he.size fun k hk => Nat.le_trans hB (ho.lt k hk).1

def degs (N : Net) : List Int := N.ends.map fun r => (r.length : Int)
theorem gi_degs (N : Net) (i : Nat) (h : i < N.ends.length) : gi (degs N) i = ((gr N.ends i).length : Int) := by
  simp [gi, degs, gr, h]
/-- The first k degrees, as cells. -/
def degCells (N : Net) (k : Nat) : List Value := (List.range k).map fun j => .int .i64 ((gr N.ends j).length : Int)
theorem degCells_succ (N : Net) (k : Nat) : degCells N k ++ [.int .i64 ((gr N.ends k).length : Int)] = degCells N (k + 1) := by
  simp [degCells, List.range_succ]

theorem degCells_get (N : Net) (i : Nat) (h : i < N.ends.length) : (degCells N N.ends.length)[i]? = some (.int .i64 (gi (degs N) i)) := by
  rw [gi_degs N i h]
  simp [degCells, h]

end Go.Proofs.YtbddjejpacaglaaDoor
