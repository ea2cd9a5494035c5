/- What it means that a value reads in a world as a list of integers, of ends, of lists of ends, and as a network; and that such readings last when nothing that was there is changed. -/
import Derived.Test.YtndgbildkeglfaaProg
import Derived.WalkKit
import Derived.Lib.Hide
import Derived.WalkSpells
import Derived.WalkLawsBesides
import Derived.Deep.OwnRows
import Derived.Deep.LoopGhost
import Derived.Deep.Light
import Derived.Deep.QuietTactic
import Derived.BigQuiet
namespace Go.Proofs.Ytndgbildkeglfaa
open Go.RowKit

/-- Nothing that was there has changed. -/
abbrev Ext (w w' : World) : Prop := w.Since w.heap.size w'

theorem Ext.rfl' (w : World) : Ext w w := World.Since.refl _ _
theorem since_mono {B B' : Nat} {w w' : World} (h : w.Since B w') (hB : B' ≤ B) : w.Since B' w' := ⟨h.os, h.tape, h.output, h.size, fun k hk => h.block k (by omega)⟩
theorem Ext.trans' {a b c : World} (h : Ext a b) (k : Ext b c) : Ext a c := h.trans (since_mono k h.size)
theorem Ext.alloc' {a b : World} (h : Ext a b) (o : Obj) : Ext a (b.alloc o) := h.alloc h.size o
theorem Ext.drew' {a b : World} (h : Ext a b) : Ext a b.drew := h.drew
theorem Ext.store {a b : World} (h : Ext a b) {p : Addr} (hp : a.heap.size ≤ p.block) (v : Value) : Ext a (b.setCell p v) := h.setCell hp v
theorem Ext.cell' {w w' : World} (h : Ext w w') {p : Addr} {v : Value} (hc : w.cell? p = some v) : w'.cell? p = some v := by
  rw [h.cell (World.block_lt_of_cell? _ _ hc)]; exact hc

theorem row_ext {w w' : World} {b t n : Nat} {f : Nat → Value} (h : w.rowIs b t n f) (he : Ext w w') : w'.rowIs b t n f := h.of_block (he.block b h.lt)
/-- What a store of two cells needs. -/
theorem row_two {w : World} {b t n i : Nat} {f : Nat → Value} (h : w.rowIs b t n f) (hi : i + 1 < n) :
    w.cell? ⟨b, i, none⟩ = some (f i) ∧ w.frozen? ⟨b, i, none⟩ = false ∧ (∀ v, (w.setCell ⟨b, i, none⟩ v).cell? ⟨b, i + 1, none⟩ = some (f (i + 1))) ∧ (∀ v, (w.setCell ⟨b, i, none⟩ v).frozen? ⟨b, i + 1, none⟩ = false) :=
  ⟨h.cell (by omega), h.frozen _, fun v => by have := (h.set i v).cell hi; simpa using this, fun v => (h.set i v).frozen _⟩

/-- The value is a slice of n elements of one cell each, and element i is x with R i x. -/
def SlOf (w : World) (v : Value) (n : Nat) (R : Nat → Value → Prop) : Prop :=
  ∃ (a : Option Addr) (b o c : Nat), v = .slice a n c ∧ (0 < n → a = some ⟨b, o, none⟩) ∧ n ≤ c ∧ c ≤ maxLen ∧
    ∀ i, i < n → ∃ x, w.cell? ⟨b, o + i, none⟩ = some x ∧ R i x

theorem SlOf.mono {w w' : World} {v : Value} {n : Nat} {R R' : Nat → Value → Prop} (h : SlOf w v n R) (he : Ext w w') (hR : ∀ i x, i < n → R i x → R' i x) : SlOf w' v n R' := by
  obtain ⟨a, b, o, c, h1, h2, h3, h4, h5⟩ := h
  exact ⟨a, b, o, c, h1, h2, h3, h4, fun i hi => let ⟨x, hx, hr⟩ := h5 i hi; ⟨x, he.cell' hx, hR i x hi hr⟩⟩

/-- Element i of a list of numbers, of ends (its node, its port), of lists. -/
def gi (l : List Int) (i : Nat) : Int := l.getD i 0
def gn (l : List (Int × Int)) (i : Nat) : Int := (l.getD i (0, 0)).1
def gp (l : List (Int × Int)) (i : Nat) : Int := (l.getD i (0, 0)).2
def gr {α : Type} (l : List (List α)) (i : Nat) : List α := l.getD i []

def inI64 (x : Int) : Prop := -9223372036854775808 ≤ x ∧ x ≤ 9223372036854775807

def IntSl (w : World) (v : Value) (l : List Int) : Prop := SlOf w v l.length fun i x => x = .int .i64 (gi l i) ∧ inI64 (gi l i)

theorem IntSl.ext {w w' : World} {v : Value} {l : List Int} (h : IntSl w v l) (he : Ext w w') : IntSl w' v l := SlOf.mono h he fun _ _ _ hr => hr

/-- A slice of ends: two cells each. -/
def EndSl (w : World) (v : Value) (l : List (Int × Int)) : Prop :=
  ∃ (a : Option Addr) (b o c : Nat), v = .slice a l.length c ∧ (0 < l.length → a = some ⟨b, o, none⟩) ∧ l.length ≤ c ∧ c ≤ maxLen ∧
    ∀ i, i < l.length → w.cell? ⟨b, o + i * 2, none⟩ = some (.int .i64 (gn l i)) ∧ w.cell? ⟨b, o + i * 2 + 1, none⟩ = some (.int .i64 (gp l i)) ∧
      inI64 (gn l i) ∧ inI64 (gp l i)

theorem EndSl.ext {w w' : World} {v : Value} {l : List (Int × Int)} (h : EndSl w v l) (he : Ext w w') : EndSl w' v l := by
  obtain ⟨a, b, o, c, h1, h2, h3, h4, h5⟩ := h
  exact ⟨a, b, o, c, h1, h2, h3, h4, fun i hi => let ⟨p, q, r⟩ := h5 i hi; ⟨he.cell' p, he.cell' q, r⟩⟩

def EndSS (w : World) (v : Value) (l : List (List (Int × Int))) : Prop := SlOf w v l.length fun i x => EndSl w x (gr l i)

theorem EndSS.ext {w w' : World} {v : Value} {l : List (List (Int × Int))} (h : EndSS w v l) (he : Ext w w') : EndSS w' v l := SlOf.mono h he fun _ _ _ hr => hr.ext he

def IntSS (w : World) (v : Value) (l : List (List Int)) : Prop := SlOf w v l.length fun i x => IntSl w x (gr l i)

theorem IntSS.ext {w w' : World} {v : Value} {l : List (List Int)} (h : IntSS w v l) (he : Ext w w') : IntSS w' v l := SlOf.mono h he fun _ _ _ hr => hr.ext he

/-- A network as plain data. -/
structure Net where
  ends : List (List (Int × Int))
  ids : List Int
  inputs : List Int
deriving DecidableEq

def NetAt (w : World) (v : Value) (N : Net) : Prop :=
  ∃ v0 v1 v2, v = .agg #[v0, v1, v2] ∧ EndSS w v0 N.ends ∧ IntSl w v1 N.ids ∧ IntSl w v2 N.inputs

theorem NetAt.ext {w w' : World} {v : Value} {N : Net} (h : NetAt w v N) (he : Ext w w') : NetAt w' v N := by
  obtain ⟨v0, v1, v2, h1, h2, h3, h4⟩ := h
  exact ⟨v0, v1, v2, h1, h2.ext he, h3.ext he, h4.ext he⟩

/-- How many values a network holds. -/
def Net.small (N : Net) : Prop := N.ends.length ≤ 1048576 ∧ (∀ i, (gr N.ends i).length ≤ 1048576) ∧ N.ids.length ≤ 1048576 ∧ N.inputs.length ≤ 1048576

end Go.Proofs.Ytndgbildkeglfaa
