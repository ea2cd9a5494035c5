/- What lies in memory while the program reads a view. -/
import Derived.Test.YtdoaopeegcakiaaPvc
import Derived.Test.YtdoaopeegcakiaaIb
import Derived.ScopeJumps
import Derived.WalkMore
namespace Go.Proofs.Ytdoaopeegcakiaa
open Go.RowKit

theorem wp_scope_jumps3 {P : Program} {a : Act} {w : World} {Q : Exit → Act → World → Prop} {c X : Code} (l : Nat) (J : Act → World → Prop) (μ : Act → World → Nat) (hf : findLabel c l = some (Code.seq .skip X))
    (pass : ∀ a w, J a w → X.wp P (Exit.jump l (fun a' w' => J a' w' ∧ μ a' w' < μ a w) Q) a w)
    (first : (∀ a w, J a w → X.wp P (Exit.jump l J Q) a w) → c.wp P (Exit.jump l J Q) a w) : (Code.scope c).wp P Q a w := by
  refine wp_scope_jumps l J μ hf (first fun a w h => wp_mono (pass a w h) ?_) fun a w h => wp_seq (wp_skip (pass a w h))
  intro e a' w' hq
  cases e with
  | goto l' => exact ⟨hq.1, hq.2.1⟩
  | normal => exact hq
  | exit id => exact hq
  | ret => exact hq
  | panic ch => exact hq
  | outgrown => exact hq

def dI : Option Nat → Int
  | none => -1
  | some x => (x : Int)
def ints (L : List Nat) : List Int := L.reverse.map fun (m : Nat) => (m : Int)
theorem ints_len (L : List Nat) : (ints L).length = L.length := by simp [ints]
theorem ints_cons (m : Nat) (L : List Nat) : ints (m :: L) = ints L ++ [(m : Int)] := by simp [ints]
theorem ints_top (m : Nat) (L : List Nat) : gi (ints (m :: L)) L.length = (m : Int) := by
  rw [ints_cons]; simp [gi, List.getD, ints]
theorem ints_set (m k : Nat) (L : List Nat) : (intCells (ints (m :: L))).set L.length (.int .i64 k) = intCells (ints (k :: L)) := by
  rw [ints_cons, ints_cons, ← intCells_app, ← intCells_app]
  have h : (intCells (ints L)).length = L.length := by simp [intCells, ints]
  rw [← h, List.set_append_right _ _ (Nat.le_refl _), Nat.sub_self]
  rfl

/-- What lies in memory while a view is read. -/
structure DvMem (w0 : World) (L : List Nat) (r : Bs) (mv : Value) (w : World) : Prop where
  ext : Ext w0 w
  rd : RdS w w0.heap.size r
  grow : GrowN (w0.heap.size + 1) w mv (ints L)
  rl : r.length ≤ 4000
  pos : ∀ m ∈ L, 1 ≤ m ∧ m ≤ 6
  len : L.length ≤ 81
structure DvInv (s : Bs) (w0 : World) (L : List Nat) (r : Bs) (d : Option Nat) (mv : Value) (w : World) : Prop where
  mem : DvMem w0 L r mv w
  ans : KK r L d = KK s [] none
  dep : ∀ x, d = some x → x ≤ 80
theorem rd_grown {w w' : World} {rb : Nat} {r : Bs} {o : Option Nat} (h : RdS w rb r) (hg : w.grownBy w' o) (ho : o ≠ some rb) : RdS w' rb r :=
  World.rowIs.of_block h (hg.block rb (World.rowIs.lt h) fun e => ho e.symm)
theorem DvMem.chg {w0 w w' : World} {L : List Nat} {r r1 : Bs} {mv : Value} (h : DvMem w0 L r mv w) (hc : Chg w w' [w0.heap.size]) (hr : RdS w' w0.heap.size r1) (hl : r1.length ≤ r.length) : DvMem w0 L r1 mv w' := by
  have h4 := h.rl
  refine ⟨hc.ext h.ext (by simp), hr, h.grow.keep fun b hb => ?_, by omega, h.pos, h.len⟩
  have := h.grow.lt b hb
  exact hc.block b this.2 (by simp; omega)
theorem DvMem.chg_ext {w0 w w' : World} {L : List Nat} {r : Bs} {mv : Value} (h : DvMem w0 L r mv w) (hc : Chg w w' [w0.heap.size]) : Ext w0 w' := hc.ext h.ext (by simp)
theorem DvMem.off {w0 w : World} {L : List Nat} {r : Bs} {mv : Value} (h : DvMem w0 L r mv w) : mv.ownBlock ≠ some w0.heap.size := fun e => by have := (h.grow.lt _ e).1; omega
theorem DvMem.push {w0 w w3 : World} {L : List Nat} {r : Bs} {mv v' : Value} {m : Nat} (h : DvMem w0 L r mv w) (t : TypeId) (hm : 1 ≤ m ∧ m ≤ 6) (hl : L.length ≤ 80)
    (hg : Grew (w.alloc (.cells #[.int .i64 (m : Int)] t)) w3 (w0.heap.size + 1) 3 1 mv v' ((ints L).length + 1) (intCells (ints L) ++ intCells [(m : Int)])) : DvMem w0 (m :: L) r v' w3 := by
  have hx : Ext w (w.alloc (.cells #[.int .i64 (m : Int)] t)) := (Ext.rfl' w).alloc' _
  refine ⟨grown_ext (h.ext.trans' hx) (by omega) (h.grow.ext hx) hg.2.1, rd_grown (row_ext h.rd hx) hg.2.1 h.off, ?_, h.rl, fun x hx => ?_, by simp; omega⟩
  · rw [ints_cons]; exact GrowN.step hg rfl
  · rcases List.mem_cons.1 hx with rfl | hx
    · exact hm
    · exact h.pos x hx
theorem DvMem.dec {w0 w : World} {L : List Nat} {r : Bs} {g c m k : Nat} (h : DvMem w0 (m :: L) r (.slice (some ⟨g, 0, none⟩) (L.length + 1) c) w) :
    GrowN (w0.heap.size + 1) (w.setCell ⟨g, L.length, none⟩ (.int .i64 (k : Int))) (.slice (some ⟨g, 0, none⟩) (L.length + 1) c) (ints (k :: L)) ∧ RdS (w.setCell ⟨g, L.length, none⟩ (.int .i64 (k : Int))) w0.heap.size r ∧ Ext w0 (w.setCell ⟨g, L.length, none⟩ (.int .i64 (k : Int))) := by
  have hgr := h.grow
  unfold GrowN at hgr ⊢
  rw [ints_len, List.length_cons] at hgr ⊢
  obtain ⟨h1, h2⟩ := World.ownsRow.stored hgr L.length (.int .i64 (k : Int))
  rw [ints_set] at h1
  have := (h.grow.lt g rfl).1
  exact ⟨h1, rd_grown h.rd h2 (by simp; omega), h.ext.store (by simp; omega) _⟩
theorem DvMem.of_dec {w0 w W w' : World} {L : List Nat} {r r1 : Bs} {g c m k : Nat} (h : DvMem w0 (m :: L) r (.slice (some ⟨g, 0, none⟩) (L.length + 1) c) w) (hW : W = w.setCell ⟨g, L.length, none⟩ (.int .i64 (k : Int))) (hk : 1 ≤ k ∧ k ≤ 6) (hc : Chg W w' [w0.heap.size]) (hr : RdS w' w0.heap.size r1) (hl : r1.length ≤ r.length) :
    DvMem w0 (k :: L) r1 (.slice (some ⟨g, 0, none⟩) (L.length + 1) c) w' := by
  obtain ⟨a, b, d⟩ := h.dec (k := k)
  rw [← hW] at a b d
  refine DvMem.chg (r := r) ⟨d, b, a, h.rl, fun x hx => ?_, by have := h.len; simpa using this⟩ hc hr hl
  rcases List.mem_cons.1 hx with rfl | hx
  · exact hk
  · exact h.pos x (by simp [hx])
theorem DvMem.of_pop {w0 w W w' : World} {L : List Nat} {r r1 : Bs} {g c m : Nat} (h : DvMem w0 (m :: L) r (.slice (some ⟨g, 0, none⟩) (L.length + 1) c) w) (hW : W = w.setCell ⟨g, L.length, none⟩ (.int .i64 0)) (hc : Chg W w' [w0.heap.size]) (hr : RdS w' w0.heap.size r1) (hl : r1.length ≤ r.length) :
    DvMem w0 L r1 (.slice (some ⟨g, 0, none⟩) L.length c) w' := by
  obtain ⟨a, b, d⟩ := h.dec (k := 0)
  have hW' : W = w.setCell ⟨g, L.length, none⟩ (.int .i64 ((0 : Nat) : Int)) := hW
  rw [← hW'] at a b d
  have p : GrowN (w0.heap.size + 1) W (.slice (some ⟨g, 0, none⟩) L.length c) (ints L) := by
    unfold GrowN at a ⊢
    rw [ints_len] at a ⊢
    rw [ints_cons, ← intCells_app] at a
    exact ownsRow_pop (by simp [intCells, ints]) a
  exact DvMem.chg (r := r) ⟨d, b, p, h.rl, fun x hx => h.pos x (by simp [hx]), by have := h.len; simp at this; omega⟩ hc hr hl
theorem DvMem.at {w0 w : World} {L : List Nat} {r : Bs} {m : Nat} {mv : Value} (h : DvMem w0 (m :: L) r mv w) : ∃ g c, mv = .slice (some ⟨g, 0, none⟩) (L.length + 1) c ∧ L.length + 1 ≤ c ∧ c ≤ maxLen ∧ w.cell? ⟨g, L.length, none⟩ = some (.int .i64 (m : Int)) ∧ w.frozen? ⟨g, L.length, none⟩ = false ∧ g < w.heap.size ∧ ∀ v, (w.setCell ⟨g, L.length, none⟩ v).cell? ⟨g, L.length, none⟩ = some v := by
  obtain ⟨g, c, e, h1, h2, h3, h4, h5⟩ := h.grow.form (by rw [ints_len]; simp)
  rw [ints_len, List.length_cons] at e h1 h5
  subst e
  have hc := h5 L.length (by omega)
  rw [ints_top] at hc
  have hgr := h.grow
  unfold GrowN at hgr
  rw [ints_len, List.length_cons] at hgr
  refine ⟨g, c, rfl, h1, h2, hc, World.ownsRow.frozenAt hgr _, h4, fun v => ?_⟩
  have := (World.ownsRow.stored hgr L.length v).1
  have k := World.ownsRow.cellAt this L.length (by omega)
  rw [k, List.getElem?_set_self (by simp [intCells, ints])]

/-- How long the text in the block is. -/
def rdLen (rb : Nat) (w : World) : Nat := match w.cell? ⟨rb, 0, none⟩ with | some (.string b) => b.size | _ => 0
theorem RdS.len {w : World} {rb : Nat} {r : Bs} (h : RdS w rb r) : rdLen rb w = r.length := by
  unfold rdLen; rw [h.facts.1]; exact bs_size r

end Go.Proofs.Ytdoaopeegcakiaa
