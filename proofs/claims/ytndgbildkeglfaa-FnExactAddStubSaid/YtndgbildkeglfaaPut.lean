/- One end is appended to a row of a network in memory of its own, and the row is stored: what the world is then. -/
import Derived.Test.YtndgbildkeglfaaStub
namespace Go.Proofs.Ytndgbildkeglfaa
open Go.RowKit

/-- Row k of the network at the value (v0, v1, v2) lies at x. -/
structure At (W : World) (N : Net) (v0 v1 v2 : Value) (bs : List Nat) (b k : Nat) (x : Value) (t : List Nat) : Prop where
  mem : b ∈ bs
  lt : ∀ y ∈ bs, y < W.heap.size
  cell : W.cell? ⟨b, k, none⟩ = some x
  frozen : W.frozen? ⟨b, k, none⟩ = false
  row : OwnE W x (gr N.ends k) t
  sub : ∀ y ∈ t, y ∈ bs ∧ y ≠ b
  back : ∀ (w' : World) (x' : Value) (r : List (Int × Int)) (cs : List Nat), (∀ y, y < W.heap.size → y ∉ t → w'.heap[y]? = W.heap[y]?) → OwnE w' x' r cs → (∀ y ∈ cs, y ∈ t ∨ W.heap.size ≤ y) →
        ∃ ds, OwnNet (w'.setCell ⟨b, k, none⟩ x') (.agg #[v0, v1, v2]) { N with ends := N.ends.set k r } ds ∧ ds.Nodup ∧ ∀ y ∈ ds, y ∈ bs ∨ W.heap.size ≤ y
theorem own_at {W : World} {v0 v1 v2 : Value} {N : Net} {bs : List Nat} (h : OwnNet W (.agg #[v0, v1, v2]) N bs) (hnd : bs.Nodup) {k : Nat} (hk : k < N.ends.length) :
    ∃ b c ax cx t, v0 = .slice (some ⟨b, 0, none⟩) N.ends.length c ∧ At W N v0 v1 v2 bs b k (.slice ax (gr N.ends k).length cx) t := by
  obtain ⟨b, c, x, t, hv, hb, hx, hfz, hE, ht, hback⟩ := h.focus hnd hk
  have hE' := hE
  obtain ⟨ax, cx, rfl⟩ := hE'.1.slice
  exact ⟨b, c, ax, cx, t, hv, ⟨hb, h.lt, hx, hfz, hE, ht, hback⟩⟩

structure Put (W w1 : World) (N : Net) (v0 v1 v2 v' : Value) (bs : List Nat) (b k : Nat) (x : Value) (p : Int × Int) : Prop where
  form : ∃ a c, v' = .slice a ((gr N.ends k).length + 1) c
  cell : w1.cell? ⟨b, k, none⟩ = some x
  frozen : w1.frozen? ⟨b, k, none⟩ = false
  keep : ∀ y, y < W.heap.size → y ∉ bs → w1.heap[y]? = W.heap[y]? ∧ (w1.setCell ⟨b, k, none⟩ v').heap[y]? = W.heap[y]?
  size : W.heap.size ≤ (w1.setCell ⟨b, k, none⟩ v').heap.size
  ext : ∀ W0 : World, Ext W0 W → (∀ y ∈ bs, W0.heap.size ≤ y) → Ext W0 (w1.setCell ⟨b, k, none⟩ v')
  net : ∃ ds, OwnNet (w1.setCell ⟨b, k, none⟩ v') (.agg #[v0, v1, v2]) (addEnd N k p) ds ∧ ds.Nodup ∧ ∀ y ∈ ds, y ∈ bs ∨ W.heap.size ≤ y
theorem Put.row {W w1 : World} {N : Net} {v0 v1 v2 v' : Value} {bs : List Nat} {b k : Nat} {x : Value} {p : Int × Int} (h : Put W w1 N v0 v1 v2 v' bs b k x p) {y t n : Nat} {f : Nat → Value} (hy : y ∉ bs) (hr : W.rowIs y t n f) : w1.rowIs y t n f ∧ (w1.setCell ⟨b, k, none⟩ v').rowIs y t n f :=
  ⟨hr.of_block (h.keep y hr.lt hy).1, hr.of_block (h.keep y hr.lt hy).2⟩

theorem At.put {W Wa w1 : World} {N : Net} {v0 v1 v2 : Value} {bs : List Nat} {b k : Nat} {x v' : Value} {t : List Nat} {p : Int × Int} {B : Nat} (F : At W N v0 v1 v2 bs b k x t) (hWa : Ext W Wa) (hp : inI64 p.1 ∧ inI64 p.2)
    (hg : Grew2 Wa w1 B 44 2 x v' ((gr N.ends k).length + 1) (endCells (gr N.ends k) ++ [.int .i64 p.1, .int .i64 p.2])) : Put W w1 N v0 v1 v2 v' bs b k x p := by
  obtain ⟨cs, g1, g2, g3⟩ := end_grown (F.row.ext hWa) hp hg
  have s2 := hWa.size
  have hlow : ∀ y, y < W.heap.size → y ∉ t → w1.heap[y]? = W.heap[y]? := fun y h h' => (g3 y (by omega) h').trans (hWa.block y h)
  have hbt : b ∉ t := fun h => (F.sub b h).2 rfl
  have hbW : b < W.heap.size := F.lt b F.mem
  refine ⟨?_, ?_, ?_, fun y hy hyb => ?_, ?_, fun W0 h0 hb => ?_, F.back w1 v' _ cs hlow g1 (fun y hy => ?_)⟩
  · obtain ⟨a, c, e⟩ := g1.1.slice; exact ⟨a, c, by simpa using e⟩
  · rw [World.cell?_of_block (w := W) (hlow b hbW hbt)]; exact F.cell
  · rw [World.frozen?_of_block (w := W) (hlow b hbW hbt)]; exact F.frozen
  · have h1 := hlow y hy (fun h => hyb (F.sub y h).1)
    exact ⟨h1, (Below.heap_setCell _ _ _ _ (fun (e : y = b) => hyb (by rw [e]; exact F.mem))).trans h1⟩
  · have := hg.1.2.2
    simp [World.setCell]
    omega
  · have hx : Ext W0 w1 := hg.1.ext (h0.trans' hWa) (fun y hy => hb y (F.sub y ((F.row.1.block_mem y).1 hy)).1)
    exact hx.store (hb b F.mem) _
  · rcases g2 y hy with h | h
    · exact .inl h
    · exact .inr (by omega)
end Go.Proofs.Ytndgbildkeglfaa
