/- Two ends at once are appended to a row of a network in memory of its own, and the row is stored. -/
import Derived.Test.YtecdelmcnbgglaaCr
import Derived.Test.YtecdelmcnbgglaaGb
namespace Go.Proofs.Ytecdelmcnbgglaa
open Go.RowKit

theorem endCells_two (E : List (Int × Int)) (p q : Int × Int) : endCells (E ++ [p, q]) = endCells E ++ [.int .i64 p.1, .int .i64 p.2, .int .i64 q.1, .int .i64 q.2] := by
  rw [show E ++ [p, q] = (E ++ [p]) ++ [q] by simp, ← endCells_snoc, ← endCells_snoc]
  simp
theorem src_two2 (w : World) (x y z u : Value) (t : TypeId) (h1 : x.oneCell' = true) (h2 : y.oneCell' = true) (h3 : z.oneCell' = true) (h4 : u.oneCell' = true) : SrcAt (w.alloc (.cells #[x, y, z, u] t)) (some ⟨w.heap.size, 0, none⟩) 2 2 [x, y, z, u] := by
  refine ⟨rfl, fun h => by simp at h, fun ad e j c hc => ?_, fun c hc => by simp at hc; rcases hc with rfl | rfl | rfl | rfl <;> assumption⟩
  obtain rfl := Option.some.inj e
  rw [add_plain]
  match j with
  | 0 => simp at hc; subst hc; simp
  | 1 => simp at hc; subst hc; simp
  | 2 => simp at hc; subst hc; simp
  | 3 => simp at hc; subst hc; simp
  | j + 4 => simp at hc

def add2 (N : Net) (k : Nat) (p q : Int × Int) : Net := setRow N k (gr N.ends k ++ [p, q])
theorem end_grown2 {w w1 : World} {B : Nat} {v v' : Value} {l : List (Int × Int)} {t : List Nat} {p q : Int × Int} (ho : OwnE w v l t) (hp : PairsIn [p, q]) (hg : Grew2 w w1 B 53 2 v v' (l.length + 2) (endCells l ++ [.int .i64 p.1, .int .i64 p.2, .int .i64 q.1, .int .i64 q.2])) :
    ∃ cs, OwnE w1 v' (l ++ [p, q]) cs ∧ (∀ y ∈ cs, y ∈ t ∨ w.heap.size ≤ y) ∧ ∀ y, y < w.heap.size → y ∉ t → w1.heap[y]? = w.heap[y]? := by
  obtain ⟨⟨h1, h2, h3⟩, h4⟩ := hg
  rw [← endCells_two] at h1
  have hr : ∀ i, i < (l ++ [p, q]).length → inI64 (gn (l ++ [p, q]) i) ∧ inI64 (gp (l ++ [p, q]) i) := PairsIn.app (a := l) ho.2 hp
  obtain ⟨cs, k1, _, _⟩ := end_own_of_row (l := l ++ [p, q]) (by simpa using h1) (fun i hi => endCells_get _ i hi) hr
  refine ⟨cs, k1, fun y hy => ?_, fun y hy hyt => h2.block y hy fun e => hyt ((ho.1.block_mem y).1 e.symm)⟩
  rcases h4 y ((k1.1.block_mem y).2 hy) with h | h
  · exact .inl ((ho.1.block_mem y).1 h)
  · exact .inr h
structure Put2 (W w1 : World) (N : Net) (v0 v1 v2 v' : Value) (bs : List Nat) (b k : Nat) (x : Value) (p q : Int × Int) : Prop where
  form : ∃ a c, v' = .slice a ((gr N.ends k).length + 2) c
  cell : w1.cell? ⟨b, k, none⟩ = some x
  frozen : w1.frozen? ⟨b, k, none⟩ = false
  keep : ∀ y, y < W.heap.size → y ∉ bs → w1.heap[y]? = W.heap[y]? ∧ (w1.setCell ⟨b, k, none⟩ v').heap[y]? = W.heap[y]?
  ext : ∀ W0 : World, Ext W0 W → (∀ y ∈ bs, W0.heap.size ≤ y) → Ext W0 (w1.setCell ⟨b, k, none⟩ v')
  net : ∃ ds, OwnNet (w1.setCell ⟨b, k, none⟩ v') (.agg #[v0, v1, v2]) (add2 N k p q) ds ∧ ds.Nodup ∧ ∀ y ∈ ds, y ∈ bs ∨ W.heap.size ≤ y
theorem Put2.row {W w1 : World} {N : Net} {v0 v1 v2 v' : Value} {bs : List Nat} {b k : Nat} {x : Value} {p q : Int × Int} (h : Put2 W w1 N v0 v1 v2 v' bs b k x p q) {y t n : Nat} {f : Nat → Value} (hy : y ∉ bs) (hr : W.rowIs y t n f) : w1.rowIs y t n f ∧ (w1.setCell ⟨b, k, none⟩ v').rowIs y t n f :=
  ⟨hr.of_block (h.keep y hr.lt hy).1, hr.of_block (h.keep y hr.lt hy).2⟩
theorem At.put2 {W Wa w1 : World} {N : Net} {v0 v1 v2 : Value} {bs : List Nat} {b k : Nat} {x v' : Value} {t : List Nat} {p q : Int × Int} {B : Nat} (F : At W N v0 v1 v2 bs b k x t) (hWa : Ext W Wa) (hp : PairsIn [p, q])
    (hg : Grew2 Wa w1 B 53 2 x v' ((gr N.ends k).length + 2) (endCells (gr N.ends k) ++ [.int .i64 p.1, .int .i64 p.2, .int .i64 q.1, .int .i64 q.2])) : Put2 W w1 N v0 v1 v2 v' bs b k x p q := by
  obtain ⟨cs, g1, g2, g3⟩ := end_grown2 (F.row.ext hWa) hp hg
  have s2 := hWa.size
  have hlow : ∀ y, y < W.heap.size → y ∉ t → w1.heap[y]? = W.heap[y]? := fun y h h' => (g3 y (by omega) h').trans (hWa.block y h)
  have hbt : b ∉ t := fun h => (F.sub b h).2 rfl
  have hbW : b < W.heap.size := F.lt b F.mem
  refine ⟨?_, ?_, ?_, fun y hy hyb => ?_, fun W0 h0 hb => ?_, F.back w1 v' _ cs hlow g1 (fun y hy => ?_)⟩
  · obtain ⟨a, c, e⟩ := g1.1.slice; exact ⟨a, c, by simpa using e⟩
  · rw [World.cell?_of_block (w := W) (hlow b hbW hbt)]; exact F.cell
  · rw [World.frozen?_of_block (w := W) (hlow b hbW hbt)]; exact F.frozen
  · have h1 := hlow y hy (fun h => hyb (F.sub y h).1)
    exact ⟨h1, (Below.heap_setCell _ _ _ _ (fun (e : y = b) => hyb (by rw [e]; exact F.mem))).trans h1⟩
  · have hx : Ext W0 w1 := hg.1.ext (h0.trans' hWa) (fun y hy => hb y (F.sub y ((F.row.1.block_mem y).1 hy)).1)
    exact hx.store (hb b F.mem) _
  · rcases g2 y hy with h | h
    · exact .inl h
    · exact .inr (by omega)
theorem HNet.put2 {W0 wr w1 : World} {M : Net} {p : Nat} {v0 v1 v2 v' : Value} {bs : List Nat} {b k : Nat} {x : Value} {e f : Int × Int} (h : HNet W0 wr M p v0 v1 v2) (hp : p ∉ bs) (hge : ∀ y ∈ bs, W0.heap.size ≤ y ∧ y ≠ p) (P : Put2 wr w1 M v0 v1 v2 v' bs b k x e f) :
    HNet W0 (w1.setCell ⟨b, k, none⟩ v') (add2 M k e f) p v0 v1 v2 := by
  obtain ⟨ds, g1, g2, g3⟩ := P.net
  have hpw := h.box.lt
  have hex := h.ext.size
  refine ⟨P.ext W0 h.ext (fun y hy => (hge y hy).1), h.hp, (P.row hp h.box).2, ds, g1, g2, fun y hy => ?_⟩
  rcases g3 y hy with h1 | h1
  · exact hge y h1
  · exact ⟨by omega, by omega⟩

/-- Row v gets its ends step by step. -/
def cuRow (k : Nat) (l : List Int) (N : Net) (v : Nat) : Nat → Net
  | 0 => N
  | t + 1 => add2 (cuRow k l N v t) v (((v + stepAt l t) % k : Nat), ((2 * t + 1 : Nat) : Int)) (((v + k - stepAt l t) % k : Nat), ((2 * t : Nat) : Int))
def cuTo (k : Nat) (l : List Int) : Nat → Net
  | 0 => blank k 0
  | v + 1 => cuRow k l (cuTo k l v) v l.length
theorem cuRow_parts (k : Nat) (l : List Int) (N : Net) (v : Nat) : ∀ t, (cuRow k l N v t).ends.length = N.ends.length ∧ (cuRow k l N v t).ids = N.ids ∧ (cuRow k l N v t).inputs = N.inputs
  | 0 => ⟨rfl, rfl, rfl⟩
  | t + 1 => ⟨by rw [cuRow, add2, setRow_len]; exact (cuRow_parts k l N v t).1, (cuRow_parts k l N v t).2⟩
theorem cuRow_gr (k : Nat) (l : List Int) (N : Net) {v : Nat} (i : Nat) (hv : v < N.ends.length) : ∀ t, gr (cuRow k l N v t).ends i = if i = v then gr N.ends v ++ ciRow k l v t else gr N.ends i
  | 0 => by
    rw [cuRow, ciRow, List.append_nil]
    by_cases e : i = v
    · rw [if_pos e, e]
    · rw [if_neg e]
  | t + 1 => by
    rw [cuRow, add2, gr_setRow _ _ _ _ (by rw [(cuRow_parts k l N v t).1]; exact hv), cuRow_gr k l N v hv t, cuRow_gr k l N i hv t, if_pos rfl]
    by_cases e : i = v
    · rw [if_pos e, if_pos e, ciRow, ciEnds, List.append_assoc]
    · rw [if_neg e, if_neg e, if_neg e]
theorem cuTo_parts (k : Nat) (l : List Int) : ∀ v, (cuTo k l v).ends.length = k ∧ (cuTo k l v).ids = [] ∧ (cuTo k l v).inputs = List.replicate k 0
  | 0 => ⟨by simp [cuTo, blank], rfl, rfl⟩
  | v + 1 => by
    obtain ⟨a, b, c⟩ := cuRow_parts k l (cuTo k l v) v l.length
    obtain ⟨a', b', c'⟩ := cuTo_parts k l v
    exact ⟨a.trans a', b.trans b', c.trans c'⟩
theorem cuTo_gr {k i : Nat} (l : List Int) (hi : i < k) : ∀ v, v ≤ k → gr (cuTo k l v).ends i = if i < v then ciRow k l i l.length else []
  | 0, _ => by rw [cuTo, show gr (blank k 0).ends i = [] from gr_replicate _ _ _ hi]; simp
  | v + 1, hv => by
    rw [cuTo, cuRow_gr _ _ _ _ (by rw [(cuTo_parts k l v).1]; omega), cuTo_gr l (show v < k by omega) v (by omega), cuTo_gr l hi v (by omega), if_neg (Nat.lt_irrefl v), List.nil_append]
    by_cases e : i = v
    · subst e; rw [if_pos rfl, if_pos (by omega)]
    · by_cases h : i < v
      · rw [if_neg e, if_pos h, if_pos (by omega)]
      · rw [if_neg e, if_neg h, if_neg (by omega)]
theorem cuTo_all (k : Nat) (l : List Int) : cuTo k l k = ciNet k l := by
  refine net_ext (by rw [(cuTo_parts k l k).1]; simp [ciNet]) (fun v hv => ?_) (cuTo_parts k l k).2.1 (cuTo_parts k l k).2.2
  have hv' : v < k := by simpa [ciNet] using hv
  rw [cuTo_gr l hv' k (Nat.le_refl _), if_pos hv', ciNet_gr _ hv']
/-- Row v of the network under way has two ends for each step. -/
theorem cuRow_deg {k v : Nat} (l : List Int) (hv : v < k) (t : Nat) : (gr (cuRow k l (cuTo k l v) v t).ends v).length = 2 * t := by
  rw [cuRow_gr _ _ _ _ (by rw [(cuTo_parts k l v).1]; exact hv), if_pos rfl, cuTo_gr l hv v (by omega), if_neg (Nat.lt_irrefl v), List.nil_append, ciRow_len]
end Go.Proofs.Ytecdelmcnbgglaa
