/- Several texts in one: Stub, Put, Deg, Reg2, Near, Nb, As. -/
import Derived.Test.YtdcgpodjoalokaaKd
import Derived.Test.YtdcgpodjoalokaaKc
import Derived.Test.YtdcgpodjoalokaaKb
/- The contract of neStub: a copy of the network with one end more at a node. -/
namespace Go.Proofs.Ytdcgpodjoalokaa
open Go.RowKit

theorem endCells_snoc (l : List (Int × Int)) (p : Int × Int) : endCells l ++ [.int .i64 p.1, .int .i64 p.2] = endCells (l ++ [p]) := by
  refine List.ext_getElem? fun i => ?_
  have hL : (endCells l).length = l.length * 2 := by simp [endCells]
  have hL2 : (endCells (l ++ [p])).length = (l.length + 1) * 2 := by simp [endCells]
  by_cases h1 : i < l.length * 2
  · rw [List.getElem?_append_left (by omega), endCells_get l i h1, endCells_get (l ++ [p]) i (by simp; omega)]
    have e1 : gn (l ++ [p]) (i / 2) = gn l (i / 2) := by simp [gn, List.getD, List.getElem?_append_left (show i / 2 < l.length by omega)]
    have e2 : gp (l ++ [p]) (i / 2) = gp l (i / 2) := by simp [gp, List.getD, List.getElem?_append_left (show i / 2 < l.length by omega)]
    simp only [ecell, e1, e2]
  · rw [List.getElem?_append_right (by omega), hL]
    have e1 : gn (l ++ [p]) l.length = p.1 := by simp [gn, List.getD]
    have e2 : gp (l ++ [p]) l.length = p.2 := by simp [gp, List.getD]
    by_cases h2 : i = l.length * 2
    · subst h2
      rw [endCells_get (l ++ [p]) _ (by simp)]
      simp [ecell, e1]
    · by_cases h3 : i = l.length * 2 + 1
      · subst h3
        rw [endCells_get (l ++ [p]) _ (by simp; omega)]
        have h4 : (l.length * 2 + 1) / 2 = l.length := by omega
        have h5 : (l.length * 2 + 1) % 2 = 1 := by omega
        have h6 : l.length * 2 + 1 - l.length * 2 = 1 := by omega
        simp [ecell, h4, h5, h6, e2]
      · rw [List.getElem?_eq_none (by simp; omega), List.getElem?_eq_none (by omega)]
theorem OwnSl.block_mem {w : World} {v : Value} {n k t : Nat} {f : Nat → Value} {bs : List Nat} (h : OwnSl w v n k t f bs) : ∀ b, v.ownBlock = some b ↔ b ∈ bs := by
  obtain ⟨c, h1, h2, h3⟩ := h
  intro b
  rcases h3 with ⟨rfl, rfl, a, ⟨rfl, rfl⟩, rfl⟩ | ⟨b', m, g, rfl, rfl, hm, hr, hf⟩
  · simp [Value.ownBlock]
  · simp [Value.ownBlock, eq_comm]
/-- What append of one end onto a row in memory of its own gives. -/
theorem end_grown {w w1 : World} {B : Nat} {v v' : Value} {l : List (Int × Int)} {t : List Nat} {p : Int × Int} (ho : OwnE w v l t) (hp : inI64 p.1 ∧ inI64 p.2) (hg : Grew2 w w1 B 123 2 v v' (l.length + 1) (endCells l ++ [.int .i64 p.1, .int .i64 p.2])) :
    ∃ cs, OwnE w1 v' (l ++ [p]) cs ∧ (∀ y ∈ cs, y ∈ t ∨ w.heap.size ≤ y) ∧ ∀ y, y < w.heap.size → y ∉ t → w1.heap[y]? = w.heap[y]? := by
  obtain ⟨⟨h1, h2, h3⟩, h4⟩ := hg
  rw [endCells_snoc] at h1
  have hr : ∀ i, i < (l ++ [p]).length → inI64 (gn (l ++ [p]) i) ∧ inI64 (gp (l ++ [p]) i) := fun i hi => by
    by_cases e : i = l.length
    · subst e; simpa [gn, gp, List.getD] using hp
    · have hi' : i < l.length := by simp at hi; omega
      have := ho.2 i hi'
      simpa [gn, gp, List.getD, List.getElem?_append_left hi'] using this
  obtain ⟨cs, k1, _, _⟩ := end_own_of_row (l := l ++ [p]) (by simpa using h1) (fun i hi => endCells_get _ i hi) hr
  refine ⟨cs, k1, fun y hy => ?_, fun y hy hyt => h2.block y hy fun e => hyt ((ho.1.block_mem y).1 e.symm)⟩
  rcases h4 y ((k1.1.block_mem y).2 hy) with h | h
  · exact .inl ((ho.1.block_mem y).1 h)
  · exact .inr h

def addEnd (N : Net) (k : Nat) (p : Int × Int) : Net := { N with ends := N.ends.set k (gr N.ends k ++ [p]) }
theorem src_two (w : World) (x y : Value) (t : TypeId) (h1 : x.oneCell' = true) (h2 : y.oneCell' = true) : SrcAt (w.alloc (.cells #[x, y] t)) (some ⟨w.heap.size, 0, none⟩) 1 2 [x, y] := by
  refine ⟨rfl, fun h => by simp at h, fun ad e j u hu => ?_, fun u hu => by simp at hu; rcases hu with rfl | rfl <;> assumption⟩
  obtain rfl := Option.some.inj e
  rw [add_plain]
  match j with
  | 0 => simp at hu; subst hu; simp
  | 1 => simp at hu; subst hu; simp
  | j + 2 => simp at hu
theorem src_drew {w : World} {ao : Option Addr} {m k : Nat} {news : List Value} (h : SrcAt w ao m k news) : SrcAt w.drew ao m k news := ⟨h.1, h.2.1, fun ad e j u hu => by simpa using h.2.2.1 ad e j u hu, h.2.2.2⟩
/-- Where the row lies in the world at the append. -/
structure Focus (w2 W : World) (N : Net) (v0 v1 v2 : Value) (bs : List Nat) (b k : Nat) (x : Value) (t : List Nat) : Prop where
  ext : Ext w2 W
  mem : b ∈ bs
  lt : ∀ y ∈ bs, y < w2.heap.size
  row : OwnE w2 x (gr N.ends k) t
  sub : ∀ y ∈ t, y ∈ bs ∧ y ≠ b
  back : ∀ (w' : World) (x' : Value) (r : List (Int × Int)) (cs : List Nat), (∀ y, y < w2.heap.size → y ∉ t → w'.heap[y]? = w2.heap[y]?) → OwnE w' x' r cs → (∀ y ∈ cs, y ∈ t ∨ w2.heap.size ≤ y) →
        ∃ ds, OwnNet (w'.setCell ⟨b, k, none⟩ x') (.agg #[v0, v1, v2]) { N with ends := N.ends.set k r } ds ∧ ds.Nodup ∧ ∀ y ∈ ds, y ∈ bs ∨ w2.heap.size ≤ y
/-- .. and behind it. -/
theorem Focus.grown {w2 W Wa w1 : World} {N : Net} {v0 v1 v2 : Value} {bs : List Nat} {b k : Nat} {x v' : Value} {t : List Nat} {p : Int × Int} {B : Nat} (F : Focus w2 W N v0 v1 v2 bs b k x t) (hWa : Ext W Wa) (hp : inI64 p.1 ∧ inI64 p.2)
    (hg : Grew2 Wa w1 B 123 2 x v' ((gr N.ends k).length + 1) (endCells (gr N.ends k) ++ [.int .i64 p.1, .int .i64 p.2])) :
    (∀ y, y < W.heap.size → y ∉ t → w1.heap[y]? = W.heap[y]?) ∧ W.heap.size ≤ w1.heap.size ∧ (∃ a c, v' = .slice a ((gr N.ends k).length + 1) c) ∧
      (∀ W0 : World, Ext W0 W → (∀ y ∈ bs, W0.heap.size ≤ y) → Ext W0 (w1.setCell ⟨b, k, none⟩ v')) ∧
      ∃ ds, OwnNet (w1.setCell ⟨b, k, none⟩ v') (.agg #[v0, v1, v2]) (addEnd N k p) ds ∧ ds.Nodup ∧ ∀ y ∈ ds, y ∈ bs ∨ w2.heap.size ≤ y := by
  have XW := F.row.ext (F.ext.trans' hWa)
  obtain ⟨cs, g1, g2, g3⟩ := end_grown XW hp hg
  have s1 := F.ext.size
  have s2 := hWa.size
  have hlow : ∀ y, y < W.heap.size → y ∉ t → w1.heap[y]? = W.heap[y]? := fun y h h' => (g3 y (by omega) h').trans (hWa.block y h)
  refine ⟨hlow, by have := hg.1.2.2; omega, by obtain ⟨a, c, e⟩ := g1.1.slice; exact ⟨a, c, by simpa using e⟩, fun W0 h0 hb => ?_, F.back w1 v' _ cs (fun y hy hyt => (hlow y (by omega) hyt).trans (F.ext.block y hy)) g1 (fun y hy => ?_)⟩
  · have hx : Ext W0 w1 := hg.1.ext (h0.trans' hWa) (fun y hy => hb y (F.sub y ((F.row.1.block_mem y).1 hy)).1)
    exact hx.store (hb b F.mem) _
  · rcases g2 y hy with h | h
    · exact .inl h
    · exact .inr (by omega)

def stubNet (N : Net) (k : Nat) : Net := addEnd N k (k, (gr N.ends k).length)

end Go.Proofs.Ytdcgpodjoalokaa

/- One end is appended to a row of a network in memory of its own, and the row is stored: what the world is then. -/
namespace Go.Proofs.Ytdcgpodjoalokaa
open Go.RowKit

/-- Row k of the network at the value (v0, v1, v2) lies at x. -/
structure At (W : World) (N : Net) (v0 v1 v2 : Value) (bs : List Nat) (b k : Nat) (x : Value) (t : List Nat) : Prop where
  mem : b ∈ bs
  lt : ∀ y ∈ bs, y < W.heap.size
  cell : W.cell? ⟨b, k, none⟩ = some x
  frozen : W.frozen? ⟨b, k, none⟩ = false
  row : OwnE W x (gr N.ends k) t
  sub : ∀ y ∈ t, y ∈ bs ∧ y ≠ b
  back : ∀ (w' : World) (x' : Value) (r : List (Int × Int)) (cs : List Nat), (∀ y, y < W.heap.size → y ∉ t → w'.heap[y]? = W.heap[y]?) → OwnE w' x' r cs → (∀ y ∈ cs, y ∈ t ∨ W.heap.size ≤ y) →
        ∃ ds, OwnNet (w'.setCell ⟨b, k, none⟩ x') (.agg #[v0, v1, v2]) { N with ends := N.ends.set k r } ds ∧ ds.Nodup ∧ ∀ y ∈ ds, y ∈ bs ∨ W.heap.size ≤ y
theorem own_at {W : World} {v0 v1 v2 : Value} {N : Net} {bs : List Nat} (h : OwnNet W (.agg #[v0, v1, v2]) N bs) (hnd : bs.Nodup) {k : Nat} (hk : k < N.ends.length) :
    ∃ b c ax cx t, v0 = .slice (some ⟨b, 0, none⟩) N.ends.length c ∧ At W N v0 v1 v2 bs b k (.slice ax (gr N.ends k).length cx) t := by
  obtain ⟨b, c, x, t, hv, hb, hx, hfz, hE, ht, hback⟩ := h.focus hnd hk
  have hE' := hE
  obtain ⟨ax, cx, rfl⟩ := hE'.1.slice
  exact ⟨b, c, ax, cx, t, hv, ⟨hb, h.lt, hx, hfz, hE, ht, hback⟩⟩

structure Put (W w1 : World) (N : Net) (v0 v1 v2 v' : Value) (bs : List Nat) (b k : Nat) (x : Value) (p : Int × Int) : Prop where
  form : ∃ a c, v' = .slice a ((gr N.ends k).length + 1) c
  cell : w1.cell? ⟨b, k, none⟩ = some x
  frozen : w1.frozen? ⟨b, k, none⟩ = false
  keep : ∀ y, y < W.heap.size → y ∉ bs → w1.heap[y]? = W.heap[y]? ∧ (w1.setCell ⟨b, k, none⟩ v').heap[y]? = W.heap[y]?
  size : W.heap.size ≤ (w1.setCell ⟨b, k, none⟩ v').heap.size
  ext : ∀ W0 : World, Ext W0 W → (∀ y ∈ bs, W0.heap.size ≤ y) → Ext W0 (w1.setCell ⟨b, k, none⟩ v')
  net : ∃ ds, OwnNet (w1.setCell ⟨b, k, none⟩ v') (.agg #[v0, v1, v2]) (addEnd N k p) ds ∧ ds.Nodup ∧ ∀ y ∈ ds, y ∈ bs ∨ W.heap.size ≤ y
theorem Put.row {W w1 : World} {N : Net} {v0 v1 v2 v' : Value} {bs : List Nat} {b k : Nat} {x : Value} {p : Int × Int} (h : Put W w1 N v0 v1 v2 v' bs b k x p) {y t n : Nat} {f : Nat → Value} (hy : y ∉ bs) (hr : W.rowIs y t n f) : w1.rowIs y t n f ∧ (w1.setCell ⟨b, k, none⟩ v').rowIs y t n f :=
  ⟨hr.of_block (h.keep y hr.lt hy).1, hr.of_block (h.keep y hr.lt hy).2⟩

theorem At.put {W Wa w1 : World} {N : Net} {v0 v1 v2 : Value} {bs : List Nat} {b k : Nat} {x v' : Value} {t : List Nat} {p : Int × Int} {B : Nat} (F : At W N v0 v1 v2 bs b k x t) (hWa : Ext W Wa) (hp : inI64 p.1 ∧ inI64 p.2)
    (hg : Grew2 Wa w1 B 123 2 x v' ((gr N.ends k).length + 1) (endCells (gr N.ends k) ++ [.int .i64 p.1, .int .i64 p.2])) : Put W w1 N v0 v1 v2 v' bs b k x p := by
  obtain ⟨cs, g1, g2, g3⟩ := end_grown (F.row.ext hWa) hp hg
  have s2 := hWa.size
  have hlow : ∀ y, y < W.heap.size → y ∉ t → w1.heap[y]? = W.heap[y]? := fun y h h' => (g3 y (by omega) h').trans (hWa.block y h)
  have hbt : b ∉ t := fun h => (F.sub b h).2 rfl
  have hbW : b < W.heap.size := F.lt b F.mem
  refine ⟨?_, ?_, ?_, fun y hy hyb => ?_, ?_, fun W0 h0 hb => ?_, F.back w1 v' _ cs hlow g1 (fun y hy => ?_)⟩
  · obtain ⟨a, c, e⟩ := g1.1.slice; exact ⟨a, c, by simpa using e⟩
  · rw [World.cell?_of_block (w := W) (hlow b hbW hbt)]; exact F.cell
  · rw [World.frozen?_of_block (w := W) (hlow b hbW hbt)]; exact F.frozen
  · have h1 := hlow y hy (fun h => hyb (F.sub y h).1)
    exact ⟨h1, (Below.heap_setCell _ _ _ _ (fun (e : y = b) => hyb (by rw [e]; exact F.mem))).trans h1⟩
  · have := hg.1.2.2
    simp [World.setCell]
    omega
  · have hx : Ext W0 w1 := hg.1.ext (h0.trans' hWa) (fun y hy => hb y (F.sub y ((F.row.1.block_mem y).1 hy)).1)
    exact hx.store (hb b F.mem) _
  · rcases g2 y hy with h | h
    · exact .inl h
    · exact .inr (by omega)
end Go.Proofs.Ytdcgpodjoalokaa

/- Contracts of both DegreesOf. -/
namespace Go.Proofs.Ytdcgpodjoalokaa
open Go.RowKit

/-- The degrees where there is a network, nothing elsewhere. -/
noncomputable def degAns (N : Net) : List Int := if dec (Good N) = true then degs N else []
theorem degAns_t {N : Net} (h : Good N) : degAns N = degs N := by simp [degAns, dec_true h]
theorem degAns_f {N : Net} (h : ¬ Good N) : degAns N = [] := by simp [degAns, dec_false h]
theorem degAns_len (N : Net) : (degAns N).length ≤ 1048576 := by
  by_cases h : Good N
  · rw [degAns_t h]; have := h.1.2; simp [degs]; omega
  · rw [degAns_f h]; simp
theorem own_nil (w : World) : OwnI w (.slice none 0 0) [] [] := ⟨⟨0, Nat.le_refl _, by unfold maxLen; omega, .inl ⟨rfl, rfl, none, ⟨rfl, rfl⟩, rfl⟩⟩, fun i hi => absurd hi (by simp)⟩
theorem ret_sl {v : Value} {b c : Bool} (h : b = c) : Ending.returned (.tuple #[v, .bool b]) = .returned (.tuple #[v, .bool c]) := by rw [h]

/-- The first k degrees, the others zero. -/
def degRow (N : Net) (k : Nat) (i : Nat) : Value := if i < k then .int .i64 ((gr N.ends i).length : Int) else .int .i64 0

end Go.Proofs.Ytdcgpodjoalokaa

/- Contracts of both IsRegular. -/
namespace Go.Proofs.Ytdcgpodjoalokaa
open Go.RowKit

def RegOK (N : Net) (d : Int) : Prop := ∀ i, i < N.ends.length → ((gr N.ends i).length : Int) = d
theorem reg_iff (N : Net) (d : Int) : AllIn (degs N) d d ↔ RegOK N d := by
  have hdl : (degs N).length = N.ends.length := by simp [degs]
  refine ⟨fun h i hi => ?_, fun h i hi => ?_⟩
  · have := h i (by omega); rw [gi_degs N i hi] at this; omega
  · have := h i (by omega); rw [gi_degs N i (by omega)]; omega
def RegAns (N : Net) (d : Int) : Prop := Good N ∧ RegOK N d

theorem ret2_bool {a b c d : Bool} (h : a = c) (k : b = d) : Ending.returned (.tuple #[.bool a, .bool b]) = .returned (.tuple #[.bool c, .bool d]) := by rw [h, k]

end Go.Proofs.Ytdcgpodjoalokaa

/- Contracts of leadsTo and neNear. -/
namespace Go.Proofs.Ytdcgpodjoalokaa
open Go.RowKit

theorem gn_take {l : List (Int × Int)} {k j : Nat} (h : j < k) : gn (l.take k) j = gn l j := by simp [gn, h]
theorem gp_take {l : List (Int × Int)} {k j : Nat} (h : j < k) : gp (l.take k) j = gp l j := by simp [gp, h]
theorem EndSl.take {w : World} {a : Option Addr} {n c k : Nat} {l : List (Int × Int)} (h : EndSl w (.slice a n c) l) (hk : k ≤ l.length) : EndSl w (.slice a k c) (l.take k) := by
  obtain ⟨a', b, o, c', e, h2, h3, h4, h5⟩ := h
  cases e
  have hl : (l.take k).length = k := by simp; omega
  refine ⟨a, b, o, c, by rw [hl], fun h => h2 (by omega), by omega, h4, fun i hi => ?_⟩
  rw [gn_take (by omega), gp_take (by omega)]
  exact h5 i (by omega)

def Leads (l : List (Int × Int)) (x : Int) : Prop := ∃ j, j < l.length ∧ gn l j = x

def nears (l : List (Int × Int)) : List Int := l.map (·.1)
theorem gi_nears (l : List (Int × Int)) (i : Nat) (h : i < l.length) : gi (nears l) i = gn l i := by simp [gi, nears, gn, h]
theorem length_nears (l : List (Int × Int)) : (nears l).length = l.length := by simp [nears]
def nearCells (l : List (Int × Int)) (k : Nat) : List Value := (List.range k).map fun j => .int .i64 (gn l j)
theorem nearCells_succ (l : List (Int × Int)) (k : Nat) : nearCells l k ++ [.int .i64 (gn l k)] = nearCells l (k + 1) := by simp [nearCells, List.range_succ]
theorem nearCells_get (l : List (Int × Int)) (i : Nat) (h : i < l.length) : (nearCells l l.length)[i]? = some (.int .i64 (gi (nears l) i)) := by
  rw [gi_nears l i h]
  simp [nearCells, h]

end Go.Proofs.Ytdcgpodjoalokaa

/- Contracts of neNode, hasNode and both NeighboursOf. -/
namespace Go.Proofs.Ytdcgpodjoalokaa
open Go.RowKit

def NodeOK (N : Net) (x : Int) : Prop := 0 ≤ x ∧ x < N.ends.length
def NodeAns (N : Net) (x : Int) : Prop := Good N ∧ NodeOK N x

set_option maxRecDepth 100000 in
theorem hasNode_any {w : World} {v : Value} {N : Net} (x : Int) (h : NetAt w v N) :
    Calls Try.prog 183 #[v, .int .i64 x] w fun e w' => e = .returned (.bool (dec (NodeOK N x))) ∧ Ext w w' := by
  obtain ⟨v0, v1, v2, rfl, hE, hI, hP⟩ := h
  clear hI hP
  obtain ⟨a, b, o, c, rfl, ha, hl, hm, hc⟩ := hE
  unfold maxLen at hm
  clear ha hc
  have HX := Lib.hid (boxed_ext w (.slice a N.ends.length c) v1 v2 43)
  by_cases h1 : 0 ≤ x
  · by_cases h2 : x < N.ends.length
    · have HF := Lib.hid (show NodeOK N x from ⟨h1, h2⟩)
      go_enter Try.func183, Try.ntmps183
      go_wp2
      go_ret
      exact ⟨ret_t HF.out, HX.out⟩
    · have HF := Lib.hid (show ¬ NodeOK N x from fun h => h2 h.2)
      go_enter Try.func183, Try.ntmps183
      go_wp2
      go_ret
      exact ⟨ret_f HF.out, HX.out⟩
  · have HF := Lib.hid (show ¬ NodeOK N x from fun h => h1 h.1)
    go_enter Try.func183, Try.ntmps183
    go_wp2
    go_ret
    exact ⟨ret_f HF.out, HX.out⟩

noncomputable def nbAns (N : Net) (x : Int) : List Int := if dec (NodeAns N x) = true then nears (gr N.ends x.toNat) else []
theorem nbAns_t {N : Net} {x : Int} (h : NodeAns N x) : nbAns N x = nears (gr N.ends x.toNat) := by simp [nbAns, dec_true h]
theorem nbAns_f {N : Net} {x : Int} (h : ¬ NodeAns N x) : nbAns N x = [] := by simp [nbAns, dec_false h]
theorem nbAns_len (N : Net) (x : Int) : (nbAns N x).length ≤ 1048576 := by
  by_cases h : NodeAns N x
  · rw [nbAns_t h, length_nears]
    have := (h.1.2.1 x.toNat (by have := h.2.1; have := h.2.2; omega)).1
    omega
  · rw [nbAns_f h]; simp

end Go.Proofs.Ytdcgpodjoalokaa

/- The contracts of both AddStub. -/
namespace Go.Proofs.Ytdcgpodjoalokaa
open Go.RowKit

def StubB (N : Net) (x : Int) : Prop := NodeAns N x ∧ Good (stubNet N x.toNat)
noncomputable def stubAns (N : Net) (x : Int) : Net := if dec (StubB N x) = true then stubNet N x.toNat else zeroNet
theorem stubAns_t {N : Net} {x : Int} (h : StubB N x) : stubAns N x = stubNet N x.toNat := by simp [stubAns, dec_true h]
theorem stubAns_f {N : Net} {x : Int} (h : ¬ StubB N x) : stubAns N x = zeroNet := by simp [stubAns, dec_false h]
theorem stubAns_small (N : Net) (x : Int) : (stubAns N x).small := by
  by_cases h : StubB N x
  · rw [stubAns_t h]; exact good_small h.2
  · rw [stubAns_f h]; exact zero_small
theorem node_nat {N : Net} {x : Int} (h : NodeAns N x) : ∃ k : Nat, x = k ∧ k < N.ends.length := ⟨x.toNat, by have := h.2.1; omega, by have := h.2; unfold NodeOK at this; omega⟩

end Go.Proofs.Ytdcgpodjoalokaa
