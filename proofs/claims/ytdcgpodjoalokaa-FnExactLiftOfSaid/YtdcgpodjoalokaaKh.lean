/- Several texts in one: Hn, Rg, Mb, Bm. -/
import Derived.Test.YtdcgpodjoalokaaKg
import Derived.Test.YtdcgpodjoalokaaKf
import Derived.Deep.RegionWith
/- A network under construction in memory of its own, its box in another block: rows are stored; what networkOrNone and neIf answer for it. -/
namespace Go.Proofs.Ytdcgpodjoalokaa
open Go.RowKit

def setRow (N : Net) (k : Nat) (r : List (Int × Int)) : Net := { N with ends := N.ends.set k r }
theorem setRow_len (N : Net) (k : Nat) (r : List (Int × Int)) : (setRow N k r).ends.length = N.ends.length := by simp [setRow]
theorem gr_setRow (N : Net) (k i : Nat) (r : List (Int × Int)) (hk : k < N.ends.length) : gr (setRow N k r).ends i = if i = k then r else gr N.ends i := gr_set _ _ _ _ hk

/-- The network M lies at (v0, v1, v2), which stand in block p; all is new since W0. -/
structure HNet (W0 wr : World) (M : Net) (p : Nat) (v0 v1 v2 : Value) : Prop where
  ext : Ext W0 wr
  hp : W0.heap.size ≤ p
  box : wr.rowIs p 43 3 (tri v0 v1 v2)
  net : ∃ bs, OwnNet wr (.agg #[v0, v1, v2]) M bs ∧ bs.Nodup ∧ ∀ b ∈ bs, W0.heap.size ≤ b ∧ b ≠ p
theorem HNet.mono {W0 wr w' : World} {M : Net} {p : Nat} {v0 v1 v2 : Value} (h : HNet W0 wr M p v0 v1 v2) (hx : Ext wr w') : HNet W0 w' M p v0 v1 v2 := by
  obtain ⟨bs, h1, h2, h3⟩ := h.net
  exact ⟨h.ext.trans' hx, h.hp, row_ext h.box hx, bs, h1.ext hx, h2, h3⟩
/-- A network that a callee answered is stored in a new block. -/
theorem HNet.made {W0 w1 : World} {M : Net} {v0 v1 v2 : Value} {bs : List Nat} (hx : Ext W0 w1) (h : OwnNet w1 (.agg #[v0, v1, v2]) M bs) (hf : Fresh W0 bs) : HNet W0 (w1.alloc (.cells #[v0, v1, v2] 43)) M w1.heap.size v0 v1 v2 :=
  ⟨hx.alloc' _, hx.size, row3_made _ _ _ _ _, bs, h.ext ((Ext.rfl' _).alloc' _), hf.1, fun b hb => ⟨hf.2 b hb, by have := h.lt b hb; omega⟩⟩
/-- .. or over the elder one. -/
theorem HNet.over {W0 wr w1 : World} {M M' : Net} {p : Nat} {y0 y1 y2 v0 v1 v2 : Value} {bs : List Nat} (h : HNet W0 wr M p y0 y1 y2) (hx : Ext wr w1) (ho : OwnNet w1 (.agg #[v0, v1, v2]) M' bs) (hf : Fresh wr bs) :
    HNet W0 (((w1.setCell ⟨p, 0, none⟩ v0).setCell ⟨p, 1, none⟩ v1).setCell ⟨p, 2, none⟩ v2) M' p v0 v1 v2 := by
  have hlt := h.box.lt
  have hs := h.ext.size
  have hst : ∀ (wx : World) (q : Addr) (z : Value), q.block = p → ∀ b ∈ bs, (wx.setCell q z).heap[b]? = wx.heap[b]? := fun wx q z hq b hb => Below.heap_setCell _ _ _ _ (by have := hf.2 b hb; omega)
  exact ⟨store3_ext (h.ext.trans' hx) h.hp _ _ _, h.hp, row3_set2 (row3_set1 (row3_set0 (row_ext h.box hx) _) _) _, bs, ((ho.keep (hst _ _ _ rfl)).keep (hst _ _ _ rfl)).keep (hst _ _ _ rfl), hf.1, fun b hb => by have := hf.2 b hb; omega⟩

theorem HNet.row {W0 wr : World} {M : Net} {p : Nat} {v0 v1 v2 : Value} (h : HNet W0 wr M p v0 v1 v2) {k : Nat} (hk : k < M.ends.length) :
    ∃ b c ax cx, v0 = .slice (some ⟨b, 0, none⟩) M.ends.length c ∧ wr.cell? ⟨b, k, none⟩ = some (.slice ax (gr M.ends k).length cx) ∧ wr.frozen? ⟨b, k, none⟩ = false ∧ W0.heap.size ≤ b ∧ b ≠ p ∧ b < wr.heap.size ∧
      ∀ (wx : World) (x' : Value) (r : List (Int × Int)) (cs : List Nat), Ext wr wx → OwnE wx x' r cs → (∀ y ∈ cs, wr.heap.size ≤ y) → HNet W0 (wx.setCell ⟨b, k, none⟩ x') (setRow M k r) p v0 v1 v2 := by
  obtain ⟨bs, ho, hnd, hge⟩ := h.net
  obtain ⟨b, c, x, t, hv, hb, hx, hf, hE, ht, hback⟩ := ho.focus hnd hk
  have hE' := hE
  obtain ⟨ax, cx, rfl⟩ := hE'.1.slice
  refine ⟨b, c, ax, cx, hv, hx, hf, (hge b hb).1, (hge b hb).2, ho.lt b hb, fun wx x' r cs hxx hr hcs => ?_⟩
  obtain ⟨ds, g1, g2, g3⟩ := hback wx x' r cs (fun y hy _ => hxx.block y hy) hr (fun y hy => .inr (hcs y hy))
  have hpw := h.box.lt
  have hex := h.ext.size
  refine ⟨(h.ext.trans' hxx).store (hge b hb).1 _, h.hp, (row_ext h.box hxx).of_block (Below.heap_setCell _ _ _ _ (fun e => (hge b hb).2 e.symm)), ds, g1, g2, fun y hy => ?_⟩
  rcases g3 y hy with h1 | h1
  · exact hge y h1
  · exact ⟨by omega, by omega⟩
theorem HNet.form {W0 wr : World} {M : Net} {p : Nat} {v0 v1 v2 : Value} (h : HNet W0 wr M p v0 v1 v2) : ∃ a0 c0 a1 c1 a2 c2, v0 = .slice a0 M.ends.length c0 ∧ v1 = .slice a1 M.ids.length c1 ∧ v2 = .slice a2 M.inputs.length c2 := by
  obtain ⟨bs, ho, _⟩ := h.net
  obtain ⟨a0, c0, a1, c1, a2, c2, e⟩ := ho.agg
  exact ⟨a0, c0, a1, c1, a2, c2, by simpa using e⟩

/-- The network is stored as the result, in block q. -/
theorem close_at {w wk : World} {x0 x1 x2 : Value} {M : Net} {ds : List Nat} {q : Nat} (K : Ext w wk) (hq : w.heap.size ≤ q) (O : OwnNet wk (.agg #[x0, x1, x2]) M ds) (hn : ds.Nodup) (hb : ∀ b ∈ ds, w.heap.size ≤ b ∧ b ≠ q) :
    Ext w (((wk.setCell ⟨q, 0, none⟩ x0).setCell ⟨q, 1, none⟩ x1).setCell ⟨q, 2, none⟩ x2) ∧
      OwnNet (((wk.setCell ⟨q, 0, none⟩ x0).setCell ⟨q, 1, none⟩ x1).setCell ⟨q, 2, none⟩ x2) (.agg #[x0, x1, x2]) M ds ∧ Fresh w ds := by
  have hst : ∀ (wx : World) (p : Addr) (z : Value), p.block = q → ∀ b ∈ ds, (wx.setCell p z).heap[b]? = wx.heap[b]? := fun wx p z hp b hb' => Below.heap_setCell _ _ _ _ (by have := hb b hb'; omega)
  exact ⟨store3_ext K hq _ _ _, ((O.keep (hst _ _ _ rfl)).keep (hst _ _ _ rfl)).keep (hst _ _ _ rfl), hn, fun b hb' => (hb b hb').1⟩

/-- The network itself where it is one, and else the empty one. -/
noncomputable def goodOr (N : Net) : Net := if dec (Good N) = true then N else zeroNet
theorem goodOr_t {N : Net} (h : Good N) : goodOr N = N := by simp [goodOr, dec_true h]
theorem goodOr_f {N : Net} (h : ¬ Good N) : goodOr N = zeroNet := by simp [goodOr, dec_false h]
theorem goodOr_small (N : Net) : (goodOr N).small := by
  by_cases h : Good N
  · rw [goodOr_t h]; exact good_small h
  · rw [goodOr_f h]; exact zero_small

theorem orNone_any {w : World} {v : Value} {N : Net} {bs : List Nat} (h : OwnNet w v N bs) (hnd : bs.Nodup) :
    Calls Try.prog 119 #[v] w fun e w' => ∃ a0 c0 a1 c1 a2 c2 cs, e = .returned (.tuple #[.agg #[.slice a0 (goodOr N).ends.length c0, .slice a1 (goodOr N).ids.length c1, .slice a2 (goodOr N).inputs.length c2], .bool (dec (Good N))]) ∧ Ext w w' ∧
      OwnNet w' (.agg #[.slice a0 (goodOr N).ends.length c0, .slice a1 (goodOr N).ids.length c1, .slice a2 (goodOr N).inputs.length c2]) (goodOr N) cs ∧ cs.Nodup ∧ ∀ b ∈ cs, b ∈ bs := by
  by_cases hg : Good N
  · rw [dec_true hg, goodOr_t hg]
    obtain ⟨a0, c0, a1, c1, a2, c2, rfl⟩ := h.agg
    exact (networkOrNone_t h.read hg).mono fun e w' ⟨he, hx⟩ => ⟨a0, c0, a1, c1, a2, c2, bs, he, hx, h.ext hx, hnd, fun b hb => hb⟩
  · rw [dec_false hg, goodOr_f hg]
    exact (networkOrNone_f h.read hg).mono fun e w' ⟨he, hx⟩ => ⟨none, 0, none, 0, none, 0, [], he, hx, own_zero w', by simp, by simp⟩
end Go.Proofs.Ytdcgpodjoalokaa

/- The contract of regularNetwork: the network of the edges where it is one. The ports must be there. -/
namespace Go.Proofs.Ytdcgpodjoalokaa
open Go.RowKit

def Made (W0 : World) (n p eb ib : Nat) (wx : World) : Prop := Ext W0 wx ∧ W0.heap.size ≤ p ∧ W0.heap.size ≤ eb ∧ W0.heap.size ≤ ib ∧ eb ≠ ib ∧ p ≠ eb ∧ p ≠ ib ∧
  wx.rowIs p 43 3 (tri (.slice (some ⟨eb, 0, none⟩) n n) (.slice none 0 0) (.slice (some ⟨ib, 0, none⟩) n n)) ∧ wx.rowIs eb 89 n (fun _ => .slice none 0 0) ∧ wx.rowIs ib 3 n (fun _ => .int .i64 0)
theorem three (w : World) (o1 o2 o3 : Obj) : (((w.alloc o1).alloc o2).alloc o3).drew.heap[w.heap.size]? = some o1 ∧ (((w.alloc o1).alloc o2).alloc o3).drew.heap[w.heap.size + 1]? = some o2 ∧ (((w.alloc o1).alloc o2).alloc o3).drew.heap[w.heap.size + 1 + 1]? = some o3 := by
  have hs : ∀ (z : World) (o : Obj), (z.alloc o).heap.size = z.heap.size + 1 := fun z o => World.size_alloc _ _
  have old : ∀ (z : World) (o : Obj) (k : Nat), k < z.heap.size → (z.alloc o).heap[k]? = z.heap[k]? := fun z o k hk => ((Ext.rfl' z).alloc' o).block k hk
  have h1 : (w.alloc o1).heap[w.heap.size]? = some o1 := Go.Deep.blk_alloc_new _ _
  have h2 : ((w.alloc o1).alloc o2).heap[w.heap.size + 1]? = some o2 := by have := Go.Deep.blk_alloc_new (w.alloc o1) o2; rwa [hs] at this
  have h3 : (((w.alloc o1).alloc o2).alloc o3).heap[w.heap.size + 1 + 1]? = some o3 := by have := Go.Deep.blk_alloc_new ((w.alloc o1).alloc o2) o3; rwa [hs, hs] at this
  refine ⟨?_, ?_, ?_⟩
  · show (((w.alloc o1).alloc o2).alloc o3).heap[w.heap.size]? = _
    rw [old _ _ _ (by rw [hs, hs]; omega), old _ _ _ (by rw [hs]; omega)]; exact h1
  · show (((w.alloc o1).alloc o2).alloc o3).heap[w.heap.size + 1]? = _
    rw [old _ _ _ (by rw [hs, hs]; omega)]; exact h2
  · exact h3
theorem made_of {W0 wx : World} {n p eb ib : Nat} (hx : Ext W0 wx) (hp : W0.heap.size ≤ p) (he : W0.heap.size ≤ eb) (hi : W0.heap.size ≤ ib) (h4 : eb ≠ ib) (h5 : p ≠ eb) (h6 : p ≠ ib)
    (h1 : wx.heap[p]? = some (.cells #[.slice (some ⟨eb, 0, none⟩) n n, .slice none 0 0, .slice (some ⟨ib, 0, none⟩) n n] 43)) (h2 : wx.heap[eb]? = some (.cells (madeCells #[.slice none 0 0] n) 89)) (h3 : wx.heap[ib]? = some (.cells (madeCells #[.int .i64 0] n) 3)) :
    Made W0 n p eb ib wx :=
  ⟨hx, hp, he, hi, h4, h5, h6, ⟨_, h1, rfl, fun i hi => by match i, hi with | 0, _ => rfl | 1, _ => rfl | 2, _ => rfl⟩, row_nils h2, row_zeros h3⟩
theorem Made.held {W0 wx : World} {n p eb ib : Nat} (h : Made W0 n p eb ib wx) (hn : n ≤ 1048576) : HNet W0 wx (blank n 0) p (.slice (some ⟨eb, 0, none⟩) n n) (.slice none 0 0) (.slice (some ⟨ib, 0, none⟩) n n) := by
  obtain ⟨h1, h2, h3, h4, h5, h6, h7, h8, h9, h10⟩ := h
  exact ⟨h1, h2, h8, [eb, ib], own_blank0 h9 h10 hn, by simpa using h5, fun b hb => by simp at hb; rcases hb with rfl | rfl <;> omega⟩

/-- The first k rows have got their d ports. -/
def rowsTo (n d : Nat) : Nat → Net
  | 0 => blank n 0
  | k + 1 => setRow (rowsTo n d k) k (List.replicate d (0, 0))
theorem rowsTo_len (n d : Nat) : ∀ k, (rowsTo n d k).ends.length = n
  | 0 => by simp [rowsTo, blank]
  | k + 1 => by rw [rowsTo, setRow_len, rowsTo_len]
theorem rowsTo_parts (n d : Nat) : ∀ k, (rowsTo n d k).ids = [] ∧ (rowsTo n d k).inputs = List.replicate n 0
  | 0 => ⟨rfl, rfl⟩
  | k + 1 => rowsTo_parts n d k
theorem rowsTo_gr (n d i : Nat) (hi : i < n) : ∀ k, gr (rowsTo n d k).ends i = if i < k then List.replicate d (0, 0) else []
  | 0 => by rw [rowsTo, show gr (blank n 0).ends i = [] from gr_replicate _ _ _ hi]; simp
  | k + 1 => by
    by_cases hk : k < n
    · rw [rowsTo, gr_setRow _ _ _ _ (by rw [rowsTo_len]; exact hk), rowsTo_gr n d i hi k]
      by_cases e : i = k
      · rw [if_pos e, if_pos (by omega)]
      · by_cases h : i < k
        · rw [if_neg e, if_pos h, if_pos (by omega)]
        · rw [if_neg e, if_neg h, if_neg (by omega)]
    · have e : (rowsTo n d (k + 1)).ends = (rowsTo n d k).ends := List.set_eq_of_length_le (by rw [rowsTo_len]; omega)
      rw [e, rowsTo_gr n d i hi k, if_pos (by omega), if_pos (by omega)]
theorem net_ext {M N : Net} (h1 : M.ends.length = N.ends.length) (h2 : ∀ i, i < N.ends.length → gr M.ends i = gr N.ends i) (h3 : M.ids = N.ids) (h4 : M.inputs = N.inputs) : M = N := by
  obtain ⟨E, D, I⟩ := M
  obtain ⟨E', D', I'⟩ := N
  simp only at h1 h2 h3 h4
  subst h3 h4
  congr 1
  refine List.ext_getElem h1 fun i h5 h6 => ?_
  have := h2 i h6
  simpa [gr, List.getD, h5, h6] using this
theorem rowsTo_all (n d : Nat) : rowsTo n d n = blank n d := by
  refine net_ext (by rw [rowsTo_len]; simp [blank]) (fun i hi => ?_) (rowsTo_parts n d n).1 (rowsTo_parts n d n).2
  have hi' : i < n := by simpa [blank] using hi
  rw [rowsTo_gr n d i hi', if_pos hi', show gr (blank n d).ends i = _ from gr_replicate _ _ _ hi']
theorem own_zeroEnds {w : World} {b d : Nat} (h : w.rowIs b 123 (d * 2) (fun _ => .int .i64 0)) (hd : d ≤ 1048576) : OwnE w (.slice (some ⟨b, 0, none⟩) d d) (List.replicate d (0, 0)) [b] := by
  have e : ∀ i, i < d → gn (List.replicate d ((0 : Int), (0 : Int))) i = 0 ∧ gp (List.replicate d ((0 : Int), (0 : Int))) i = 0 := fun i hi => by simp [gn, gp, List.getD, hi]
  refine ⟨⟨d, by simp, small_max hd, .inr ⟨b, d * 2, _, rfl, by simp, by simp, h, fun i hi => ?_⟩⟩, fun i hi => ?_⟩
  · have hi' : i < d * 2 := by simpa using hi
    obtain ⟨e1, e2⟩ := e (i / 2) (by omega)
    simp only [ecell, e1, e2]
    simp
  · obtain ⟨e1, e2⟩ := e i (by simpa using hi)
    rw [e1, e2]
    unfold inI64
    omega

end Go.Proofs.Ytdcgpodjoalokaa

/- The contract of madeBy: AddEdge after AddEdge. No condition but that there are not too many nodes. -/
namespace Go.Proofs.Ytdcgpodjoalokaa
open Go.RowKit

theorem HNet.ext0 {W0 wr : World} {M : Net} {p : Nat} {v0 v1 v2 : Value} (h : HNet W0 wr M p v0 v1 v2) : Ext W0 wr := h.ext
theorem HNet.read {W0 wr : World} {M : Net} {p : Nat} {v0 v1 v2 : Value} (h : HNet W0 wr M p v0 v1 v2) : NetAt wr (.agg #[v0, v1, v2]) M := by
  obtain ⟨bs, ho, _⟩ := h.net
  exact ho.read
theorem PortsOK.nil (N : Net) : PortsOK N [] := fun i hi => absurd hi (by simp)
noncomputable def mbAns (n : Nat) (E : List (Int × Int)) : Net × Bool := mbTo (goodOr (blank n 0)) (dec (Good (blank n 0))) E E.length

/-- Where the edges fit, madeBy makes the network of the edges. -/
theorem mbAns_ok {n : Nat} {E : List (Int × Int)} (h1 : 1 ≤ n) (h2 : n ≤ 40) (h : EdgesOK n E) : mbAns n E = (madeTo (blank n 0) E E.length, true) := by
  unfold mbAns
  rw [goodOr_t (good_blank0 h1 h2), dec_true (good_blank0 h1 h2)]
  exact mb_made h1 h2 h _ (Nat.le_refl _)
end Go.Proofs.Ytdcgpodjoalokaa

/- The contract of buMade: edge after edge. The edges must fit. -/
namespace Go.Proofs.Ytdcgpodjoalokaa
open Go.RowKit

/-- The edges as lists of two numbers. -/
def rowsOf (E : List (Int × Int)) : List (List Int) := E.map fun p => [p.1, p.2]
theorem rowsOf_len (E : List (Int × Int)) : (rowsOf E).length = E.length := by simp [rowsOf]
theorem gr_rowsOf (E : List (Int × Int)) (i : Nat) (h : i < E.length) : gr (rowsOf E) i = [gn E i, gp E i] := by simp [gr, rowsOf, gn, gp, List.getD, h]
theorem rowsOf_snoc (E : List (Int × Int)) (x y : Int) : rowsOf E ++ [[x, y]] = rowsOf (E ++ [(x, y)]) := by simp [rowsOf]

end Go.Proofs.Ytdcgpodjoalokaa
