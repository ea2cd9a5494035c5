/- What lies in memory while the program walks: the nodes and the code grow next to each other, the numbers of the nodes lie in a row. -/
import Derived.Test.YtkpdbceglejbnaaIb
import Derived.Test.YtkpdbceglejbnaaIc
namespace Go.Proofs.Ytkpdbceglejbnaa
open Go.RowKit

theorem OwnSl.block_mem {w : World} {v : Value} {n k t : Nat} {f : Nat → Value} {bs : List Nat} (h : OwnSl w v n k t f bs) : ∀ b, v.ownBlock = some b ↔ b ∈ bs := by
  obtain ⟨c, h1, h2, h3⟩ := h
  intro b
  rcases h3 with ⟨rfl, rfl, a, ⟨rfl, rfl⟩, rfl⟩ | ⟨b', m, g, rfl, rfl, hm, hr, hf⟩
  · simp [Value.ownBlock]
  · simp [Value.ownBlock, eq_comm]

/-- The numbers of nodes: the place in the list, -1 for those that are not in it. -/
def numC (Q : List Int) (i : Nat) : Value := .int .i64 (if (i : Int) ∈ Q then ixI Q i else -1)
theorem numC_step {w : World} {b n z : Nat} {Q : List Int} (hz : (z : Int) ∉ Q) (h : w.rowIs b 3 n (numC Q)) : (w.setCell ⟨b, z, none⟩ (.int .i64 Q.length)).rowIs b 3 n (numC (Q ++ [(z : Int)])) :=
  (h.set z _).congr fun i _ => by
    by_cases e : i = z
    · subst e
      rw [if_pos rfl]
      have h2 : ixI (Q ++ [(i : Int)]) (i : Int) = (Q.length : Int) := by unfold ixI; rw [List.idxOf_append, if_neg hz]; simp
      simp only [numC]; rw [if_pos (by simp), h2]
    · rw [if_neg e]
      have h1 : ((i : Int) ∈ Q ++ [(z : Int)]) ↔ (i : Int) ∈ Q := by simp; omega
      by_cases hi : (i : Int) ∈ Q
      · have h2 : ixI (Q ++ [(z : Int)]) (i : Int) = ixI Q i := by unfold ixI; rw [List.idxOf_append, if_pos hi]
        simp only [numC]; rw [if_pos hi, if_pos (h1.2 hi), h2]
      · simp only [numC]; rw [if_neg hi, if_neg fun h => hi (h1.1 h)]
theorem numC_in {Q : List Int} {z : Nat} (h : (z : Int) ∈ Q) : numC Q z = .int .i64 (ixI Q z) := by simp [numC, h]
theorem numC_out {Q : List Int} {z : Nat} (h : (z : Int) ∉ Q) : numC Q z = .int .i64 (-1) := by simp [numC, h]

theorem src_drew {w : World} {ao : Option Addr} {m k : Nat} {news : List Value} (h : SrcAt w ao m k news) : SrcAt w.drew ao m k news := ⟨h.1, h.2.1, fun ad e j u hu => by simpa using h.2.2.1 ad e j u hu, h.2.2.2⟩

/-- The state of the walk: nb: the block of the numbers; P: the nodes; Q: those that have a number; C: the code. -/
structure WSt (w WB wr : World) (n nb : Nat) (vn vc : Value) (P Q C : List Int) : Prop where
  ext : Ext WB wr
  wb : WB.heap.size = w.heap.size + 1
  res : wr.rowIs (w.heap.size + 1) 139 2 (duo (.slice none 0 0) (.slice none 0 0))
  box : wr.rowIs (w.heap.size + 3) 139 2 (duo vn vc)
  num : wr.rowIs nb 3 n (numC Q)
  nodes : GrowN (w.heap.size + 2) wr vn P
  code : GrowN (w.heap.size + 2) wr vc C
  ap : ∀ b, vn.ownBlock = some b → vc.ownBlock ≠ some b
  nn : vn.ownBlock ≠ some nb
  nc : vc.ownBlock ≠ some nb
  nbl : w.heap.size + 4 ≤ nb

theorem WSt.lift {w WB wr wx : World} {n nb : Nat} {vn vc : Value} {P Q C : List Int} (h : WSt w WB wr n nb vn vc P Q C) (he : Ext wr wx) : WSt w WB wx n nb vn vc P Q C :=
  ⟨h.ext.trans' he, h.wb, row_ext h.res he, row_ext h.box he, row_ext h.num he, h.nodes.ext he, h.code.ext he, h.ap, h.nn, h.nc, h.nbl⟩

theorem WSt.num_step {w WB wr : World} {n nb z : Nat} {vn vc : Value} {P Q C : List Int} (h : WSt w WB wr n nb vn vc P Q C) (hz : (z : Int) ∉ Q) : WSt w WB (wr.setCell ⟨nb, z, none⟩ (.int .i64 Q.length)) n nb vn vc P (Q ++ [(z : Int)]) C := by
  have hnb := h.nbl
  have hwb := h.wb
  have oth : ∀ b, b ≠ nb → (wr.setCell ⟨nb, z, none⟩ (.int .i64 Q.length)).heap[b]? = wr.heap[b]? := fun b hb => Below.heap_setCell _ _ _ _ hb
  exact ⟨h.ext.store (by show WB.heap.size ≤ nb; omega) _, h.wb, h.res.of_block (oth _ (by omega)), h.box.of_block (oth _ (by omega)), numC_step hz h.num, h.nodes.keep fun b hb => oth b fun e => h.nn (e ▸ hb), h.code.keep fun b hb => oth b fun e => h.nc (e ▸ hb), h.ap, h.nn, h.nc, h.nbl⟩

theorem own_other {w : World} {B : Nat} {v : Value} {l : List Int} {b t : Nat} {m : Nat} {f : Nat → Value} (h : GrowN B w v l) (hr : w.rowIs b t m f) (ht : t ≠ 3) : v.ownBlock ≠ some b := fun e => by
  obtain ⟨c, hc⟩ := owns_typed h b e
  obtain ⟨d, hd⟩ := rowIs.blk hr
  exact type_ne hc hd (Ne.symm ht) rfl

theorem WSt.code_step {w WB wr W w3 : World} {n nb m : Nat} {vn vc vc' : Value} {P Q C news : List Int} (h : WSt w WB wr n nb vn vc P Q C) (hx : Ext wr W) (hg : Grew2 W w3 (w.heap.size + 2) 3 1 vc vc' (C.length + m) (intCells C ++ intCells news)) (hm : m = news.length) :
    w3.rowIs (w.heap.size + 3) 139 2 (duo vn vc) ∧ WSt w WB (w3.setCell ⟨w.heap.size + 3, 1, none⟩ vc') n nb vn vc' P Q (C ++ news) ∧
      ∀ {b t k : Nat} {f : Nat → Value}, W.rowIs b t k f → t ≠ 3 → b ≠ w.heap.size + 3 → (w3.setCell ⟨w.heap.size + 3, 1, none⟩ vc').rowIs b t k f := by
  have H := h.lift hx
  have hgr := hg.1.2.1
  have oth : ∀ b, b ≠ w.heap.size + 3 → (w3.setCell ⟨w.heap.size + 3, 1, none⟩ vc').heap[b]? = w3.heap[b]? := fun b hb => Below.heap_setCell _ _ _ _ hb
  have hbox := row_grown H.box H.code hgr (by decide)
  have hnodes := H.nodes.other hgr fun b hb => h.ap b hb
  have hcode := GrowN.step hg.1 hm
  have hnum : w3.rowIs nb 3 n (numC Q) := H.num.of_block (hgr.block _ H.num.lt fun e => h.nc e.symm)
  refine ⟨hbox, ⟨?_, h.wb, (row_grown H.res H.code hgr (by decide)).of_block (oth _ (by omega)), duo_set1 hbox _, hnum.of_block (oth _ (by have := h.nbl; omega)), hnodes.keep fun b hb => oth b fun e => own_other hnodes hbox (by decide) (e ▸ hb), hcode.keep fun b hb => oth b fun e => own_other hcode hbox (by decide) (e ▸ hb), fun b hb e => ?_, h.nn, fun e => ?_, h.nbl⟩, fun hr ht hb => (row_grown hr H.code hgr ht).of_block (oth _ hb)⟩
  · exact (grown_ext H.ext (by have := h.wb; omega) H.code hgr).store (by have := h.wb; show WB.heap.size ≤ w.heap.size + 3; omega) _
  · rcases hg.2 b e with h1 | h1
    · exact h.ap b hb h1
    · have := (H.nodes.lt b hb).2; omega
  · rcases hg.2 nb e with h1 | h1
    · exact h.nc h1
    · have := H.num.lt; omega

theorem WSt.node_step {w WB wr W w3 : World} {n nb m : Nat} {vn vc vn' : Value} {P Q C news : List Int} (h : WSt w WB wr n nb vn vc P Q C) (hx : Ext wr W) (hg : Grew2 W w3 (w.heap.size + 2) 3 1 vn vn' (P.length + m) (intCells P ++ intCells news)) (hm : m = news.length) :
    w3.rowIs (w.heap.size + 3) 139 2 (duo vn vc) ∧ WSt w WB (w3.setCell ⟨w.heap.size + 3, 0, none⟩ vn') n nb vn' vc (P ++ news) Q C ∧
      ∀ {b t k : Nat} {f : Nat → Value}, W.rowIs b t k f → t ≠ 3 → b ≠ w.heap.size + 3 → (w3.setCell ⟨w.heap.size + 3, 0, none⟩ vn').rowIs b t k f := by
  have H := h.lift hx
  have hgr := hg.1.2.1
  have oth : ∀ b, b ≠ w.heap.size + 3 → (w3.setCell ⟨w.heap.size + 3, 0, none⟩ vn').heap[b]? = w3.heap[b]? := fun b hb => Below.heap_setCell _ _ _ _ hb
  have hbox := row_grown H.box H.nodes hgr (by decide)
  have hcode := H.code.other hgr fun b hb e => h.ap b e hb
  have hnodes := GrowN.step hg.1 hm
  have hnum : w3.rowIs nb 3 n (numC Q) := H.num.of_block (hgr.block _ H.num.lt fun e => h.nn e.symm)
  refine ⟨hbox, ⟨?_, h.wb, (row_grown H.res H.nodes hgr (by decide)).of_block (oth _ (by omega)), duo_set0 hbox _, hnum.of_block (oth _ (by have := h.nbl; omega)), hnodes.keep fun b hb => oth b fun e => own_other hnodes hbox (by decide) (e ▸ hb), hcode.keep fun b hb => oth b fun e => own_other hcode hbox (by decide) (e ▸ hb), fun b hb e => ?_, fun e => ?_, h.nc, h.nbl⟩, fun hr ht hb => (row_grown hr H.nodes hgr ht).of_block (oth _ hb)⟩
  · exact (grown_ext H.ext (by have := h.wb; omega) H.nodes hgr).store (by have := h.wb; show WB.heap.size ≤ w.heap.size + 3; omega) _
  · rcases hg.2 b hb with h1 | h1
    · exact h.ap b h1 e
    · have := (H.code.lt b e).2; omega
  · rcases hg.2 nb e with h1 | h1
    · exact h.nn h1
    · have := H.num.lt; omega
end Go.Proofs.Ytkpdbceglejbnaa
