/- The result of a call whose box may have been made at any moment of the statement. -/
import Derived.Test.YtapkmhicajalaaaUs
import Derived.Deep.CutRange
namespace Go.Proofs.Ytapkmhicajalaaa
open Go.RowKit

structure NetRes (W wx : World) (pb : Nat) (x0 x1 x2 : Value) (M : Net) (bs : List Nat) : Prop where
  ext : Ext W wx
  ge : W.heap.size ≤ pb
  row : wx.rowIs pb 31 3 (tri x0 x1 x2)
  own : OwnNet wx (.agg #[x0, x1, x2]) M bs
  nodup : bs.Nodup
  lo : ∀ b ∈ bs, W.heap.size ≤ b
theorem OwnNet.keepT {w : World} {p : Nat} {y0 y1 y2 x0 x1 x2 v : Value} {N : Net} {bs : List Nat} (h : OwnNet w v N bs) (R : w.rowIs p 31 3 (tri y0 y1 y2)) :
    OwnNet (((w.setCell ⟨p, 0, none⟩ x0).setCell ⟨p, 1, none⟩ x1).setCell ⟨p, 2, none⟩ x2) v N bs := by
  refine h.keep fun b hb => ?_
  obtain ⟨v0, v1, v2, b0, b1, b2, rfl, ⟨Rr, c0, T, ho, hr, rfl⟩, h1, h2, rfl⟩ := h
  simp only [List.mem_append] at hb
  rcases hb with (hb | hb) | hb | hb
  · exact own_tri R 77 c0 (by decide) ho.typed b hb
  · obtain ⟨i, hi, hbi⟩ := List.mem_flatMap.1 hb
    exact own_tri R 79 _ (by decide) (hr i (List.mem_range.1 hi)).1.typed b hbi
  · exact own_tri R 3 b1 (by decide) h1.1.typed b hb
  · exact own_tri R 3 b2 (by decide) h2.1.typed b hb
theorem netres_store {W wc : World} {pb : Nat} {y0 y1 y2 x0 x1 x2 : Value} {M : Net} {bs : List Nat} (R : wc.rowIs pb 31 3 (tri y0 y1 y2)) (hX : Ext W wc) (hge : W.heap.size ≤ pb) (O : OwnNet wc (.agg #[x0, x1, x2]) M bs) (hf : bs.Nodup ∧ ∀ b ∈ bs, W.heap.size ≤ b) :
    NetRes W (((wc.setCell ⟨pb, 0, none⟩ x0).setCell ⟨pb, 1, none⟩ x1).setCell ⟨pb, 2, none⟩ x2) pb x0 x1 x2 M bs :=
  ⟨store3_ext hX hge _ _ _, hge, row3_set2 (row3_set1 (row3_set0 R _) _) _, O.keepT R, hf.1, hf.2⟩
theorem netres_alloc {W wc : World} {x0 x1 x2 : Value} {M : Net} {bs : List Nat} (hX : Ext W wc) (O : OwnNet wc (.agg #[x0, x1, x2]) M bs) (hf : bs.Nodup ∧ ∀ b ∈ bs, W.heap.size ≤ b) :
    NetRes W (wc.alloc (.cells #[x0, x1, x2] 31)) wc.heap.size x0 x1 x2 M bs :=
  ⟨hX.alloc' _, hX.size, row3_made _ _ _ _ _, O.ext ((Ext.rfl' _).alloc' _), hf.1, hf.2⟩
theorem NetRes.lt {W wx : World} {pb : Nat} {x0 x1 x2 : Value} {M : Net} {bs : List Nat} (h : NetRes W wx pb x0 x1 x2 M bs) : ∀ b ∈ bs, b < wx.heap.size := h.own.lt
end Go.Proofs.Ytapkmhicajalaaa
