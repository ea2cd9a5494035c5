/- The contracts of neIf and networkOrNone: the network itself where it is one, else none. -/
import Derived.Test.YtimgmpannlgfnaaNeOwn
namespace Go.Proofs.Ytimgmpannlgfnaa
open Go.RowKit

def znet : Value := .agg #[.slice none 0 0, .slice none 0 0, .slice none 0 0]
def zeroNet : Net := ⟨[], [], []⟩

theorem NetAt.form {w : World} {v : Value} {N : Net} (h : NetAt w v N) : ∃ a0 c0 a1 c1 a2 c2, v = .agg #[.slice a0 N.ends.length c0, .slice a1 N.ids.length c1, .slice a2 N.inputs.length c2] := by
  obtain ⟨v0, v1, v2, rfl, hE, hI, hP⟩ := h
  obtain ⟨a0, _, _, c0, rfl, _⟩ := hE
  obtain ⟨a1, _, _, c1, rfl, _⟩ := hI
  obtain ⟨a2, _, _, c2, rfl, _⟩ := hP
  exact ⟨a0, c0, a1, c1, a2, c2, rfl⟩

theorem boxed2_ext (w : World) (v0 v1 v2 : Value) : Ext w ((boxed w v0 v1 v2 29).alloc (.cells #[.slice none 0 0, .slice none 0 0, .slice none 0 0] 29)) := (boxed_ext w v0 v1 v2 29).alloc' _
theorem boxed2_row (w : World) (v0 v1 v2 : Value) : ((boxed w v0 v1 v2 29).alloc (.cells #[.slice none 0 0, .slice none 0 0, .slice none 0 0] 29)).rowIs w.heap.size 29 3 (tri v0 v1 v2) := row_ext (boxed_row w v0 v1 v2 29) ((Ext.rfl' _).alloc' _)
theorem boxed2_res (w : World) (v0 v1 v2 : Value) : ((boxed w v0 v1 v2 29).alloc (.cells #[.slice none 0 0, .slice none 0 0, .slice none 0 0] 29)).rowIs (w.heap.size + 1) 29 3 (tri (.slice none 0 0) (.slice none 0 0) (.slice none 0 0)) := by
  simpa using row3_made (boxed w v0 v1 v2 29) (.slice none 0 0) (.slice none 0 0) (.slice none 0 0) 29

theorem store3_ext {w wx : World} (h : Ext w wx) {p : Nat} (hp : w.heap.size ≤ p) (a b c : Value) : Ext w (((wx.setCell ⟨p, 0, none⟩ a).setCell ⟨p, 1, none⟩ b).setCell ⟨p, 2, none⟩ c) :=
  ((h.store hp _).store hp _).store hp _

end Go.Proofs.Ytimgmpannlgfnaa
