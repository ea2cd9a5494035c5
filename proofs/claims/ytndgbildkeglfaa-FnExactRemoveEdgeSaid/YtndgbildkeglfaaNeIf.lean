/- The contracts of neIf and networkOrNone: the network itself where it is one, else none. -/
import Derived.Test.YtndgbildkeglfaaNeOwn
namespace Go.Proofs.Ytndgbildkeglfaa
open Go.RowKit

def znet : Value := .agg #[.slice none 0 0, .slice none 0 0, .slice none 0 0]
def zeroNet : Net := ⟨[], [], []⟩

theorem NetAt.form {w : World} {v : Value} {N : Net} (h : NetAt w v N) : ∃ a0 c0 a1 c1 a2 c2, v = .agg #[.slice a0 N.ends.length c0, .slice a1 N.ids.length c1, .slice a2 N.inputs.length c2] := by
  obtain ⟨v0, v1, v2, rfl, hE, hI, hP⟩ := h
  obtain ⟨a0, _, _, c0, rfl, _⟩ := hE
  obtain ⟨a1, _, _, c1, rfl, _⟩ := hI
  obtain ⟨a2, _, _, c2, rfl, _⟩ := hP
  exact ⟨a0, c0, a1, c1, a2, c2, rfl⟩

theorem boxed2_ext (w : World) (v0 v1 v2 : Value) : Ext w ((boxed w v0 v1 v2 30).alloc (.cells #[.slice none 0 0, .slice none 0 0, .slice none 0 0] 30)) := (boxed_ext w v0 v1 v2 30).alloc' _
theorem boxed2_row (w : World) (v0 v1 v2 : Value) : ((boxed w v0 v1 v2 30).alloc (.cells #[.slice none 0 0, .slice none 0 0, .slice none 0 0] 30)).rowIs w.heap.size 30 3 (tri v0 v1 v2) := row_ext (boxed_row w v0 v1 v2 30) ((Ext.rfl' _).alloc' _)
theorem boxed2_res (w : World) (v0 v1 v2 : Value) : ((boxed w v0 v1 v2 30).alloc (.cells #[.slice none 0 0, .slice none 0 0, .slice none 0 0] 30)).rowIs (w.heap.size + 1) 30 3 (tri (.slice none 0 0) (.slice none 0 0) (.slice none 0 0)) := by
  simpa using row3_made (boxed w v0 v1 v2 30) (.slice none 0 0) (.slice none 0 0) (.slice none 0 0) 30

theorem store3_ext {w wx : World} (h : Ext w wx) {p : Nat} (hp : w.heap.size ≤ p) (a b c : Value) : Ext w (((wx.setCell ⟨p, 0, none⟩ a).setCell ⟨p, 1, none⟩ b).setCell ⟨p, 2, none⟩ c) :=
  ((h.store hp _).store hp _).store hp _

set_option maxHeartbeats 1600000 in
set_option maxRecDepth 100000 in
theorem neIf_t {w : World} {v : Value} {N : Net} (h : NetAt w v N) (hg : Good N) :
    Calls Try.prog 83 #[v] w fun e w' => e = .returned (.tuple #[v, .bool true]) ∧ Ext w w' := by
  have HN := Lib.hid h
  obtain ⟨a0, c0, a1, c1, a2, c2, rfl⟩ := h.form
  have HX := Lib.hid (boxed2_ext w (.slice a0 N.ends.length c0) (.slice a1 N.ids.length c1) (.slice a2 N.inputs.length c2))
  have HR := Lib.hid (boxed2_row w (.slice a0 N.ends.length c0) (.slice a1 N.ids.length c1) (.slice a2 N.inputs.length c2))
  have HQ := Lib.hid (boxed2_res w (.slice a0 N.ends.length c0) (.slice a1 N.ids.length c1) (.slice a2 N.inputs.length c2))
  have G := Lib.hid (dec_true hg)
  clear h hg
  go_enter Try.func83, Try.ntmps83
  go_wp2_with (first | (go_at_call 66; (with_reducible refine (neGood_any (HN.out.ext HX.out)).mono ?_); rintro e w1 ⟨rfl, hw⟩; rw [G.out]; have K1 := Lib.hid (HX.out.trans' hw); obtain ⟨p0, p1, p2, _, _, _⟩ := row3_facts (row_ext HR.out hw); obtain ⟨q0, q1, q2, t0, t1, t2⟩ := row3_facts (row_ext HQ.out hw); clear hw))
  refine bodyPost_ret (v := .tuple #[.agg #[.slice a0 N.ends.length c0, .slice a1 N.ids.length c1, .slice a2 N.inputs.length c2], .bool true]) (by simp [results, Try.results83, go_sem, q0, q1, q2]) rfl ⟨rfl, ?_⟩
  exact store3_ext K1.out (by omega) _ _ _

set_option maxHeartbeats 1600000 in
set_option maxRecDepth 100000 in
theorem neIf_f {w : World} {v : Value} {N : Net} (h : NetAt w v N) (hg : ¬ Good N) :
    Calls Try.prog 83 #[v] w fun e w' => e = .returned (.tuple #[znet, .bool false]) ∧ Ext w w' := by
  have HN := Lib.hid h
  obtain ⟨a0, c0, a1, c1, a2, c2, rfl⟩ := h.form
  have HX := Lib.hid (boxed2_ext w (.slice a0 N.ends.length c0) (.slice a1 N.ids.length c1) (.slice a2 N.inputs.length c2))
  have HQ := Lib.hid (boxed2_res w (.slice a0 N.ends.length c0) (.slice a1 N.ids.length c1) (.slice a2 N.inputs.length c2))
  have G := Lib.hid (dec_false hg)
  clear h hg
  go_enter Try.func83, Try.ntmps83
  go_wp2_with (first | (go_at_call 66; (with_reducible refine (neGood_any (HN.out.ext HX.out)).mono ?_); rintro e w1 ⟨rfl, hw⟩; rw [G.out]; have K1 := Lib.hid (HX.out.trans' hw); obtain ⟨q0, q1, q2, t0, t1, t2⟩ := row3_facts (row_ext HQ.out hw); clear hw))
  refine bodyPost_ret (v := .tuple #[znet, .bool false]) (by simp [results, Try.results83, go_sem, q0, q1, q2, znet]) rfl ⟨rfl, ?_⟩
  exact store3_ext K1.out (by omega) _ _ _

set_option maxHeartbeats 1600000 in
set_option maxRecDepth 100000 in
theorem networkOrNone_t {w : World} {v : Value} {N : Net} (h : NetAt w v N) (hg : Good N) :
    Calls Try.prog 86 #[v] w fun e w' => e = .returned (.tuple #[v, .bool true]) ∧ Ext w w' := by
  have HN := Lib.hid h
  obtain ⟨a0, c0, a1, c1, a2, c2, rfl⟩ := h.form
  have HX := Lib.hid (boxed2_ext w (.slice a0 N.ends.length c0) (.slice a1 N.ids.length c1) (.slice a2 N.inputs.length c2))
  have HR := Lib.hid (boxed2_row w (.slice a0 N.ends.length c0) (.slice a1 N.ids.length c1) (.slice a2 N.inputs.length c2))
  have HQ := Lib.hid (boxed2_res w (.slice a0 N.ends.length c0) (.slice a1 N.ids.length c1) (.slice a2 N.inputs.length c2))
  have G := Lib.hid (dec_true hg)
  clear h hg
  go_enter Try.func86, Try.ntmps86
  go_wp2_with (first | (go_at_call 22; (with_reducible refine (isNetwork_any (HN.out.ext HX.out)).mono ?_); rintro e w1 ⟨rfl, hw⟩; rw [G.out]; have K1 := Lib.hid (HX.out.trans' hw); obtain ⟨p0, p1, p2, _, _, _⟩ := row3_facts (row_ext HR.out hw); obtain ⟨q0, q1, q2, t0, t1, t2⟩ := row3_facts (row_ext HQ.out hw); clear hw))
  refine bodyPost_ret (v := .tuple #[.agg #[.slice a0 N.ends.length c0, .slice a1 N.ids.length c1, .slice a2 N.inputs.length c2], .bool true]) (by simp [results, Try.results86, go_sem, q0, q1, q2]) rfl ⟨rfl, ?_⟩
  exact store3_ext K1.out (by omega) _ _ _

set_option maxHeartbeats 1600000 in
set_option maxRecDepth 100000 in
theorem networkOrNone_f {w : World} {v : Value} {N : Net} (h : NetAt w v N) (hg : ¬ Good N) :
    Calls Try.prog 86 #[v] w fun e w' => e = .returned (.tuple #[znet, .bool false]) ∧ Ext w w' := by
  have HN := Lib.hid h
  obtain ⟨a0, c0, a1, c1, a2, c2, rfl⟩ := h.form
  have HX := Lib.hid (boxed2_ext w (.slice a0 N.ends.length c0) (.slice a1 N.ids.length c1) (.slice a2 N.inputs.length c2))
  have HQ := Lib.hid (boxed2_res w (.slice a0 N.ends.length c0) (.slice a1 N.ids.length c1) (.slice a2 N.inputs.length c2))
  have G := Lib.hid (dec_false hg)
  clear h hg
  go_enter Try.func86, Try.ntmps86
  go_wp2_with (first | (go_at_call 22; (with_reducible refine (isNetwork_any (HN.out.ext HX.out)).mono ?_); rintro e w1 ⟨rfl, hw⟩; rw [G.out]; have K1 := Lib.hid (HX.out.trans' hw); obtain ⟨q0, q1, q2, t0, t1, t2⟩ := row3_facts (row_ext HQ.out hw); clear hw))
  refine bodyPost_ret (v := .tuple #[znet, .bool false]) (by simp [results, Try.results86, go_sem, q0, q1, q2, znet]) rfl ⟨rfl, ?_⟩
  exact store3_ext K1.out (by omega) _ _ _
end Go.Proofs.Ytndgbildkeglfaa
