/- The walk of FnExactLeastDepthFor: whatever the arguments, the law answers true and changes nothing that was there. No condition but that the answer is short. -/
import Derived.Test.YtkpdbceglejbnaaTkn2
import Derived.Test.YtkpdbceglejbnaaMk
import Derived.Test.YtkpdbceglejbnaaKc
namespace Go.Proofs.Ytkpdbceglejbnaa
open Go.RowKit

set_option maxHeartbeats 6400000 in
set_option maxRecDepth 100000 in
theorem walk_LeastDepthFor {w : World} {v0 : Value} {N0 : Net} (n1 : Int) (h0 : NetAt w v0 N0) :
    Calls Try.prog 7 #[v0, .int .i64 n1] w fun e w' => e = .returned (.bool true) ∧ Ext w w' := by
  have HN0 := Lib.hid h0
  obtain ⟨v00, v01, v02, rfl, hE, hI, hP⟩ := h0
  clear hE hI hP
  have K0 := Lib.hid (boxed_ext w v00 v01 v02 28)
  have Rp0_0 := Lib.hid (show World.rowIs (boxed w v00 v01 v02 28) w.heap.size 28 3 (tri v00 v01 v02) from boxed_row w v00 v01 v02 28)
  have hmm : ((lfAns N0 n1) != (lfAns N0 n1)) = false := by simp
  have hbb : (dec (MtB N0 n1) != dec (MtB N0 n1)) = false := by simp
  go_enter Try.func7, Try.ntmps7
  go_wp2_with fail
  (with_reducible refine (szNetwork_any _ (HN0.out.ext K0.out) (by omega) (by omega)).mono ?_)
  rintro e w1 ⟨r0, rfl, hw, hr00, hr10, hr2⟩
  have Z0 := Lib.hid (show w.heap.size + 1 ≤ w1.heap.size from by have := hw.size; simpa using this)
  have K0_1 := Lib.hid (K0.out.trans' hw)
  have Rp0_1 := Lib.hid (row_ext Rp0_0.out hw)
  have S0 := Lib.hid hr2
  clear hw hr2
  obtain ⟨c10, c11, c12, -, -, -⟩ := row3_facts Rp0_1.out
  by_cases hneg0 : r0 < 0
  case pos =>
    go_wp2
    go_ret
    exact ⟨rfl, K0_1.out⟩
  case neg =>
    have hs0 := Lib.hid (S0.out (by omega))
    clear c10 c11 c12
    obtain ⟨c20, c21, c22, -, -, -⟩ := row3_facts Rp0_1.out
    go_wp2_with fail
    (with_reducible refine (toNetwork_own (HN0.out.ext K0_1.out) hs0.out).mono ?_)
    rintro e w2 ⟨xy0, by0, rfl, hw, ho, hf⟩
    have Z1 := Lib.hid (show w1.heap.size ≤ w2.heap.size from by have := hw.size; simpa using this)
    have K0_2 := Lib.hid (K0_1.out.trans' hw)
    have Rp0_2 := Lib.hid (row_ext Rp0_1.out hw)
    have Oy0_2 := Lib.hid ho.read
    clear hw ho hf
    clear c20 c21 c22
    obtain ⟨c30, c31, c32, -, -, -⟩ := row3_facts Rp0_2.out
    clear c30 c31 c32
    go_wp2_with fail
    (with_reducible refine (specLeastDepthFor_any n1 Oy0_2.out).mono ?_)
    rintro e w3 ⟨rfl, hw⟩
    have Z2 := Lib.hid (show w2.heap.size ≤ w3.heap.size from by have := hw.size; simpa using this)
    have K0_3 := Lib.hid (K0_2.out.trans' hw)
    have Rp0_3 := Lib.hid (row_ext Rp0_2.out hw)
    have Oy0_3 := Lib.hid (Oy0_2.out.ext hw)
    clear hw
    obtain ⟨c40, c41, c42, -, -, -⟩ := row3_facts Rp0_3.out
    go_wp2_with fail
    (with_reducible refine (toNetwork_own (HN0.out.ext K0_3.out) hs0.out).mono ?_)
    rintro e w4 ⟨xx0, bx0, rfl, hw, ho, hf⟩
    have Z3 := Lib.hid (show w3.heap.size ≤ w4.heap.size from by have := hw.size; simpa using this)
    have LOx0 := Lib.hid (show ∀ b ∈ bx0, w3.heap.size ≤ b from fun b hb => by have := hf.2 b hb; simpa using this)
    have HIx0 := Lib.hid (show ∀ b ∈ bx0, b < w4.heap.size from ho.lt)
    have NDx0 : Hid bx0.Nodup := hf.1
    obtain ⟨x0a0, x0c0, x0a1, x0c1, x0a2, x0c2, rfl⟩ := ho.agg
    have K0_4 := Lib.hid (K0_3.out.trans' hw)
    have Rp0_4 := Lib.hid (row_ext Rp0_3.out hw)
    have Ox0_4 := Lib.hid ho
    clear hw ho hf
    clear c40 c41 c42
    obtain ⟨c50, c51, c52, -, -, -⟩ := row3_facts Rp0_4.out
    have hA := (Ext.rfl' w4).alloc' (.cells #[.slice x0a0 N0.ends.length x0c0, .slice x0a1 N0.ids.length x0c1, .slice x0a2 N0.inputs.length x0c2] 34)
    have K0_5 := Lib.hid (K0_4.out.trans' hA)
    have Rp0_5 := Lib.hid (row_ext Rp0_4.out hA)
    have Ox0_5 := Lib.hid (Ox0_4.out.ext hA)
    have Rx0_5 := Lib.hid (row3_made w4 (.slice x0a0 N0.ends.length x0c0) (.slice x0a1 N0.ids.length x0c1) (.slice x0a2 N0.inputs.length x0c2) 34)
    clear hA
    clear c50 c51 c52
    obtain ⟨c60, c61, c62, -, -, -⟩ := row3_facts Rp0_5.out
    clear c60 c61 c62
    obtain ⟨c70, c71, c72, -, -, -⟩ := row3_facts Rx0_5.out
    go_wp2_with fail
    (with_reducible refine (leastDepthFor_any n1 Ox0_5.out.read).mono ?_)
    rintro e w5 ⟨rfl, hw⟩
    have Z4 := Lib.hid (show w4.heap.size + 1 ≤ w5.heap.size from by have := hw.size; simpa using this)
    have K0_6 := Lib.hid (K0_5.out.trans' hw)
    have Rp0_6 := Lib.hid (row_ext Rp0_5.out hw)
    have Rx0_6 := Lib.hid (row_ext Rx0_5.out hw)
    have Ox0_6 := Lib.hid (Ox0_5.out.ext hw)
    clear hw
    clear c70 c71 c72
    obtain ⟨c80, c81, c82, -, -, -⟩ := row3_facts Rp0_6.out
    obtain ⟨c90, c91, c92, -, -, -⟩ := row3_facts Rx0_6.out
    go_wp2_with fail
    have Hd := Lib.hid (Ext.rfl' w5).drew'
    go_region_held3 (fun w' => w'.cell? ⟨w.heap.size, 0, none⟩ = some v00 ∧ w'.cell? ⟨w.heap.size, 1, none⟩ = some v01 ∧ w'.cell? ⟨w.heap.size, 2, none⟩ = some v02 ∧ w'.cell? ⟨w4.heap.size, 0, none⟩ = some (.slice x0a0 N0.ends.length x0c0) ∧ w'.cell? ⟨w4.heap.size, 1, none⟩ = some (.slice x0a1 N0.ids.length x0c1) ∧ w'.cell? ⟨w4.heap.size, 2, none⟩ = some (.slice x0a2 N0.inputs.length x0c2) ∧ Hid (Ext w5 w')) (first | exact ⟨c80, c81, c82, c90, c91, c92, Hd⟩ | exact ⟨hx.cell' (Hd.out.cell' c80), hx.cell' (Hd.out.cell' c81), hx.cell' (Hd.out.cell' c82), hx.cell' (Hd.out.cell' c90), hx.cell' (Hd.out.cell' c91), hx.cell' (Hd.out.cell' c92), Hd.out.trans' hx⟩ | exact ⟨hy.cell' (hx.cell' (Hd.out.cell' c80)), hy.cell' (hx.cell' (Hd.out.cell' c81)), hy.cell' (hx.cell' (Hd.out.cell' c82)), hy.cell' (hx.cell' (Hd.out.cell' c90)), hy.cell' (hx.cell' (Hd.out.cell' c91)), hy.cell' (hx.cell' (Hd.out.cell' c92)), (Hd.out.trans' hx).trans' hy⟩)
      (first | (go_at_call 19; (with_reducible refine (toNetwork_own (HN0.out.ext (K0_6.out.trans' Hd.out)) hs0.out).mono ?_); rintro e wa0 ⟨z, bz, rfl, hx, hoz, hfz⟩; have OZ := Lib.hid hoz.read; have HXZ := Lib.hid hx; clear hoz hfz) | (go_at_call 22; (with_reducible refine (eqNetwork_same (Ox0_6.out.read.ext (Hd.out.trans' HXZ.out)) OZ.out).mono ?_); rintro e wb0 ⟨rfl, hy⟩))
    rename_i hh
    have HY := hh.2.2.2.2.2.2
    clear hh hx hy HXZ OZ
    clear c80 c81 c82 c90 c91 c92
    clear Hd
    have Z5 := Lib.hid (show w5.heap.size ≤ wb0.heap.size from by have := HY.out.size; simpa using this)
    have K0_7 := Lib.hid (K0_6.out.trans' HY.out)
    have Rp0_7 := Lib.hid (row_ext Rp0_6.out HY.out)
    have Rx0_7 := Lib.hid (row_ext Rx0_6.out HY.out)
    have Ox0_7 := Lib.hid (Ox0_6.out.ext HY.out)
    clear HY
    go_wp2
    go_ret
    exact ⟨rfl, K0_7.out⟩
end Go.Proofs.Ytkpdbceglejbnaa
