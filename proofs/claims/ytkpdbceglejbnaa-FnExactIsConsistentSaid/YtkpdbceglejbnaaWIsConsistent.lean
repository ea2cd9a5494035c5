/- The walk of FnExactIsConsistent: whatever the arguments, the law answers true and changes nothing that was there. No condition but that the answer is short. -/
import Derived.Test.YtkpdbceglejbnaaTku
import Derived.Test.YtkpdbceglejbnaaMk
import Derived.Test.YtkpdbceglejbnaaKc
namespace Go.Proofs.Ytkpdbceglejbnaa
open Go.RowKit

set_option maxHeartbeats 6400000 in
set_option maxRecDepth 100000 in
theorem walk_IsConsistent {w : World} {v0 : Value} {N0 : Net} {v1 : Value} {l1 : List Int} (h0 : NetAt w v0 N0) (h1 : IntSl w v1 l1) :
    Calls Try.prog 8 #[v0, v1] w fun e w' => e = .returned (.bool true) ∧ Ext w w' := by
  have HN0 := Lib.hid h0
  obtain ⟨v00, v01, v02, rfl, hE, hI, hP⟩ := h0
  clear hE hI hP
  have HN1 := Lib.hid h1
  obtain ⟨la1, _, _, lc1, rfl, -, -, lm1, -⟩ := h1
  unfold maxLen at lm1
  have K0 := Lib.hid (boxed_ext w v00 v01 v02 28)
  have Rp0_0 := Lib.hid (show World.rowIs (boxed w v00 v01 v02 28) w.heap.size 28 3 (tri v00 v01 v02) from boxed_row w v00 v01 v02 28)
  have hmm : (dec (IcA N0 l1) != dec (IcA N0 l1)) = false := by simp
  have hbb : (dec (Good N0) != dec (Good N0)) = false := by simp
  by_cases hg1 : l1.length ≤ 1048576
  case neg =>
    go_enter Try.func8, Try.ntmps8
    go_wp2
    go_ret
    exact ⟨rfl, K0.out⟩
  case pos =>
    go_enter Try.func8, Try.ntmps8
    go_wp2_with fail
    (with_reducible refine (szNetwork_any _ (HN0.out.ext K0.out) (by omega) (by omega)).mono ?_)
    rintro e w1 ⟨r0, rfl, hw, hr00, hr10, hr2⟩
    have Z0 := Lib.hid (show w.heap.size + 1 ≤ w1.heap.size from by have := hw.size; simpa using this)
    have K0_1 := Lib.hid (K0.out.trans' hw)
    have Rp0_1 := Lib.hid (row_ext Rp0_0.out hw)
    have S0 := Lib.hid hr2
    clear hw hr2
    obtain ⟨c10, c11, c12, -, -, -⟩ := row3_facts Rp0_1.out
    by_cases hneg0 : r0 < 0
    case pos =>
      go_wp2
      go_ret
      exact ⟨rfl, K0_1.out⟩
    case neg =>
      have hs0 := Lib.hid (S0.out (by omega))
      clear c10 c11 c12
      obtain ⟨c20, c21, c22, -, -, -⟩ := row3_facts Rp0_1.out
      go_wp2_with fail
      (with_reducible refine (toNetwork_own (HN0.out.ext K0_1.out) hs0.out).mono ?_)
      rintro e w2 ⟨xy0, by0, rfl, hw, ho, hf⟩
      have Z1 := Lib.hid (show w1.heap.size ≤ w2.heap.size from by have := hw.size; simpa using this)
      have K0_2 := Lib.hid (K0_1.out.trans' hw)
      have Rp0_2 := Lib.hid (row_ext Rp0_1.out hw)
      have Oy0_2 := Lib.hid ho.read
      clear hw ho hf
      clear c20 c21 c22
      obtain ⟨c30, c31, c32, -, -, -⟩ := row3_facts Rp0_2.out
      go_wp2_with fail
      (with_reducible refine (toIntS_own (HN1.out.ext K0_2.out) hg1).mono ?_)
      rintro e w3 ⟨y1a, y1c, by1, rfl, hw, ho, hf⟩
      have Z2 := Lib.hid (show w2.heap.size ≤ w3.heap.size from by have := hw.size; simpa using this)
      have K0_3 := Lib.hid (K0_2.out.trans' hw)
      have Rp0_3 := Lib.hid (row_ext Rp0_2.out hw)
      have Oy0_3 := Lib.hid (Oy0_2.out.ext hw)
      have Oy1_3 := Lib.hid ho.read
      clear hw ho hf
      clear c30 c31 c32
      obtain ⟨c40, c41, c42, -, -, -⟩ := row3_facts Rp0_3.out
      clear c40 c41 c42
      go_wp2_with fail
      (with_reducible refine (specIsConsistent_any Oy0_3.out Oy1_3.out hg1).mono ?_)
      rintro e w4 ⟨rfl, hw⟩
      have Z3 := Lib.hid (show w3.heap.size ≤ w4.heap.size from by have := hw.size; simpa using this)
      have K0_4 := Lib.hid (K0_3.out.trans' hw)
      have Rp0_4 := Lib.hid (row_ext Rp0_3.out hw)
      have Oy0_4 := Lib.hid (Oy0_3.out.ext hw)
      have Oy1_4 := Lib.hid (Oy1_3.out.ext hw)
      clear hw
      obtain ⟨c50, c51, c52, -, -, -⟩ := row3_facts Rp0_4.out
      go_wp2_with fail
      (with_reducible refine (toNetwork_own (HN0.out.ext K0_4.out) hs0.out).mono ?_)
      rintro e w5 ⟨xx0, bx0, rfl, hw, ho, hf⟩
      have Z4 := Lib.hid (show w4.heap.size ≤ w5.heap.size from by have := hw.size; simpa using this)
      have LOx0 := Lib.hid (show ∀ b ∈ bx0, w4.heap.size ≤ b from fun b hb => by have := hf.2 b hb; simpa using this)
      have HIx0 := Lib.hid (show ∀ b ∈ bx0, b < w5.heap.size from ho.lt)
      have NDx0 : Hid bx0.Nodup := hf.1
      obtain ⟨x0a0, x0c0, x0a1, x0c1, x0a2, x0c2, rfl⟩ := ho.agg
      have K0_5 := Lib.hid (K0_4.out.trans' hw)
      have Rp0_5 := Lib.hid (row_ext Rp0_4.out hw)
      have Ox0_5 := Lib.hid ho
      clear hw ho hf
      clear c50 c51 c52
      obtain ⟨c60, c61, c62, -, -, -⟩ := row3_facts Rp0_5.out
      have hA := (Ext.rfl' w5).alloc' (.cells #[.slice x0a0 N0.ends.length x0c0, .slice x0a1 N0.ids.length x0c1, .slice x0a2 N0.inputs.length x0c2] 34)
      have K0_6 := Lib.hid (K0_5.out.trans' hA)
      have Rp0_6 := Lib.hid (row_ext Rp0_5.out hA)
      have Ox0_6 := Lib.hid (Ox0_5.out.ext hA)
      have Rx0_6 := Lib.hid (row3_made w5 (.slice x0a0 N0.ends.length x0c0) (.slice x0a1 N0.ids.length x0c1) (.slice x0a2 N0.inputs.length x0c2) 34)
      clear hA
      clear c60 c61 c62
      obtain ⟨c70, c71, c72, -, -, -⟩ := row3_facts Rp0_6.out
      go_wp2_with fail
      (with_reducible refine (toIntS_own (HN1.out.ext K0_6.out) hg1).mono ?_)
      rintro e w6 ⟨x1a, x1c, bx1, rfl, hw, ho, hf⟩
      have Z5 := Lib.hid (show w5.heap.size + 1 ≤ w6.heap.size from by have := hw.size; simpa using this)
      have LOx1 := Lib.hid (show ∀ b ∈ bx1, w5.heap.size + 1 ≤ b from fun b hb => by have := hf.2 b hb; simpa using this)
      have HIx1 := Lib.hid (show ∀ b ∈ bx1, b < w6.heap.size from ho.1.lt)
      have NDx1 : Hid bx1.Nodup := hf.1
      have K0_7 := Lib.hid (K0_6.out.trans' hw)
      have Rp0_7 := Lib.hid (row_ext Rp0_6.out hw)
      have Rx0_7 := Lib.hid (row_ext Rx0_6.out hw)
      have Ox0_7 := Lib.hid (Ox0_6.out.ext hw)
      have Ox1_7 := Lib.hid ho
      clear hw ho hf
      clear c70 c71 c72
      obtain ⟨c80, c81, c82, -, -, -⟩ := row3_facts Rp0_7.out
      clear c80 c81 c82
      obtain ⟨c90, c91, c92, -, -, -⟩ := row3_facts Rx0_7.out
      go_wp2_with fail
      (with_reducible refine (isConsistent_any Ox0_7.out.read Ox1_7.out.read hg1).mono ?_)
      rintro e w7 ⟨rfl, hw⟩
      have Z6 := Lib.hid (show w6.heap.size ≤ w7.heap.size from by have := hw.size; simpa using this)
      have K0_8 := Lib.hid (K0_7.out.trans' hw)
      have Rp0_8 := Lib.hid (row_ext Rp0_7.out hw)
      have Rx0_8 := Lib.hid (row_ext Rx0_7.out hw)
      have Ox0_8 := Lib.hid (Ox0_7.out.ext hw)
      have Ox1_8 := Lib.hid (Ox1_7.out.ext hw)
      clear hw
      clear c90 c91 c92
      obtain ⟨c100, c101, c102, -, -, -⟩ := row3_facts Rp0_8.out
      obtain ⟨c110, c111, c112, -, -, -⟩ := row3_facts Rx0_8.out
      go_wp2_with fail
      have Hd := Lib.hid (Ext.rfl' w7).drew'
      go_region_held3 (fun w' => w'.cell? ⟨w.heap.size, 0, none⟩ = some v00 ∧ w'.cell? ⟨w.heap.size, 1, none⟩ = some v01 ∧ w'.cell? ⟨w.heap.size, 2, none⟩ = some v02 ∧ w'.cell? ⟨w5.heap.size, 0, none⟩ = some (.slice x0a0 N0.ends.length x0c0) ∧ w'.cell? ⟨w5.heap.size, 1, none⟩ = some (.slice x0a1 N0.ids.length x0c1) ∧ w'.cell? ⟨w5.heap.size, 2, none⟩ = some (.slice x0a2 N0.inputs.length x0c2) ∧ Hid (Ext w7 w')) (first | exact ⟨c100, c101, c102, c110, c111, c112, Hd⟩ | exact ⟨hx.cell' (Hd.out.cell' c100), hx.cell' (Hd.out.cell' c101), hx.cell' (Hd.out.cell' c102), hx.cell' (Hd.out.cell' c110), hx.cell' (Hd.out.cell' c111), hx.cell' (Hd.out.cell' c112), Hd.out.trans' hx⟩ | exact ⟨hy.cell' (hx.cell' (Hd.out.cell' c100)), hy.cell' (hx.cell' (Hd.out.cell' c101)), hy.cell' (hx.cell' (Hd.out.cell' c102)), hy.cell' (hx.cell' (Hd.out.cell' c110)), hy.cell' (hx.cell' (Hd.out.cell' c111)), hy.cell' (hx.cell' (Hd.out.cell' c112)), (Hd.out.trans' hx).trans' hy⟩)
        (first | (go_at_call 19; (with_reducible refine (toNetwork_own (HN0.out.ext (K0_8.out.trans' Hd.out)) hs0.out).mono ?_); rintro e wa0 ⟨z, bz, rfl, hx, hoz, hfz⟩; have OZ := Lib.hid hoz.read; have HXZ := Lib.hid hx; clear hoz hfz) | (go_at_call 22; (with_reducible refine (eqNetwork_same (Ox0_8.out.read.ext (Hd.out.trans' HXZ.out)) OZ.out).mono ?_); rintro e wb0 ⟨rfl, hy⟩))
      rename_i hh
      have HY := hh.2.2.2.2.2.2
      clear hh hx hy HXZ OZ
      clear c100 c101 c102 c110 c111 c112
      clear Hd
      have Z7 := Lib.hid (show w7.heap.size ≤ wb0.heap.size from by have := HY.out.size; simpa using this)
      have K0_9 := Lib.hid (K0_8.out.trans' HY.out)
      have Rp0_9 := Lib.hid (row_ext Rp0_8.out HY.out)
      have Rx0_9 := Lib.hid (row_ext Rx0_8.out HY.out)
      have Ox0_9 := Lib.hid (Ox0_8.out.ext HY.out)
      have Ox1_9 := Lib.hid (Ox1_8.out.ext HY.out)
      clear HY
      go_wp2_with fail
      (with_reducible refine (toIntS_own (HN1.out.ext K0_9.out) hg1).mono ?_)
      rintro e w8 ⟨z1a, z1c, bz1, rfl, hw, ho, hf⟩
      have Z8 := Lib.hid (show wb0.heap.size ≤ w8.heap.size from by have := hw.size; simpa using this)
      have K0_10 := Lib.hid (K0_9.out.trans' hw)
      have Rp0_10 := Lib.hid (row_ext Rp0_9.out hw)
      have Rx0_10 := Lib.hid (row_ext Rx0_9.out hw)
      have Ox0_10 := Lib.hid (Ox0_9.out.ext hw)
      have Ox1_10 := Lib.hid (Ox1_9.out.ext hw)
      have Oz1_10 := Lib.hid ho.read
      clear hw ho hf
      obtain ⟨c120, c121, c122, -, -, -⟩ := row3_facts Rp0_10.out
      clear c120 c121 c122
      go_wp2_with fail
      (with_reducible refine (eqIntS_same Ox1_10.out.read Oz1_10.out).mono ?_)
      rintro e w9 ⟨rfl, hw⟩
      have Z9 := Lib.hid (show w8.heap.size ≤ w9.heap.size from by have := hw.size; simpa using this)
      have K0_11 := Lib.hid (K0_10.out.trans' hw)
      have Rp0_11 := Lib.hid (row_ext Rp0_10.out hw)
      have Rx0_11 := Lib.hid (row_ext Rx0_10.out hw)
      have Ox0_11 := Lib.hid (Ox0_10.out.ext hw)
      have Ox1_11 := Lib.hid (Ox1_10.out.ext hw)
      have Oz1_11 := Lib.hid (Oz1_10.out.ext hw)
      clear hw
      go_wp2
      go_ret
      exact ⟨rfl, K0_11.out⟩
end Go.Proofs.Ytkpdbceglejbnaa
