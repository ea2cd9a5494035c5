/- The walk of FnExactLiftOf: whatever the arguments, the law answers true and changes nothing that was there. No condition but that the answer is short. -/
import Derived.Test.YtdcgpodjoalokaaLff
import Derived.Test.YtdcgpodjoalokaaIm
import Derived.Test.YtdcgpodjoalokaaIu
import Derived.Test.YtdcgpodjoalokaaKc
namespace Go.Proofs.Ytdcgpodjoalokaa
open Go.RowKit

set_option maxHeartbeats 6400000 in
set_option maxRecDepth 100000 in
theorem walk_LiftOf_of {w : World} {v0 : Value} {N0 : Net} {v2 : Value} {l2 : List (List Int)} (n1 : Int) (h0 : NetAt w v0 N0) (h2 : IntSS w v2 l2) (hll : (liftAns N0 n1 l2).small) :
    Calls Try.prog 16 #[v0, .int .i64 n1, v2] w fun e w' => e = .returned (.bool true) ∧ Ext w w' := by
  have HLL := Lib.hid hll
  have HQ := Lib.hid (netLast_bound hll)
  have HN0 := Lib.hid h0
  obtain ⟨v00, v01, v02, rfl, hE, hI, hP⟩ := h0
  clear hE hI hP
  have HN2 := Lib.hid h2
  obtain ⟨la2, _, _, lc2, rfl, -, -, lm2, -⟩ := h2
  unfold maxLen at lm2
  have K0 := Lib.hid (boxed_ext w v00 v01 v02 37)
  have Rp0_0 := Lib.hid (show World.rowIs (boxed w v00 v01 v02 37) w.heap.size 37 3 (tri v00 v01 v02) from boxed_row w v00 v01 v02 37)
  have hbb : (dec (LiftOK N0 n1 l2) != dec (LiftOK N0 n1 l2)) = false := by simp
  go_enter Try.func16, Try.ntmps16
  go_wp2_with fail
  (with_reducible refine (szNetwork_any _ (HN0.out.ext K0.out) (by omega) (by omega)).mono ?_)
  rintro e w1 ⟨r0, rfl, hw, hr00, hr10, hr2⟩
  have Z0 := Lib.hid (show w.heap.size + 1 ≤ w1.heap.size from by have := hw.size; simpa using this)
  have K0_1 := Lib.hid (K0.out.trans' hw)
  have Rp0_1 := Lib.hid (row_ext Rp0_0.out hw)
  have S0 := Lib.hid hr2
  clear hw hr2
  obtain ⟨c10, c11, c12, -, -, -⟩ := row3_facts Rp0_1.out
  by_cases hneg0 : r0 < 0
  case pos =>
    go_wp2
    go_ret
    exact ⟨rfl, K0_1.out⟩
  case neg =>
    have hs0 := Lib.hid (S0.out (by omega))
    clear c10 c11 c12
    obtain ⟨c20, c21, c22, -, -, -⟩ := row3_facts Rp0_1.out
    go_wp2_with fail
    (with_reducible refine (szIntSS_any _ (HN2.out.ext K0_1.out) (by omega) (by omega)).mono ?_)
    rintro e _ ⟨r2, rfl, rfl, hr12, hr02, hr2⟩
    have S2 := Lib.hid hr2
    clear hr2
    by_cases hneg2 : r2 < 0
    case pos =>
      go_wp2
      go_ret
      exact ⟨rfl, K0_1.out⟩
    case neg =>
      have hs2 := Lib.hid (show IISmall l2 from ⟨by have := (S2.out (by omega)).1; omega, fun i => by
        by_cases hi : i < l2.length
        · have := (S2.out (by omega)).2 i hi; omega
        · rw [gr_out _ _ (by omega)]; simp⟩)
      obtain ⟨hs2a, hs2b⟩ : l2.length ≤ 1048576 ∧ ∀ i, (gr l2 i).length ≤ 1048576 := hs2.out
      clear c20 c21 c22
      obtain ⟨c30, c31, c32, -, -, -⟩ := row3_facts Rp0_1.out
      go_wp2_with fail
      (with_reducible refine (toNetwork_own (HN0.out.ext K0_1.out) hs0.out).mono ?_)
      rintro e w2 ⟨xy0, by0, rfl, hw, ho, hf⟩
      have Z1 := Lib.hid (show w1.heap.size ≤ w2.heap.size from by have := hw.size; simpa using this)
      have K0_2 := Lib.hid (K0_1.out.trans' hw)
      have Rp0_2 := Lib.hid (row_ext Rp0_1.out hw)
      have Oy0_2 := Lib.hid ho.read
      clear hw ho hf
      clear c30 c31 c32
      obtain ⟨c40, c41, c42, -, -, -⟩ := row3_facts Rp0_2.out
      go_wp2_with fail
      (with_reducible refine (toIntSS_own (HN2.out.ext K0_2.out) hs2a hs2b).mono ?_)
      rintro e w3 ⟨y2a, y2c, by2, rfl, hw, ho, hf⟩
      have Z2 := Lib.hid (show w2.heap.size ≤ w3.heap.size from by have := hw.size; simpa using this)
      have K0_3 := Lib.hid (K0_2.out.trans' hw)
      have Rp0_3 := Lib.hid (row_ext Rp0_2.out hw)
      have Oy0_3 := Lib.hid (Oy0_2.out.ext hw)
      have Oy2_3 := Lib.hid ho.read
      clear hw ho hf
      clear c40 c41 c42
      obtain ⟨c50, c51, c52, -, -, -⟩ := row3_facts Rp0_3.out
      clear c50 c51 c52
      go_wp2_with fail
      (with_reducible refine (specLift_any n1 Oy0_3.out Oy2_3.out hs2.out).mono ?_)
      rintro e w4 ⟨xw, bw, rfl, hw, ho, hf⟩
      have Z3 := Lib.hid (show w3.heap.size ≤ w4.heap.size from by have := hw.size; simpa using this)
      have LOw := Lib.hid (show ∀ b ∈ bw, w3.heap.size ≤ b from fun b hb => by have := hf.2 b hb; simpa using this)
      have HIw := Lib.hid (show ∀ b ∈ bw, b < w4.heap.size from ho.lt)
      have NDw : Hid bw.Nodup := hf.1
      obtain ⟨wa0, wc0, wa1, wc1, wa2, wc2, rfl⟩ := ho.agg
      have K0_4 := Lib.hid (K0_3.out.trans' hw)
      have Rp0_4 := Lib.hid (row_ext Rp0_3.out hw)
      have Oy0_4 := Lib.hid (Oy0_3.out.ext hw)
      have Oy2_4 := Lib.hid (Oy2_3.out.ext hw)
      have Ow_4 := Lib.hid ho
      clear hw ho hf
      have hA := (Ext.rfl' w4).alloc' (.cells #[.slice wa0 (liftAns N0 n1 l2).ends.length wc0, .slice wa1 (liftAns N0 n1 l2).ids.length wc1, .slice wa2 (liftAns N0 n1 l2).inputs.length wc2] 43)
      have K0_5 := Lib.hid (K0_4.out.trans' hA)
      have Rp0_5 := Lib.hid (row_ext Rp0_4.out hA)
      have Ow_5 := Lib.hid (Ow_4.out.ext hA)
      have Oy0_5 := Lib.hid (Oy0_4.out.ext hA)
      have Oy2_5 := Lib.hid (Oy2_4.out.ext hA)
      have Rw_5 := Lib.hid (row3_made w4 (.slice wa0 (liftAns N0 n1 l2).ends.length wc0) (.slice wa1 (liftAns N0 n1 l2).ids.length wc1) (.slice wa2 (liftAns N0 n1 l2).inputs.length wc2) 43)
      clear hA
      obtain ⟨c60, c61, c62, -, -, -⟩ := row3_facts Rp0_5.out
      go_wp2_with fail
      (with_reducible refine (toNetwork_own (HN0.out.ext K0_5.out) hs0.out).mono ?_)
      rintro e w5 ⟨xx0, bx0, rfl, hw, ho, hf⟩
      have Z4 := Lib.hid (show w4.heap.size + 1 ≤ w5.heap.size from by have := hw.size; simpa using this)
      have LOx0 := Lib.hid (show ∀ b ∈ bx0, w4.heap.size + 1 ≤ b from fun b hb => by have := hf.2 b hb; simpa using this)
      have HIx0 := Lib.hid (show ∀ b ∈ bx0, b < w5.heap.size from ho.lt)
      have NDx0 : Hid bx0.Nodup := hf.1
      obtain ⟨x0a0, x0c0, x0a1, x0c1, x0a2, x0c2, rfl⟩ := ho.agg
      have K0_6 := Lib.hid (K0_5.out.trans' hw)
      have Rp0_6 := Lib.hid (row_ext Rp0_5.out hw)
      have Rw_6 := Lib.hid (row_ext Rw_5.out hw)
      have Ow_6 := Lib.hid (Ow_5.out.ext hw)
      have Ox0_6 := Lib.hid ho
      clear hw ho hf
      clear c60 c61 c62
      obtain ⟨c70, c71, c72, -, -, -⟩ := row3_facts Rp0_6.out
      have hA := (Ext.rfl' w5).alloc' (.cells #[.slice x0a0 N0.ends.length x0c0, .slice x0a1 N0.ids.length x0c1, .slice x0a2 N0.inputs.length x0c2] 43)
      have K0_7 := Lib.hid (K0_6.out.trans' hA)
      have Rp0_7 := Lib.hid (row_ext Rp0_6.out hA)
      have Rw_7 := Lib.hid (row_ext Rw_6.out hA)
      have Ow_7 := Lib.hid (Ow_6.out.ext hA)
      have Ox0_7 := Lib.hid (Ox0_6.out.ext hA)
      have Rx0_7 := Lib.hid (row3_made w5 (.slice x0a0 N0.ends.length x0c0) (.slice x0a1 N0.ids.length x0c1) (.slice x0a2 N0.inputs.length x0c2) 43)
      clear hA
      clear c70 c71 c72
      obtain ⟨c80, c81, c82, -, -, -⟩ := row3_facts Rp0_7.out
      go_wp2_with fail
      (with_reducible refine (toIntSS_own (HN2.out.ext K0_7.out) hs2a hs2b).mono ?_)
      rintro e w6 ⟨x2a, x2c, bx2, rfl, hw, ho, hf⟩
      have Z5 := Lib.hid (show w5.heap.size + 1 ≤ w6.heap.size from by have := hw.size; simpa using this)
      have LOx2 := Lib.hid (show ∀ b ∈ bx2, w5.heap.size + 1 ≤ b from fun b hb => by have := hf.2 b hb; simpa using this)
      have HIx2 := Lib.hid (show ∀ b ∈ bx2, b < w6.heap.size from ho.lt)
      have NDx2 : Hid bx2.Nodup := hf.1
      have K0_8 := Lib.hid (K0_7.out.trans' hw)
      have Rp0_8 := Lib.hid (row_ext Rp0_7.out hw)
      have Rw_8 := Lib.hid (row_ext Rw_7.out hw)
      have Rx0_8 := Lib.hid (row_ext Rx0_7.out hw)
      have Ow_8 := Lib.hid (Ow_7.out.ext hw)
      have Ox0_8 := Lib.hid (Ox0_7.out.ext hw)
      have Ox2_8 := Lib.hid ho
      clear hw ho hf
      clear c80 c81 c82
      obtain ⟨c90, c91, c92, -, -, -⟩ := row3_facts Rp0_8.out
      clear c90 c91 c92
      obtain ⟨c100, c101, c102, -, -, -⟩ := row3_facts Rx0_8.out
      go_wp2_with fail
      (with_reducible refine (liftOfS_any n1 Ox0_8.out.read Ox2_8.out.read hs2.out).mono ?_)
      rintro e w7 ⟨xg, bg, rfl, hw, ho, hf⟩
      have Z6 := Lib.hid (show w6.heap.size ≤ w7.heap.size from by have := hw.size; simpa using this)
      have LOg := Lib.hid (show ∀ b ∈ bg, w6.heap.size ≤ b from fun b hb => by have := hf.2 b hb; simpa using this)
      have HIg := Lib.hid (show ∀ b ∈ bg, b < w7.heap.size from ho.lt)
      have NDg : Hid bg.Nodup := hf.1
      obtain ⟨ga0, gc0, ga1, gc1, ga2, gc2, rfl⟩ := ho.agg
      have K0_9 := Lib.hid (K0_8.out.trans' hw)
      have Rp0_9 := Lib.hid (row_ext Rp0_8.out hw)
      have Rw_9 := Lib.hid (row_ext Rw_8.out hw)
      have Rx0_9 := Lib.hid (row_ext Rx0_8.out hw)
      have Ow_9 := Lib.hid (Ow_8.out.ext hw)
      have Ox0_9 := Lib.hid (Ox0_8.out.ext hw)
      have Ox2_9 := Lib.hid (Ox2_8.out.ext hw)
      have Og_9 := Lib.hid ho
      clear hw ho hf
      have hA := (Ext.rfl' w7).alloc' (.cells #[.slice ga0 (liftAns N0 n1 l2).ends.length gc0, .slice ga1 (liftAns N0 n1 l2).ids.length gc1, .slice ga2 (liftAns N0 n1 l2).inputs.length gc2] 43)
      have K0_10 := Lib.hid (K0_9.out.trans' hA)
      have Rp0_10 := Lib.hid (row_ext Rp0_9.out hA)
      have Rw_10 := Lib.hid (row_ext Rw_9.out hA)
      have Rx0_10 := Lib.hid (row_ext Rx0_9.out hA)
      have Ow_10 := Lib.hid (Ow_9.out.ext hA)
      have Ox0_10 := Lib.hid (Ox0_9.out.ext hA)
      have Ox2_10 := Lib.hid (Ox2_9.out.ext hA)
      have Og_10 := Lib.hid (Og_9.out.ext hA)
      have Rg_10 := Lib.hid (row3_made w7 (.slice ga0 (liftAns N0 n1 l2).ends.length gc0) (.slice ga1 (liftAns N0 n1 l2).ids.length gc1) (.slice ga2 (liftAns N0 n1 l2).inputs.length gc2) 43)
      clear hA
      clear c100 c101 c102
      obtain ⟨c110, c111, c112, -, -, -⟩ := row3_facts Rg_10.out
      obtain ⟨c120, c121, c122, -, -, -⟩ := row3_facts Rw_10.out
      go_wp2_with fail
      (with_reducible refine (eqNetwork_same Og_10.out.read Ow_10.out.read).mono ?_)
      rintro e w8 ⟨rfl, hw⟩
      have Z7 := Lib.hid (show w7.heap.size + 1 ≤ w8.heap.size from by have := hw.size; simpa using this)
      have K0_11 := Lib.hid (K0_10.out.trans' hw)
      have Rp0_11 := Lib.hid (row_ext Rp0_10.out hw)
      have Rw_11 := Lib.hid (row_ext Rw_10.out hw)
      have Rx0_11 := Lib.hid (row_ext Rx0_10.out hw)
      have Rg_11 := Lib.hid (row_ext Rg_10.out hw)
      have Ow_11 := Lib.hid (Ow_10.out.ext hw)
      have Ox0_11 := Lib.hid (Ox0_10.out.ext hw)
      have Ox2_11 := Lib.hid (Ox2_10.out.ext hw)
      have Og_11 := Lib.hid (Og_10.out.ext hw)
      clear hw
      clear c110 c111 c112 c120 c121 c122
      obtain ⟨c130, c131, c132, -, -, -⟩ := row3_facts Rp0_11.out
      obtain ⟨c140, c141, c142, -, -, -⟩ := row3_facts Rx0_11.out
      go_wp2_with fail
      have Hd := Lib.hid (Ext.rfl' w8).drew'
      go_region_held3 (fun w' => w'.cell? ⟨w.heap.size, 0, none⟩ = some v00 ∧ w'.cell? ⟨w.heap.size, 1, none⟩ = some v01 ∧ w'.cell? ⟨w.heap.size, 2, none⟩ = some v02 ∧ w'.cell? ⟨w5.heap.size, 0, none⟩ = some (.slice x0a0 N0.ends.length x0c0) ∧ w'.cell? ⟨w5.heap.size, 1, none⟩ = some (.slice x0a1 N0.ids.length x0c1) ∧ w'.cell? ⟨w5.heap.size, 2, none⟩ = some (.slice x0a2 N0.inputs.length x0c2) ∧ Hid (Ext w8 w')) (first | exact ⟨c130, c131, c132, c140, c141, c142, Hd⟩ | exact ⟨hx.cell' (Hd.out.cell' c130), hx.cell' (Hd.out.cell' c131), hx.cell' (Hd.out.cell' c132), hx.cell' (Hd.out.cell' c140), hx.cell' (Hd.out.cell' c141), hx.cell' (Hd.out.cell' c142), Hd.out.trans' hx⟩ | exact ⟨hy.cell' (hx.cell' (Hd.out.cell' c130)), hy.cell' (hx.cell' (Hd.out.cell' c131)), hy.cell' (hx.cell' (Hd.out.cell' c132)), hy.cell' (hx.cell' (Hd.out.cell' c140)), hy.cell' (hx.cell' (Hd.out.cell' c141)), hy.cell' (hx.cell' (Hd.out.cell' c142)), (Hd.out.trans' hx).trans' hy⟩)
        (first | (go_at_call 26; (with_reducible refine (toNetwork_own (HN0.out.ext (K0_11.out.trans' Hd.out)) hs0.out).mono ?_); rintro e wa0 ⟨z, bz, rfl, hx, hoz, hfz⟩; have OZ := Lib.hid hoz.read; have HXZ := Lib.hid hx; clear hoz hfz) | (go_at_call 28; (with_reducible refine (eqNetwork_same (Ox0_11.out.read.ext (Hd.out.trans' HXZ.out)) OZ.out).mono ?_); rintro e wb0 ⟨rfl, hy⟩))
      rename_i hh
      have HY := hh.2.2.2.2.2.2
      clear hh hx hy HXZ OZ
      clear c130 c131 c132 c140 c141 c142
      clear Hd
      have Z8 := Lib.hid (show w8.heap.size ≤ wb0.heap.size from by have := HY.out.size; simpa using this)
      have K0_12 := Lib.hid (K0_11.out.trans' HY.out)
      have Rp0_12 := Lib.hid (row_ext Rp0_11.out HY.out)
      have Rw_12 := Lib.hid (row_ext Rw_11.out HY.out)
      have Rx0_12 := Lib.hid (row_ext Rx0_11.out HY.out)
      have Rg_12 := Lib.hid (row_ext Rg_11.out HY.out)
      have Ow_12 := Lib.hid (Ow_11.out.ext HY.out)
      have Ox0_12 := Lib.hid (Ox0_11.out.ext HY.out)
      have Ox2_12 := Lib.hid (Ox2_11.out.ext HY.out)
      have Og_12 := Lib.hid (Og_11.out.ext HY.out)
      clear HY
      go_wp2_with fail
      (with_reducible refine (toIntSS_own (HN2.out.ext K0_12.out) hs2a hs2b).mono ?_)
      rintro e w9 ⟨z2a, z2c, bz2, rfl, hw, ho, hf⟩
      have Z9 := Lib.hid (show wb0.heap.size ≤ w9.heap.size from by have := hw.size; simpa using this)
      have K0_13 := Lib.hid (K0_12.out.trans' hw)
      have Rp0_13 := Lib.hid (row_ext Rp0_12.out hw)
      have Rw_13 := Lib.hid (row_ext Rw_12.out hw)
      have Rx0_13 := Lib.hid (row_ext Rx0_12.out hw)
      have Rg_13 := Lib.hid (row_ext Rg_12.out hw)
      have Ow_13 := Lib.hid (Ow_12.out.ext hw)
      have Ox0_13 := Lib.hid (Ox0_12.out.ext hw)
      have Ox2_13 := Lib.hid (Ox2_12.out.ext hw)
      have Og_13 := Lib.hid (Og_12.out.ext hw)
      have Oz2_13 := Lib.hid ho.read
      clear hw ho hf
      obtain ⟨c150, c151, c152, -, -, -⟩ := row3_facts Rp0_13.out
      clear c150 c151 c152
      go_wp2_with fail
      (with_reducible refine (eqIntSS_same Ox2_13.out.read Oz2_13.out).mono ?_)
      rintro e w10 ⟨rfl, hw⟩
      have Z10 := Lib.hid (show w9.heap.size ≤ w10.heap.size from by have := hw.size; simpa using this)
      have K0_14 := Lib.hid (K0_13.out.trans' hw)
      have Rp0_14 := Lib.hid (row_ext Rp0_13.out hw)
      have Rw_14 := Lib.hid (row_ext Rw_13.out hw)
      have Rx0_14 := Lib.hid (row_ext Rx0_13.out hw)
      have Rg_14 := Lib.hid (row_ext Rg_13.out hw)
      have Ow_14 := Lib.hid (Ow_13.out.ext hw)
      have Ox0_14 := Lib.hid (Ox0_13.out.ext hw)
      have Ox2_14 := Lib.hid (Ox2_13.out.ext hw)
      have Og_14 := Lib.hid (Og_13.out.ext hw)
      have Oz2_14 := Lib.hid (Oz2_13.out.ext hw)
      clear hw
      obtain ⟨c160, c161, c162, -, -, -⟩ := row3_facts Rx0_14.out
      go_wp2_with fail
      (with_reducible refine (markNetwork_own Ox0_14.out NDx0.out hs0.out).mono ?_)
      obtain ⟨hq00, hq01⟩ := netLast_bound hs0.out
      rintro e w11 ⟨rfl, hc, hm⟩
      have Z11 := Lib.hid (show w10.heap.size ≤ w11.heap.size from by have := hc.size; simpa using this)
      have K0_15 := Lib.hid (Chg.ext K0_14.out hc fun b hb => by have := LOx0.out b hb; have := Z0.out; have := Z1.out; have := Z2.out; have := Z3.out; have := Z4.out; have := Z5.out; have := Z6.out; have := Z7.out; have := Z8.out; have := Z9.out; have := Z10.out; have := Z11.out; omega)
      have Rp0_15 := Lib.hid (Rp0_14.out.of_block (hc.block _ Rp0_14.out.lt fun hb => by have := LOx0.out _ hb; have := HIx0.out _ hb; have := Z0.out; have := Z1.out; have := Z2.out; have := Z3.out; have := Z4.out; have := Z5.out; have := Z6.out; have := Z7.out; have := Z8.out; have := Z9.out; have := Z10.out; have := Z11.out; omega))
      have Rw_15 := Lib.hid (Rw_14.out.of_block (hc.block _ Rw_14.out.lt fun hb => by have := LOx0.out _ hb; have := HIx0.out _ hb; have := Z0.out; have := Z1.out; have := Z2.out; have := Z3.out; have := Z4.out; have := Z5.out; have := Z6.out; have := Z7.out; have := Z8.out; have := Z9.out; have := Z10.out; have := Z11.out; omega))
      have Rx0_15 := Lib.hid (Rx0_14.out.of_block (hc.block _ Rx0_14.out.lt fun hb => by have := LOx0.out _ hb; have := HIx0.out _ hb; have := Z0.out; have := Z1.out; have := Z2.out; have := Z3.out; have := Z4.out; have := Z5.out; have := Z6.out; have := Z7.out; have := Z8.out; have := Z9.out; have := Z10.out; have := Z11.out; omega))
      have Rg_15 := Lib.hid (Rg_14.out.of_block (hc.block _ Rg_14.out.lt fun hb => by have := LOx0.out _ hb; have := HIx0.out _ hb; have := Z0.out; have := Z1.out; have := Z2.out; have := Z3.out; have := Z4.out; have := Z5.out; have := Z6.out; have := Z7.out; have := Z8.out; have := Z9.out; have := Z10.out; have := Z11.out; omega))
      have Ow_15 := Lib.hid (Ow_14.out.keep fun b hb => hc.block b (Ow_14.out.lt b hb) fun hb' => by have := LOx0.out b hb'; have := HIx0.out b hb'; have := LOw.out b hb; have := HIw.out b hb; have := Z0.out; have := Z1.out; have := Z2.out; have := Z3.out; have := Z4.out; have := Z5.out; have := Z6.out; have := Z7.out; have := Z8.out; have := Z9.out; have := Z10.out; have := Z11.out; omega)
      have Ox2_15 := Lib.hid (Ox2_14.out.keep fun b hb => hc.block b (Ox2_14.out.lt b hb) fun hb' => by have := LOx0.out b hb'; have := HIx0.out b hb'; have := LOx2.out b hb; have := HIx2.out b hb; have := Z0.out; have := Z1.out; have := Z2.out; have := Z3.out; have := Z4.out; have := Z5.out; have := Z6.out; have := Z7.out; have := Z8.out; have := Z9.out; have := Z10.out; have := Z11.out; omega)
      have Og_15 := Lib.hid (Og_14.out.keep fun b hb => hc.block b (Og_14.out.lt b hb) fun hb' => by have := LOx0.out b hb'; have := HIx0.out b hb'; have := LOg.out b hb; have := HIg.out b hb; have := Z0.out; have := Z1.out; have := Z2.out; have := Z3.out; have := Z4.out; have := Z5.out; have := Z6.out; have := Z7.out; have := Z8.out; have := Z9.out; have := Z10.out; have := Z11.out; omega)
      clear hc hm
      clear c160 c161 c162
      go_wp2_with fail
      (with_reducible refine (markIntSS_at _ Ox2_15.out NDx2.out hs2.out (by omega) (by omega)).mono ?_)
      rintro e w12 ⟨rm2, rfl, hrm0, hrm1, hc⟩
      have Z12 := Lib.hid (show w11.heap.size ≤ w12.heap.size from by have := hc.size; simpa using this)
      have K0_16 := Lib.hid (Chg.ext K0_15.out hc fun b hb => by have := LOx2.out b hb; have := Z0.out; have := Z1.out; have := Z2.out; have := Z3.out; have := Z4.out; have := Z5.out; have := Z6.out; have := Z7.out; have := Z8.out; have := Z9.out; have := Z10.out; have := Z11.out; have := Z12.out; omega)
      have Rp0_16 := Lib.hid (Rp0_15.out.of_block (hc.block _ Rp0_15.out.lt fun hb => by have := LOx2.out _ hb; have := HIx2.out _ hb; have := Z0.out; have := Z1.out; have := Z2.out; have := Z3.out; have := Z4.out; have := Z5.out; have := Z6.out; have := Z7.out; have := Z8.out; have := Z9.out; have := Z10.out; have := Z11.out; have := Z12.out; omega))
      have Rw_16 := Lib.hid (Rw_15.out.of_block (hc.block _ Rw_15.out.lt fun hb => by have := LOx2.out _ hb; have := HIx2.out _ hb; have := Z0.out; have := Z1.out; have := Z2.out; have := Z3.out; have := Z4.out; have := Z5.out; have := Z6.out; have := Z7.out; have := Z8.out; have := Z9.out; have := Z10.out; have := Z11.out; have := Z12.out; omega))
      have Rg_16 := Lib.hid (Rg_15.out.of_block (hc.block _ Rg_15.out.lt fun hb => by have := LOx2.out _ hb; have := HIx2.out _ hb; have := Z0.out; have := Z1.out; have := Z2.out; have := Z3.out; have := Z4.out; have := Z5.out; have := Z6.out; have := Z7.out; have := Z8.out; have := Z9.out; have := Z10.out; have := Z11.out; have := Z12.out; omega))
      have Ow_16 := Lib.hid (Ow_15.out.keep fun b hb => hc.block b (Ow_15.out.lt b hb) fun hb' => by have := LOx2.out b hb'; have := HIx2.out b hb'; have := LOw.out b hb; have := HIw.out b hb; have := Z0.out; have := Z1.out; have := Z2.out; have := Z3.out; have := Z4.out; have := Z5.out; have := Z6.out; have := Z7.out; have := Z8.out; have := Z9.out; have := Z10.out; have := Z11.out; have := Z12.out; omega)
      have Og_16 := Lib.hid (Og_15.out.keep fun b hb => hc.block b (Og_15.out.lt b hb) fun hb' => by have := LOx2.out b hb'; have := HIx2.out b hb'; have := LOg.out b hb; have := HIg.out b hb; have := Z0.out; have := Z1.out; have := Z2.out; have := Z3.out; have := Z4.out; have := Z5.out; have := Z6.out; have := Z7.out; have := Z8.out; have := Z9.out; have := Z10.out; have := Z11.out; have := Z12.out; omega)
      clear hc
      obtain ⟨c170, c171, c172, -, -, -⟩ := row3_facts Rg_16.out
      obtain ⟨c180, c181, c182, -, -, -⟩ := row3_facts Rw_16.out
      go_wp2_with fail
      (with_reducible refine (eqNetwork_same Og_16.out.read Ow_16.out.read).mono ?_)
      rintro e w13 ⟨rfl, hw⟩
      have Z13 := Lib.hid (show w12.heap.size ≤ w13.heap.size from by have := hw.size; simpa using this)
      have K0_17 := Lib.hid (K0_16.out.trans' hw)
      have Rp0_17 := Lib.hid (row_ext Rp0_16.out hw)
      have Rw_17 := Lib.hid (row_ext Rw_16.out hw)
      have Rg_17 := Lib.hid (row_ext Rg_16.out hw)
      have Ow_17 := Lib.hid (Ow_16.out.ext hw)
      have Og_17 := Lib.hid (Og_16.out.ext hw)
      clear hw
      clear c170 c171 c172 c180 c181 c182
      obtain ⟨c190, c191, c192, -, -, -⟩ := row3_facts Rg_17.out
      go_wp2_with fail
      (with_reducible refine (markNetwork_own Og_17.out NDg.out HLL.out).mono ?_)
      rintro e w14 ⟨rfl, hc, hm⟩
      have Z14 := Lib.hid (show w13.heap.size ≤ w14.heap.size from by have := hc.size; simpa using this)
      have K0_18 := Lib.hid (Chg.ext K0_17.out hc fun b hb => by have := LOg.out b hb; have := Z0.out; have := Z1.out; have := Z2.out; have := Z3.out; have := Z4.out; have := Z5.out; have := Z6.out; have := Z7.out; have := Z8.out; have := Z9.out; have := Z10.out; have := Z11.out; have := Z12.out; have := Z13.out; have := Z14.out; omega)
      have Rp0_18 := Lib.hid (Rp0_17.out.of_block (hc.block _ Rp0_17.out.lt fun hb => by have := LOg.out _ hb; have := HIg.out _ hb; have := Z0.out; have := Z1.out; have := Z2.out; have := Z3.out; have := Z4.out; have := Z5.out; have := Z6.out; have := Z7.out; have := Z8.out; have := Z9.out; have := Z10.out; have := Z11.out; have := Z12.out; have := Z13.out; have := Z14.out; omega))
      have Rw_18 := Lib.hid (Rw_17.out.of_block (hc.block _ Rw_17.out.lt fun hb => by have := LOg.out _ hb; have := HIg.out _ hb; have := Z0.out; have := Z1.out; have := Z2.out; have := Z3.out; have := Z4.out; have := Z5.out; have := Z6.out; have := Z7.out; have := Z8.out; have := Z9.out; have := Z10.out; have := Z11.out; have := Z12.out; have := Z13.out; have := Z14.out; omega))
      have Rg_18 := Lib.hid (Rg_17.out.of_block (hc.block _ Rg_17.out.lt fun hb => by have := LOg.out _ hb; have := HIg.out _ hb; have := Z0.out; have := Z1.out; have := Z2.out; have := Z3.out; have := Z4.out; have := Z5.out; have := Z6.out; have := Z7.out; have := Z8.out; have := Z9.out; have := Z10.out; have := Z11.out; have := Z12.out; have := Z13.out; have := Z14.out; omega))
      have Ow_18 := Lib.hid (Ow_17.out.keep fun b hb => hc.block b (Ow_17.out.lt b hb) fun hb' => by have := LOg.out b hb'; have := HIg.out b hb'; have := LOw.out b hb; have := HIw.out b hb; have := Z0.out; have := Z1.out; have := Z2.out; have := Z3.out; have := Z4.out; have := Z5.out; have := Z6.out; have := Z7.out; have := Z8.out; have := Z9.out; have := Z10.out; have := Z11.out; have := Z12.out; have := Z13.out; have := Z14.out; omega)
      have Og_18 := Lib.hid hm
      clear hc hm
      clear c190 c191 c192
      obtain ⟨c200, c201, c202, -, -, -⟩ := row3_facts Rg_18.out
      obtain ⟨hq0, _⟩ := HQ.out
      have hqq : (netLast (liftAns N0 n1 l2) != netLast (liftAns N0 n1 l2)) = false := by simp
      go_wp2_with fail
      (with_reducible refine (heldNetwork_any Og_18.out.read HLL.out).mono ?_)
      rintro e w15 ⟨rfl, hw⟩
      have Z15 := Lib.hid (show w14.heap.size ≤ w15.heap.size from by have := hw.size; simpa using this)
      have K0_19 := Lib.hid (K0_18.out.trans' hw)
      have Rp0_19 := Lib.hid (row_ext Rp0_18.out hw)
      have Rw_19 := Lib.hid (row_ext Rw_18.out hw)
      have Rg_19 := Lib.hid (row_ext Rg_18.out hw)
      have Ow_19 := Lib.hid (Ow_18.out.ext hw)
      have Og_19 := Lib.hid (Og_18.out.ext hw)
      clear hw
      clear c200 c201 c202
      obtain ⟨c210, c211, c212, -, -, -⟩ := row3_facts Rp0_19.out
      go_wp2_with fail
      (with_reducible refine (toNetwork_own (HN0.out.ext K0_19.out) hs0.out).mono ?_)
      rintro e w16 ⟨xu0, bu0, rfl, hw, ho, hf⟩
      have Z16 := Lib.hid (show w15.heap.size ≤ w16.heap.size from by have := hw.size; simpa using this)
      have K0_20 := Lib.hid (K0_19.out.trans' hw)
      have Rp0_20 := Lib.hid (row_ext Rp0_19.out hw)
      have Rw_20 := Lib.hid (row_ext Rw_19.out hw)
      have Rg_20 := Lib.hid (row_ext Rg_19.out hw)
      have Ow_20 := Lib.hid (Ow_19.out.ext hw)
      have Og_20 := Lib.hid (Og_19.out.ext hw)
      have Ou0_20 := Lib.hid ho.read
      clear hw ho hf
      clear c210 c211 c212
      obtain ⟨c220, c221, c222, -, -, -⟩ := row3_facts Rp0_20.out
      go_wp2_with fail
      (with_reducible refine (toIntSS_own (HN2.out.ext K0_20.out) hs2a hs2b).mono ?_)
      rintro e w17 ⟨u2a, u2c, bu2, rfl, hw, ho, hf⟩
      have Z17 := Lib.hid (show w16.heap.size ≤ w17.heap.size from by have := hw.size; simpa using this)
      have K0_21 := Lib.hid (K0_20.out.trans' hw)
      have Rp0_21 := Lib.hid (row_ext Rp0_20.out hw)
      have Rw_21 := Lib.hid (row_ext Rw_20.out hw)
      have Rg_21 := Lib.hid (row_ext Rg_20.out hw)
      have Ow_21 := Lib.hid (Ow_20.out.ext hw)
      have Og_21 := Lib.hid (Og_20.out.ext hw)
      have Ou0_21 := Lib.hid (Ou0_20.out.ext hw)
      have Ou2_21 := Lib.hid ho.read
      clear hw ho hf
      clear c220 c221 c222
      obtain ⟨c230, c231, c232, -, -, -⟩ := row3_facts Rp0_21.out
      clear c230 c231 c232
      go_wp2_with fail
      (with_reducible refine (liftOfS_any n1 Ou0_21.out Ou2_21.out hs2.out).mono ?_)
      rintro e w18 ⟨xh, bh, rfl, hw, ho, hf⟩
      have Z18 := Lib.hid (show w17.heap.size ≤ w18.heap.size from by have := hw.size; simpa using this)
      have LOh := Lib.hid (show ∀ b ∈ bh, w17.heap.size ≤ b from fun b hb => by have := hf.2 b hb; simpa using this)
      have HIh := Lib.hid (show ∀ b ∈ bh, b < w18.heap.size from ho.lt)
      have NDh : Hid bh.Nodup := hf.1
      obtain ⟨ha0, hc0, ha1, hc1, ha2, hc2, rfl⟩ := ho.agg
      have K0_22 := Lib.hid (K0_21.out.trans' hw)
      have Rp0_22 := Lib.hid (row_ext Rp0_21.out hw)
      have Rw_22 := Lib.hid (row_ext Rw_21.out hw)
      have Rg_22 := Lib.hid (row_ext Rg_21.out hw)
      have Ow_22 := Lib.hid (Ow_21.out.ext hw)
      have Og_22 := Lib.hid (Og_21.out.ext hw)
      have Ou0_22 := Lib.hid (Ou0_21.out.ext hw)
      have Ou2_22 := Lib.hid (Ou2_21.out.ext hw)
      have Oh_22 := Lib.hid ho
      clear hw ho hf
      have hA := (Ext.rfl' w18).alloc' (.cells #[.slice ha0 (liftAns N0 n1 l2).ends.length hc0, .slice ha1 (liftAns N0 n1 l2).ids.length hc1, .slice ha2 (liftAns N0 n1 l2).inputs.length hc2] 43)
      have K0_23 := Lib.hid (K0_22.out.trans' hA)
      have Rp0_23 := Lib.hid (row_ext Rp0_22.out hA)
      have Rw_23 := Lib.hid (row_ext Rw_22.out hA)
      have Rg_23 := Lib.hid (row_ext Rg_22.out hA)
      have Ow_23 := Lib.hid (Ow_22.out.ext hA)
      have Og_23 := Lib.hid (Og_22.out.ext hA)
      have Oh_23 := Lib.hid (Oh_22.out.ext hA)
      have Ou0_23 := Lib.hid (Ou0_22.out.ext hA)
      have Ou2_23 := Lib.hid (Ou2_22.out.ext hA)
      have Rh_23 := Lib.hid (row3_made w18 (.slice ha0 (liftAns N0 n1 l2).ends.length hc0) (.slice ha1 (liftAns N0 n1 l2).ids.length hc1) (.slice ha2 (liftAns N0 n1 l2).inputs.length hc2) 43)
      clear hA
      obtain ⟨c240, c241, c242, -, -, -⟩ := row3_facts Rh_23.out
      obtain ⟨c250, c251, c252, -, -, -⟩ := row3_facts Rw_23.out
      go_wp2_with fail
      (with_reducible refine (eqNetwork_same Oh_23.out.read Ow_23.out.read).mono ?_)
      rintro e w19 ⟨rfl, hw⟩
      have Z19 := Lib.hid (show w18.heap.size + 1 ≤ w19.heap.size from by have := hw.size; simpa using this)
      have K0_24 := Lib.hid (K0_23.out.trans' hw)
      have Rp0_24 := Lib.hid (row_ext Rp0_23.out hw)
      have Rw_24 := Lib.hid (row_ext Rw_23.out hw)
      have Rg_24 := Lib.hid (row_ext Rg_23.out hw)
      have Rh_24 := Lib.hid (row_ext Rh_23.out hw)
      have Ow_24 := Lib.hid (Ow_23.out.ext hw)
      have Og_24 := Lib.hid (Og_23.out.ext hw)
      have Oh_24 := Lib.hid (Oh_23.out.ext hw)
      clear hw
      clear c240 c241 c242 c250 c251 c252
      obtain ⟨c260, c261, c262, -, -, -⟩ := row3_facts Rg_24.out
      obtain ⟨hq0, _⟩ := HQ.out
      have hqq : (netLast (liftAns N0 n1 l2) != netLast (liftAns N0 n1 l2)) = false := by simp
      go_wp2_with fail
      (with_reducible refine (heldNetwork_any Og_24.out.read HLL.out).mono ?_)
      rintro e w20 ⟨rfl, hw⟩
      have Z20 := Lib.hid (show w19.heap.size ≤ w20.heap.size from by have := hw.size; simpa using this)
      have K0_25 := Lib.hid (K0_24.out.trans' hw)
      have Rp0_25 := Lib.hid (row_ext Rp0_24.out hw)
      have Rw_25 := Lib.hid (row_ext Rw_24.out hw)
      have Rg_25 := Lib.hid (row_ext Rg_24.out hw)
      have Rh_25 := Lib.hid (row_ext Rh_24.out hw)
      have Ow_25 := Lib.hid (Ow_24.out.ext hw)
      have Og_25 := Lib.hid (Og_24.out.ext hw)
      have Oh_25 := Lib.hid (Oh_24.out.ext hw)
      clear hw
      clear c260 c261 c262
      go_wp2
      go_ret
      exact ⟨rfl, K0_25.out⟩
theorem walk_LiftOf {w : World} {v0 : Value} {N0 : Net} {v2 : Value} {l2 : List (List Int)} (n1 : Int) (h0 : NetAt w v0 N0) (h2 : IntSS w v2 l2) :
    Calls Try.prog 16 #[v0, .int .i64 n1, v2] w fun e w' => e = .returned (.bool true) ∧ Ext w w' := walk_LiftOf_of n1 h0 h2 (liftAns_small _ _ _)
end Go.Proofs.Ytdcgpodjoalokaa
