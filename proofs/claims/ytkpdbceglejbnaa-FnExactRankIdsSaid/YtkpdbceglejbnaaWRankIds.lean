/- The walk of FnExactRankIds: whatever the arguments, the law answers true and changes nothing that was there. No condition but that the answer is short. -/
import Derived.Test.YtkpdbceglejbnaaRke
import Derived.Test.YtkpdbceglejbnaaRkg
import Derived.Test.YtkpdbceglejbnaaKc
namespace Go.Proofs.Ytkpdbceglejbnaa
open Go.RowKit

set_option maxHeartbeats 6400000 in
set_option maxRecDepth 100000 in
theorem walk_RankIds_of {w : World} {v0 : Value} {N0 : Net} (h0 : NetAt w v0 N0) (hll : (rankAns N0).small) :
    Calls Try.prog 13 #[v0] w fun e w' => e = .returned (.bool true) ∧ Ext w w' := by
  have HLL := Lib.hid hll
  have HQ := Lib.hid (netLast_bound hll)
  have HN0 := Lib.hid h0
  obtain ⟨v00, v01, v02, rfl, hE, hI, hP⟩ := h0
  clear hE hI hP
  have K0 := Lib.hid (boxed_ext w v00 v01 v02 28)
  have Rp0_0 := Lib.hid (show World.rowIs (boxed w v00 v01 v02 28) w.heap.size 28 3 (tri v00 v01 v02) from boxed_row w v00 v01 v02 28)
  have hbb : (dec (RankB N0) != dec (RankB N0)) = false := by simp
  go_enter Try.func13, Try.ntmps13
  go_wp2_with fail
  (with_reducible refine (szNetwork_any _ (HN0.out.ext K0.out) (by omega) (by omega)).mono ?_)
  rintro e w1 ⟨r0, rfl, hw, hr00, hr10, hr2⟩
  have Z0 := Lib.hid (show w.heap.size + 1 ≤ w1.heap.size from by have := hw.size; simpa using this)
  have K0_1 := Lib.hid (K0.out.trans' hw)
  have Rp0_1 := Lib.hid (row_ext Rp0_0.out hw)
  have S0 := Lib.hid hr2
  clear hw hr2
  obtain ⟨c10, c11, c12, -, -, -⟩ := row3_facts Rp0_1.out
  by_cases hneg0 : r0 < 0
  case pos =>
    go_wp2
    go_ret
    exact ⟨rfl, K0_1.out⟩
  case neg =>
    have hs0 := Lib.hid (S0.out (by omega))
    clear c10 c11 c12
    obtain ⟨c20, c21, c22, -, -, -⟩ := row3_facts Rp0_1.out
    go_wp2_with fail
    (with_reducible refine (toNetwork_own (HN0.out.ext K0_1.out) hs0.out).mono ?_)
    rintro e w2 ⟨xy0, by0, rfl, hw, ho, hf⟩
    have Z1 := Lib.hid (show w1.heap.size ≤ w2.heap.size from by have := hw.size; simpa using this)
    have K0_2 := Lib.hid (K0_1.out.trans' hw)
    have Rp0_2 := Lib.hid (row_ext Rp0_1.out hw)
    have Oy0_2 := Lib.hid ho.read
    clear hw ho hf
    clear c20 c21 c22
    obtain ⟨c30, c31, c32, -, -, -⟩ := row3_facts Rp0_2.out
    clear c30 c31 c32
    go_wp2_with fail
    (with_reducible refine (specRankIds_any Oy0_2.out).mono ?_)
    rintro e w3 ⟨xw, bw, rfl, hw, ho, hf⟩
    have Z2 := Lib.hid (show w2.heap.size ≤ w3.heap.size from by have := hw.size; simpa using this)
    have LOw := Lib.hid (show ∀ b ∈ bw, w2.heap.size ≤ b from fun b hb => by have := hf.2 b hb; simpa using this)
    have HIw := Lib.hid (show ∀ b ∈ bw, b < w3.heap.size from ho.lt)
    have NDw : Hid bw.Nodup := hf.1
    obtain ⟨wa0, wc0, wa1, wc1, wa2, wc2, rfl⟩ := ho.agg
    have K0_3 := Lib.hid (K0_2.out.trans' hw)
    have Rp0_3 := Lib.hid (row_ext Rp0_2.out hw)
    have Oy0_3 := Lib.hid (Oy0_2.out.ext hw)
    have Ow_3 := Lib.hid ho
    clear hw ho hf
    have hA := (Ext.rfl' w3).alloc' (.cells #[.slice wa0 (rankAns N0).ends.length wc0, .slice wa1 (rankAns N0).ids.length wc1, .slice wa2 (rankAns N0).inputs.length wc2] 34)
    have K0_4 := Lib.hid (K0_3.out.trans' hA)
    have Rp0_4 := Lib.hid (row_ext Rp0_3.out hA)
    have Ow_4 := Lib.hid (Ow_3.out.ext hA)
    have Oy0_4 := Lib.hid (Oy0_3.out.ext hA)
    have Rw_4 := Lib.hid (row3_made w3 (.slice wa0 (rankAns N0).ends.length wc0) (.slice wa1 (rankAns N0).ids.length wc1) (.slice wa2 (rankAns N0).inputs.length wc2) 34)
    clear hA
    obtain ⟨c40, c41, c42, -, -, -⟩ := row3_facts Rp0_4.out
    go_wp2_with fail
    (with_reducible refine (toNetwork_own (HN0.out.ext K0_4.out) hs0.out).mono ?_)
    rintro e w4 ⟨xx0, bx0, rfl, hw, ho, hf⟩
    have Z3 := Lib.hid (show w3.heap.size + 1 ≤ w4.heap.size from by have := hw.size; simpa using this)
    have LOx0 := Lib.hid (show ∀ b ∈ bx0, w3.heap.size + 1 ≤ b from fun b hb => by have := hf.2 b hb; simpa using this)
    have HIx0 := Lib.hid (show ∀ b ∈ bx0, b < w4.heap.size from ho.lt)
    have NDx0 : Hid bx0.Nodup := hf.1
    obtain ⟨x0a0, x0c0, x0a1, x0c1, x0a2, x0c2, rfl⟩ := ho.agg
    have K0_5 := Lib.hid (K0_4.out.trans' hw)
    have Rp0_5 := Lib.hid (row_ext Rp0_4.out hw)
    have Rw_5 := Lib.hid (row_ext Rw_4.out hw)
    have Ow_5 := Lib.hid (Ow_4.out.ext hw)
    have Ox0_5 := Lib.hid ho
    clear hw ho hf
    clear c40 c41 c42
    obtain ⟨c50, c51, c52, -, -, -⟩ := row3_facts Rp0_5.out
    have hA := (Ext.rfl' w4).alloc' (.cells #[.slice x0a0 N0.ends.length x0c0, .slice x0a1 N0.ids.length x0c1, .slice x0a2 N0.inputs.length x0c2] 34)
    have K0_6 := Lib.hid (K0_5.out.trans' hA)
    have Rp0_6 := Lib.hid (row_ext Rp0_5.out hA)
    have Rw_6 := Lib.hid (row_ext Rw_5.out hA)
    have Ow_6 := Lib.hid (Ow_5.out.ext hA)
    have Ox0_6 := Lib.hid (Ox0_5.out.ext hA)
    have Rx0_6 := Lib.hid (row3_made w4 (.slice x0a0 N0.ends.length x0c0) (.slice x0a1 N0.ids.length x0c1) (.slice x0a2 N0.inputs.length x0c2) 34)
    clear hA
    clear c50 c51 c52
    obtain ⟨c60, c61, c62, -, -, -⟩ := row3_facts Rp0_6.out
    clear c60 c61 c62
    obtain ⟨c70, c71, c72, -, -, -⟩ := row3_facts Rx0_6.out
    go_wp2_with fail
    (with_reducible refine (implRankIds_any Ox0_6.out.read).mono ?_)
    rintro e w5 ⟨xg, bg, rfl, hw, ho, hf⟩
    have Z4 := Lib.hid (show w4.heap.size + 1 ≤ w5.heap.size from by have := hw.size; simpa using this)
    have LOg := Lib.hid (show ∀ b ∈ bg, w4.heap.size + 1 ≤ b from fun b hb => by have := hf.2 b hb; simpa using this)
    have HIg := Lib.hid (show ∀ b ∈ bg, b < w5.heap.size from ho.lt)
    have NDg : Hid bg.Nodup := hf.1
    obtain ⟨ga0, gc0, ga1, gc1, ga2, gc2, rfl⟩ := ho.agg
    have K0_7 := Lib.hid (K0_6.out.trans' hw)
    have Rp0_7 := Lib.hid (row_ext Rp0_6.out hw)
    have Rw_7 := Lib.hid (row_ext Rw_6.out hw)
    have Rx0_7 := Lib.hid (row_ext Rx0_6.out hw)
    have Ow_7 := Lib.hid (Ow_6.out.ext hw)
    have Ox0_7 := Lib.hid (Ox0_6.out.ext hw)
    have Og_7 := Lib.hid ho
    clear hw ho hf
    have hA := (Ext.rfl' w5).alloc' (.cells #[.slice ga0 (rankAns N0).ends.length gc0, .slice ga1 (rankAns N0).ids.length gc1, .slice ga2 (rankAns N0).inputs.length gc2] 34)
    have K0_8 := Lib.hid (K0_7.out.trans' hA)
    have Rp0_8 := Lib.hid (row_ext Rp0_7.out hA)
    have Rw_8 := Lib.hid (row_ext Rw_7.out hA)
    have Rx0_8 := Lib.hid (row_ext Rx0_7.out hA)
    have Ow_8 := Lib.hid (Ow_7.out.ext hA)
    have Ox0_8 := Lib.hid (Ox0_7.out.ext hA)
    have Og_8 := Lib.hid (Og_7.out.ext hA)
    have Rg_8 := Lib.hid (row3_made w5 (.slice ga0 (rankAns N0).ends.length gc0) (.slice ga1 (rankAns N0).ids.length gc1) (.slice ga2 (rankAns N0).inputs.length gc2) 34)
    clear hA
    clear c70 c71 c72
    obtain ⟨c80, c81, c82, -, -, -⟩ := row3_facts Rg_8.out
    obtain ⟨c90, c91, c92, -, -, -⟩ := row3_facts Rw_8.out
    go_wp2_with fail
    (with_reducible refine (eqNetwork_same Og_8.out.read Ow_8.out.read).mono ?_)
    rintro e w6 ⟨rfl, hw⟩
    have Z5 := Lib.hid (show w5.heap.size + 1 ≤ w6.heap.size from by have := hw.size; simpa using this)
    have K0_9 := Lib.hid (K0_8.out.trans' hw)
    have Rp0_9 := Lib.hid (row_ext Rp0_8.out hw)
    have Rw_9 := Lib.hid (row_ext Rw_8.out hw)
    have Rx0_9 := Lib.hid (row_ext Rx0_8.out hw)
    have Rg_9 := Lib.hid (row_ext Rg_8.out hw)
    have Ow_9 := Lib.hid (Ow_8.out.ext hw)
    have Ox0_9 := Lib.hid (Ox0_8.out.ext hw)
    have Og_9 := Lib.hid (Og_8.out.ext hw)
    clear hw
    clear c80 c81 c82 c90 c91 c92
    obtain ⟨c100, c101, c102, -, -, -⟩ := row3_facts Rp0_9.out
    obtain ⟨c110, c111, c112, -, -, -⟩ := row3_facts Rx0_9.out
    go_wp2_with fail
    have Hd := Lib.hid (Ext.rfl' w6).drew'
    go_region_held3 (fun w' => w'.cell? ⟨w.heap.size, 0, none⟩ = some v00 ∧ w'.cell? ⟨w.heap.size, 1, none⟩ = some v01 ∧ w'.cell? ⟨w.heap.size, 2, none⟩ = some v02 ∧ w'.cell? ⟨w4.heap.size, 0, none⟩ = some (.slice x0a0 N0.ends.length x0c0) ∧ w'.cell? ⟨w4.heap.size, 1, none⟩ = some (.slice x0a1 N0.ids.length x0c1) ∧ w'.cell? ⟨w4.heap.size, 2, none⟩ = some (.slice x0a2 N0.inputs.length x0c2) ∧ Hid (Ext w6 w')) (first | exact ⟨c100, c101, c102, c110, c111, c112, Hd⟩ | exact ⟨hx.cell' (Hd.out.cell' c100), hx.cell' (Hd.out.cell' c101), hx.cell' (Hd.out.cell' c102), hx.cell' (Hd.out.cell' c110), hx.cell' (Hd.out.cell' c111), hx.cell' (Hd.out.cell' c112), Hd.out.trans' hx⟩ | exact ⟨hy.cell' (hx.cell' (Hd.out.cell' c100)), hy.cell' (hx.cell' (Hd.out.cell' c101)), hy.cell' (hx.cell' (Hd.out.cell' c102)), hy.cell' (hx.cell' (Hd.out.cell' c110)), hy.cell' (hx.cell' (Hd.out.cell' c111)), hy.cell' (hx.cell' (Hd.out.cell' c112)), (Hd.out.trans' hx).trans' hy⟩)
      (first | (go_at_call 19; (with_reducible refine (toNetwork_own (HN0.out.ext (K0_9.out.trans' Hd.out)) hs0.out).mono ?_); rintro e wa0 ⟨z, bz, rfl, hx, hoz, hfz⟩; have OZ := Lib.hid hoz.read; have HXZ := Lib.hid hx; clear hoz hfz) | (go_at_call 22; (with_reducible refine (eqNetwork_same (Ox0_9.out.read.ext (Hd.out.trans' HXZ.out)) OZ.out).mono ?_); rintro e wb0 ⟨rfl, hy⟩))
    rename_i hh
    have HY := hh.2.2.2.2.2.2
    clear hh hx hy HXZ OZ
    clear c100 c101 c102 c110 c111 c112
    clear Hd
    have Z6 := Lib.hid (show w6.heap.size ≤ wb0.heap.size from by have := HY.out.size; simpa using this)
    have K0_10 := Lib.hid (K0_9.out.trans' HY.out)
    have Rp0_10 := Lib.hid (row_ext Rp0_9.out HY.out)
    have Rw_10 := Lib.hid (row_ext Rw_9.out HY.out)
    have Rx0_10 := Lib.hid (row_ext Rx0_9.out HY.out)
    have Rg_10 := Lib.hid (row_ext Rg_9.out HY.out)
    have Ow_10 := Lib.hid (Ow_9.out.ext HY.out)
    have Ox0_10 := Lib.hid (Ox0_9.out.ext HY.out)
    have Og_10 := Lib.hid (Og_9.out.ext HY.out)
    clear HY
    obtain ⟨c120, c121, c122, -, -, -⟩ := row3_facts Rx0_10.out
    go_wp2_with fail
    (with_reducible refine (markNetwork_own Ox0_10.out NDx0.out hs0.out).mono ?_)
    obtain ⟨hq00, hq01⟩ := netLast_bound hs0.out
    rintro e w7 ⟨rfl, hc, hm⟩
    have Z7 := Lib.hid (show wb0.heap.size ≤ w7.heap.size from by have := hc.size; simpa using this)
    have K0_11 := Lib.hid (Chg.ext K0_10.out hc fun b hb => by have := LOx0.out b hb; have := Z0.out; have := Z1.out; have := Z2.out; have := Z3.out; have := Z4.out; have := Z5.out; have := Z6.out; have := Z7.out; omega)
    have Rp0_11 := Lib.hid (Rp0_10.out.of_block (hc.block _ Rp0_10.out.lt fun hb => by have := LOx0.out _ hb; have := HIx0.out _ hb; have := Z0.out; have := Z1.out; have := Z2.out; have := Z3.out; have := Z4.out; have := Z5.out; have := Z6.out; have := Z7.out; omega))
    have Rw_11 := Lib.hid (Rw_10.out.of_block (hc.block _ Rw_10.out.lt fun hb => by have := LOx0.out _ hb; have := HIx0.out _ hb; have := Z0.out; have := Z1.out; have := Z2.out; have := Z3.out; have := Z4.out; have := Z5.out; have := Z6.out; have := Z7.out; omega))
    have Rx0_11 := Lib.hid (Rx0_10.out.of_block (hc.block _ Rx0_10.out.lt fun hb => by have := LOx0.out _ hb; have := HIx0.out _ hb; have := Z0.out; have := Z1.out; have := Z2.out; have := Z3.out; have := Z4.out; have := Z5.out; have := Z6.out; have := Z7.out; omega))
    have Rg_11 := Lib.hid (Rg_10.out.of_block (hc.block _ Rg_10.out.lt fun hb => by have := LOx0.out _ hb; have := HIx0.out _ hb; have := Z0.out; have := Z1.out; have := Z2.out; have := Z3.out; have := Z4.out; have := Z5.out; have := Z6.out; have := Z7.out; omega))
    have Ow_11 := Lib.hid (Ow_10.out.keep fun b hb => hc.block b (Ow_10.out.lt b hb) fun hb' => by have := LOx0.out b hb'; have := HIx0.out b hb'; have := LOw.out b hb; have := HIw.out b hb; have := Z0.out; have := Z1.out; have := Z2.out; have := Z3.out; have := Z4.out; have := Z5.out; have := Z6.out; have := Z7.out; omega)
    have Og_11 := Lib.hid (Og_10.out.keep fun b hb => hc.block b (Og_10.out.lt b hb) fun hb' => by have := LOx0.out b hb'; have := HIx0.out b hb'; have := LOg.out b hb; have := HIg.out b hb; have := Z0.out; have := Z1.out; have := Z2.out; have := Z3.out; have := Z4.out; have := Z5.out; have := Z6.out; have := Z7.out; omega)
    clear hc hm
    clear c120 c121 c122
    obtain ⟨c130, c131, c132, -, -, -⟩ := row3_facts Rg_11.out
    obtain ⟨c140, c141, c142, -, -, -⟩ := row3_facts Rw_11.out
    go_wp2_with fail
    (with_reducible refine (eqNetwork_same Og_11.out.read Ow_11.out.read).mono ?_)
    rintro e w8 ⟨rfl, hw⟩
    have Z8 := Lib.hid (show w7.heap.size ≤ w8.heap.size from by have := hw.size; simpa using this)
    have K0_12 := Lib.hid (K0_11.out.trans' hw)
    have Rp0_12 := Lib.hid (row_ext Rp0_11.out hw)
    have Rw_12 := Lib.hid (row_ext Rw_11.out hw)
    have Rg_12 := Lib.hid (row_ext Rg_11.out hw)
    have Ow_12 := Lib.hid (Ow_11.out.ext hw)
    have Og_12 := Lib.hid (Og_11.out.ext hw)
    clear hw
    clear c130 c131 c132 c140 c141 c142
    obtain ⟨c150, c151, c152, -, -, -⟩ := row3_facts Rg_12.out
    go_wp2_with fail
    (with_reducible refine (markNetwork_own Og_12.out NDg.out HLL.out).mono ?_)
    rintro e w9 ⟨rfl, hc, hm⟩
    have Z9 := Lib.hid (show w8.heap.size ≤ w9.heap.size from by have := hc.size; simpa using this)
    have K0_13 := Lib.hid (Chg.ext K0_12.out hc fun b hb => by have := LOg.out b hb; have := Z0.out; have := Z1.out; have := Z2.out; have := Z3.out; have := Z4.out; have := Z5.out; have := Z6.out; have := Z7.out; have := Z8.out; have := Z9.out; omega)
    have Rp0_13 := Lib.hid (Rp0_12.out.of_block (hc.block _ Rp0_12.out.lt fun hb => by have := LOg.out _ hb; have := HIg.out _ hb; have := Z0.out; have := Z1.out; have := Z2.out; have := Z3.out; have := Z4.out; have := Z5.out; have := Z6.out; have := Z7.out; have := Z8.out; have := Z9.out; omega))
    have Rw_13 := Lib.hid (Rw_12.out.of_block (hc.block _ Rw_12.out.lt fun hb => by have := LOg.out _ hb; have := HIg.out _ hb; have := Z0.out; have := Z1.out; have := Z2.out; have := Z3.out; have := Z4.out; have := Z5.out; have := Z6.out; have := Z7.out; have := Z8.out; have := Z9.out; omega))
    have Rg_13 := Lib.hid (Rg_12.out.of_block (hc.block _ Rg_12.out.lt fun hb => by have := LOg.out _ hb; have := HIg.out _ hb; have := Z0.out; have := Z1.out; have := Z2.out; have := Z3.out; have := Z4.out; have := Z5.out; have := Z6.out; have := Z7.out; have := Z8.out; have := Z9.out; omega))
    have Ow_13 := Lib.hid (Ow_12.out.keep fun b hb => hc.block b (Ow_12.out.lt b hb) fun hb' => by have := LOg.out b hb'; have := HIg.out b hb'; have := LOw.out b hb; have := HIw.out b hb; have := Z0.out; have := Z1.out; have := Z2.out; have := Z3.out; have := Z4.out; have := Z5.out; have := Z6.out; have := Z7.out; have := Z8.out; have := Z9.out; omega)
    have Og_13 := Lib.hid hm
    clear hc hm
    clear c150 c151 c152
    obtain ⟨c160, c161, c162, -, -, -⟩ := row3_facts Rg_13.out
    obtain ⟨hq0, _⟩ := HQ.out
    have hqq : (netLast (rankAns N0) != netLast (rankAns N0)) = false := by simp
    go_wp2_with fail
    (with_reducible refine (heldNetwork_any Og_13.out.read HLL.out).mono ?_)
    rintro e w10 ⟨rfl, hw⟩
    have Z10 := Lib.hid (show w9.heap.size ≤ w10.heap.size from by have := hw.size; simpa using this)
    have K0_14 := Lib.hid (K0_13.out.trans' hw)
    have Rp0_14 := Lib.hid (row_ext Rp0_13.out hw)
    have Rw_14 := Lib.hid (row_ext Rw_13.out hw)
    have Rg_14 := Lib.hid (row_ext Rg_13.out hw)
    have Ow_14 := Lib.hid (Ow_13.out.ext hw)
    have Og_14 := Lib.hid (Og_13.out.ext hw)
    clear hw
    clear c160 c161 c162
    obtain ⟨c170, c171, c172, -, -, -⟩ := row3_facts Rp0_14.out
    go_wp2_with fail
    (with_reducible refine (toNetwork_own (HN0.out.ext K0_14.out) hs0.out).mono ?_)
    rintro e w11 ⟨xu0, bu0, rfl, hw, ho, hf⟩
    have Z11 := Lib.hid (show w10.heap.size ≤ w11.heap.size from by have := hw.size; simpa using this)
    have K0_15 := Lib.hid (K0_14.out.trans' hw)
    have Rp0_15 := Lib.hid (row_ext Rp0_14.out hw)
    have Rw_15 := Lib.hid (row_ext Rw_14.out hw)
    have Rg_15 := Lib.hid (row_ext Rg_14.out hw)
    have Ow_15 := Lib.hid (Ow_14.out.ext hw)
    have Og_15 := Lib.hid (Og_14.out.ext hw)
    have Ou0_15 := Lib.hid ho.read
    clear hw ho hf
    clear c170 c171 c172
    obtain ⟨c180, c181, c182, -, -, -⟩ := row3_facts Rp0_15.out
    clear c180 c181 c182
    go_wp2_with fail
    (with_reducible refine (implRankIds_any Ou0_15.out).mono ?_)
    rintro e w12 ⟨xh, bh, rfl, hw, ho, hf⟩
    have Z12 := Lib.hid (show w11.heap.size ≤ w12.heap.size from by have := hw.size; simpa using this)
    have LOh := Lib.hid (show ∀ b ∈ bh, w11.heap.size ≤ b from fun b hb => by have := hf.2 b hb; simpa using this)
    have HIh := Lib.hid (show ∀ b ∈ bh, b < w12.heap.size from ho.lt)
    have NDh : Hid bh.Nodup := hf.1
    obtain ⟨ha0, hc0, ha1, hc1, ha2, hc2, rfl⟩ := ho.agg
    have K0_16 := Lib.hid (K0_15.out.trans' hw)
    have Rp0_16 := Lib.hid (row_ext Rp0_15.out hw)
    have Rw_16 := Lib.hid (row_ext Rw_15.out hw)
    have Rg_16 := Lib.hid (row_ext Rg_15.out hw)
    have Ow_16 := Lib.hid (Ow_15.out.ext hw)
    have Og_16 := Lib.hid (Og_15.out.ext hw)
    have Ou0_16 := Lib.hid (Ou0_15.out.ext hw)
    have Oh_16 := Lib.hid ho
    clear hw ho hf
    have hA := (Ext.rfl' w12).alloc' (.cells #[.slice ha0 (rankAns N0).ends.length hc0, .slice ha1 (rankAns N0).ids.length hc1, .slice ha2 (rankAns N0).inputs.length hc2] 34)
    have K0_17 := Lib.hid (K0_16.out.trans' hA)
    have Rp0_17 := Lib.hid (row_ext Rp0_16.out hA)
    have Rw_17 := Lib.hid (row_ext Rw_16.out hA)
    have Rg_17 := Lib.hid (row_ext Rg_16.out hA)
    have Ow_17 := Lib.hid (Ow_16.out.ext hA)
    have Og_17 := Lib.hid (Og_16.out.ext hA)
    have Oh_17 := Lib.hid (Oh_16.out.ext hA)
    have Ou0_17 := Lib.hid (Ou0_16.out.ext hA)
    have Rh_17 := Lib.hid (row3_made w12 (.slice ha0 (rankAns N0).ends.length hc0) (.slice ha1 (rankAns N0).ids.length hc1) (.slice ha2 (rankAns N0).inputs.length hc2) 34)
    clear hA
    obtain ⟨c190, c191, c192, -, -, -⟩ := row3_facts Rh_17.out
    obtain ⟨c200, c201, c202, -, -, -⟩ := row3_facts Rw_17.out
    go_wp2_with fail
    (with_reducible refine (eqNetwork_same Oh_17.out.read Ow_17.out.read).mono ?_)
    rintro e w13 ⟨rfl, hw⟩
    have Z13 := Lib.hid (show w12.heap.size + 1 ≤ w13.heap.size from by have := hw.size; simpa using this)
    have K0_18 := Lib.hid (K0_17.out.trans' hw)
    have Rp0_18 := Lib.hid (row_ext Rp0_17.out hw)
    have Rw_18 := Lib.hid (row_ext Rw_17.out hw)
    have Rg_18 := Lib.hid (row_ext Rg_17.out hw)
    have Rh_18 := Lib.hid (row_ext Rh_17.out hw)
    have Ow_18 := Lib.hid (Ow_17.out.ext hw)
    have Og_18 := Lib.hid (Og_17.out.ext hw)
    have Oh_18 := Lib.hid (Oh_17.out.ext hw)
    clear hw
    clear c190 c191 c192 c200 c201 c202
    obtain ⟨c210, c211, c212, -, -, -⟩ := row3_facts Rg_18.out
    obtain ⟨hq0, _⟩ := HQ.out
    have hqq : (netLast (rankAns N0) != netLast (rankAns N0)) = false := by simp
    go_wp2_with fail
    (with_reducible refine (heldNetwork_any Og_18.out.read HLL.out).mono ?_)
    rintro e w14 ⟨rfl, hw⟩
    have Z14 := Lib.hid (show w13.heap.size ≤ w14.heap.size from by have := hw.size; simpa using this)
    have K0_19 := Lib.hid (K0_18.out.trans' hw)
    have Rp0_19 := Lib.hid (row_ext Rp0_18.out hw)
    have Rw_19 := Lib.hid (row_ext Rw_18.out hw)
    have Rg_19 := Lib.hid (row_ext Rg_18.out hw)
    have Rh_19 := Lib.hid (row_ext Rh_18.out hw)
    have Ow_19 := Lib.hid (Ow_18.out.ext hw)
    have Og_19 := Lib.hid (Og_18.out.ext hw)
    have Oh_19 := Lib.hid (Oh_18.out.ext hw)
    clear hw
    clear c210 c211 c212
    go_wp2
    go_ret
    exact ⟨rfl, K0_19.out⟩
theorem walk_RankIds {w : World} {v0 : Value} {N0 : Net} (h0 : NetAt w v0 N0) :
    Calls Try.prog 13 #[v0] w fun e w' => e = .returned (.bool true) ∧ Ext w w' := walk_RankIds_of  h0 (rankAns_small _)
end Go.Proofs.Ytkpdbceglejbnaa
