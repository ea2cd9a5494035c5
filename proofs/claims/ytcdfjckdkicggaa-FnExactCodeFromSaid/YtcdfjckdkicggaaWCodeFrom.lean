/- The walk of FnExactCodeFrom: whatever the arguments, the law answers true and changes nothing that was there. No condition but that the answer is short. -/
import Derived.Test.YtcdfjckdkicggaaJg
import Derived.Test.YtcdfjckdkicggaaKc
namespace Go.Proofs.Ytcdfjckdkicggaa
open Go.RowKit

set_option maxHeartbeats 6400000 in
set_option maxRecDepth 100000 in
theorem walk_CodeFrom_of {w : World} {v0 : Value} {N0 : Net} (n1 : Int) (h0 : NetAt w v0 N0) (hll : (cdAns N0 n1).length ≤ 1048576 ∧ (wkAns N0 n1).length ≤ 1048576) :
    Calls Try.prog 3 #[v0, .int .i64 n1] w fun e w' => e = .returned (.bool true) ∧ Ext w w' := by
  have HLL := Lib.hid hll
  have HN0 := Lib.hid h0
  obtain ⟨v00, v01, v02, rfl, hE, hI, hP⟩ := h0
  clear hE hI hP
  have K0 := Lib.hid (boxed_ext w v00 v01 v02 25)
  have Rp0_0 := Lib.hid (show World.rowIs (boxed w v00 v01 v02 25) w.heap.size 25 3 (tri v00 v01 v02) from boxed_row w v00 v01 v02 25)
  have hmm : (1 + ((cdAns N0 n1).length : Int) + ((wkAns N0 n1).length : Int) != 1 + ((cdAns N0 n1).length : Int) + ((wkAns N0 n1).length : Int)) = false := by simp
  obtain ⟨hll1, hll2⟩ := hll
  have hbb : (dec (NodeAns N0 n1) != dec (NodeAns N0 n1)) = false := by simp
  go_enter Try.func3, Try.ntmps3
  go_wp2_with fail
  (with_reducible refine (szNetwork_any _ (HN0.out.ext K0.out) (by omega) (by omega)).mono ?_)
  rintro e w1 ⟨r0, rfl, hw, hr00, hr10, hr2⟩
  have Z0 := Lib.hid (show w.heap.size + 1 ≤ w1.heap.size from by have := hw.size; simpa using this)
  have K0_1 := Lib.hid (K0.out.trans' hw)
  have Rp0_1 := Lib.hid (row_ext Rp0_0.out hw)
  have S0 := Lib.hid hr2
  clear hw hr2
  obtain ⟨c10, c11, c12, -, -, -⟩ := row3_facts Rp0_1.out
  by_cases hneg0 : r0 < 0
  case pos =>
    go_wp2
    go_ret
    exact ⟨rfl, K0_1.out⟩
  case neg =>
    have hs0 := Lib.hid (S0.out (by omega))
    clear c10 c11 c12
    obtain ⟨c20, c21, c22, -, -, -⟩ := row3_facts Rp0_1.out
    go_wp2_with fail
    (with_reducible refine (toNetwork_own (HN0.out.ext K0_1.out) hs0.out).mono ?_)
    rintro e w2 ⟨xy0, by0, rfl, hw, ho, hf⟩
    have Z1 := Lib.hid (show w1.heap.size ≤ w2.heap.size from by have := hw.size; simpa using this)
    have K0_2 := Lib.hid (K0_1.out.trans' hw)
    have Rp0_2 := Lib.hid (row_ext Rp0_1.out hw)
    have Oy0_2 := Lib.hid ho.read
    clear hw ho hf
    clear c20 c21 c22
    obtain ⟨c30, c31, c32, -, -, -⟩ := row3_facts Rp0_2.out
    clear c30 c31 c32
    go_wp2_with fail
    (with_reducible refine (specCodeFrom_any n1 Oy0_2.out).mono ?_)
    rintro e w3 ⟨xw, yw, bw, dw, rfl, hw, ho, ho2, hf⟩
    have Z2 := Lib.hid (show w2.heap.size ≤ w3.heap.size from by have := hw.size; simpa using this)
    have LOw := Lib.hid (show ∀ b ∈ bw, w2.heap.size ≤ b from fun b hb => by have := hf.2 b (by simp [hb]); simpa using this)
    have HIw := Lib.hid (show ∀ b ∈ bw, b < w3.heap.size from ho.1.lt)
    have LOw2 := Lib.hid (show ∀ b ∈ dw, w2.heap.size ≤ b from fun b hb => by have := hf.2 b (by simp [hb]); simpa using this)
    have HIw2 := Lib.hid (show ∀ b ∈ dw, b < w3.heap.size from ho2.1.lt)
    have NDw := Lib.hid hf.1
    have K0_3 := Lib.hid (K0_2.out.trans' hw)
    have Rp0_3 := Lib.hid (row_ext Rp0_2.out hw)
    have Oy0_3 := Lib.hid (Oy0_2.out.ext hw)
    have Ow_3 := Lib.hid ho
    have Ow2_3 := Lib.hid ho2
    clear hw ho ho2 hf
    obtain ⟨c40, c41, c42, -, -, -⟩ := row3_facts Rp0_3.out
    go_wp2_with fail
    (with_reducible refine (toNetwork_own (HN0.out.ext K0_3.out) hs0.out).mono ?_)
    rintro e w4 ⟨xx0, bx0, rfl, hw, ho, hf⟩
    have Z3 := Lib.hid (show w3.heap.size ≤ w4.heap.size from by have := hw.size; simpa using this)
    have LOx0 := Lib.hid (show ∀ b ∈ bx0, w3.heap.size ≤ b from fun b hb => by have := hf.2 b hb; simpa using this)
    have HIx0 := Lib.hid (show ∀ b ∈ bx0, b < w4.heap.size from ho.lt)
    have NDx0 : Hid bx0.Nodup := hf.1
    obtain ⟨x0a0, x0c0, x0a1, x0c1, x0a2, x0c2, rfl⟩ := ho.agg
    have K0_4 := Lib.hid (K0_3.out.trans' hw)
    have Rp0_4 := Lib.hid (row_ext Rp0_3.out hw)
    have Ow_4 := Lib.hid (Ow_3.out.ext hw)
    have Ow2_4 := Lib.hid (Ow2_3.out.ext hw)
    have Ox0_4 := Lib.hid ho
    clear hw ho hf
    clear c40 c41 c42
    obtain ⟨c50, c51, c52, -, -, -⟩ := row3_facts Rp0_4.out
    have hA := (Ext.rfl' w4).alloc' (.cells #[.slice x0a0 N0.ends.length x0c0, .slice x0a1 N0.ids.length x0c1, .slice x0a2 N0.inputs.length x0c2] 31)
    have K0_5 := Lib.hid (K0_4.out.trans' hA)
    have Rp0_5 := Lib.hid (row_ext Rp0_4.out hA)
    have Ow_5 := Lib.hid (Ow_4.out.ext hA)
    have Ow2_5 := Lib.hid (Ow2_4.out.ext hA)
    have Ox0_5 := Lib.hid (Ox0_4.out.ext hA)
    have Rx0_5 := Lib.hid (row3_made w4 (.slice x0a0 N0.ends.length x0c0) (.slice x0a1 N0.ids.length x0c1) (.slice x0a2 N0.inputs.length x0c2) 31)
    clear hA
    clear c50 c51 c52
    obtain ⟨c60, c61, c62, -, -, -⟩ := row3_facts Rp0_5.out
    clear c60 c61 c62
    obtain ⟨c70, c71, c72, -, -, -⟩ := row3_facts Rx0_5.out
    go_wp2_with fail
    (with_reducible refine (codeFrom_any n1 Ox0_5.out.read).mono ?_)
    rintro e w5 ⟨xg, yg, bg, dg, rfl, hw, ho, ho2, hf⟩
    have Z4 := Lib.hid (show w4.heap.size + 1 ≤ w5.heap.size from by have := hw.size; simpa using this)
    have LOg := Lib.hid (show ∀ b ∈ bg, w4.heap.size + 1 ≤ b from fun b hb => by have := hf.2 b (by simp [hb]); simpa using this)
    have HIg := Lib.hid (show ∀ b ∈ bg, b < w5.heap.size from ho.1.lt)
    have LOg2 := Lib.hid (show ∀ b ∈ dg, w4.heap.size + 1 ≤ b from fun b hb => by have := hf.2 b (by simp [hb]); simpa using this)
    have HIg2 := Lib.hid (show ∀ b ∈ dg, b < w5.heap.size from ho2.1.lt)
    have NDg := Lib.hid hf.1
    have K0_6 := Lib.hid (K0_5.out.trans' hw)
    have Rp0_6 := Lib.hid (row_ext Rp0_5.out hw)
    have Rx0_6 := Lib.hid (row_ext Rx0_5.out hw)
    have Ow_6 := Lib.hid (Ow_5.out.ext hw)
    have Ow2_6 := Lib.hid (Ow2_5.out.ext hw)
    have Ox0_6 := Lib.hid (Ox0_5.out.ext hw)
    have Og_6 := Lib.hid ho
    have Og2_6 := Lib.hid ho2
    clear hw ho ho2 hf
    clear c70 c71 c72
    go_wp2_with fail
    (with_reducible refine (eqIntS_same Og_6.out.read Ow_6.out.read).mono ?_)
    rintro e w6 ⟨rfl, hw⟩
    have Z5 := Lib.hid (show w5.heap.size ≤ w6.heap.size from by have := hw.size; simpa using this)
    have K0_7 := Lib.hid (K0_6.out.trans' hw)
    have Rp0_7 := Lib.hid (row_ext Rp0_6.out hw)
    have Rx0_7 := Lib.hid (row_ext Rx0_6.out hw)
    have Ow_7 := Lib.hid (Ow_6.out.ext hw)
    have Ow2_7 := Lib.hid (Ow2_6.out.ext hw)
    have Ox0_7 := Lib.hid (Ox0_6.out.ext hw)
    have Og_7 := Lib.hid (Og_6.out.ext hw)
    have Og2_7 := Lib.hid (Og2_6.out.ext hw)
    clear hw
    go_wp2_with fail
    (with_reducible refine (eqIntS_same Og2_7.out.read Ow2_7.out.read).mono ?_)
    rintro e w7 ⟨rfl, hw⟩
    have Z6 := Lib.hid (show w6.heap.size ≤ w7.heap.size from by have := hw.size; simpa using this)
    have K0_8 := Lib.hid (K0_7.out.trans' hw)
    have Rp0_8 := Lib.hid (row_ext Rp0_7.out hw)
    have Rx0_8 := Lib.hid (row_ext Rx0_7.out hw)
    have Ow_8 := Lib.hid (Ow_7.out.ext hw)
    have Ow2_8 := Lib.hid (Ow2_7.out.ext hw)
    have Ox0_8 := Lib.hid (Ox0_7.out.ext hw)
    have Og_8 := Lib.hid (Og_7.out.ext hw)
    have Og2_8 := Lib.hid (Og2_7.out.ext hw)
    clear hw
    obtain ⟨c80, c81, c82, -, -, -⟩ := row3_facts Rp0_8.out
    obtain ⟨c90, c91, c92, -, -, -⟩ := row3_facts Rx0_8.out
    go_wp2_with fail
    have Hd := Lib.hid (Ext.rfl' w7).drew'
    go_region_held3 (fun w' => w'.cell? ⟨w.heap.size, 0, none⟩ = some v00 ∧ w'.cell? ⟨w.heap.size, 1, none⟩ = some v01 ∧ w'.cell? ⟨w.heap.size, 2, none⟩ = some v02 ∧ w'.cell? ⟨w4.heap.size, 0, none⟩ = some (.slice x0a0 N0.ends.length x0c0) ∧ w'.cell? ⟨w4.heap.size, 1, none⟩ = some (.slice x0a1 N0.ids.length x0c1) ∧ w'.cell? ⟨w4.heap.size, 2, none⟩ = some (.slice x0a2 N0.inputs.length x0c2) ∧ Hid (Ext w7 w')) (first | exact ⟨c80, c81, c82, c90, c91, c92, Hd⟩ | exact ⟨hx.cell' (Hd.out.cell' c80), hx.cell' (Hd.out.cell' c81), hx.cell' (Hd.out.cell' c82), hx.cell' (Hd.out.cell' c90), hx.cell' (Hd.out.cell' c91), hx.cell' (Hd.out.cell' c92), Hd.out.trans' hx⟩ | exact ⟨hy.cell' (hx.cell' (Hd.out.cell' c80)), hy.cell' (hx.cell' (Hd.out.cell' c81)), hy.cell' (hx.cell' (Hd.out.cell' c82)), hy.cell' (hx.cell' (Hd.out.cell' c90)), hy.cell' (hx.cell' (Hd.out.cell' c91)), hy.cell' (hx.cell' (Hd.out.cell' c92)), (Hd.out.trans' hx).trans' hy⟩)
      (first | (go_at_call 13; (with_reducible refine (toNetwork_own (HN0.out.ext (K0_8.out.trans' Hd.out)) hs0.out).mono ?_); rintro e wa0 ⟨z, bz, rfl, hx, hoz, hfz⟩; have OZ := Lib.hid hoz.read; have HXZ := Lib.hid hx; clear hoz hfz) | (go_at_call 16; (with_reducible refine (eqNetwork_same (Ox0_8.out.read.ext (Hd.out.trans' HXZ.out)) OZ.out).mono ?_); rintro e wb0 ⟨rfl, hy⟩))
    rename_i hh
    have HY := hh.2.2.2.2.2.2
    clear hh hx hy HXZ OZ
    clear c80 c81 c82 c90 c91 c92
    clear Hd
    have Z7 := Lib.hid (show w7.heap.size ≤ wb0.heap.size from by have := HY.out.size; simpa using this)
    have K0_9 := Lib.hid (K0_8.out.trans' HY.out)
    have Rp0_9 := Lib.hid (row_ext Rp0_8.out HY.out)
    have Rx0_9 := Lib.hid (row_ext Rx0_8.out HY.out)
    have Ow_9 := Lib.hid (Ow_8.out.ext HY.out)
    have Ow2_9 := Lib.hid (Ow2_8.out.ext HY.out)
    have Ox0_9 := Lib.hid (Ox0_8.out.ext HY.out)
    have Og_9 := Lib.hid (Og_8.out.ext HY.out)
    have Og2_9 := Lib.hid (Og2_8.out.ext HY.out)
    clear HY
    obtain ⟨c100, c101, c102, -, -, -⟩ := row3_facts Rx0_9.out
    go_wp2_with fail
    (with_reducible refine (markNetwork_own Ox0_9.out NDx0.out hs0.out).mono ?_)
    obtain ⟨hq00, hq01⟩ := netLast_bound hs0.out
    rintro e w8 ⟨rfl, hc, hm⟩
    have Z8 := Lib.hid (show wb0.heap.size ≤ w8.heap.size from by have := hc.size; simpa using this)
    have K0_10 := Lib.hid (Chg.ext K0_9.out hc fun b hb => by have := LOx0.out b hb; have := Z0.out; have := Z1.out; have := Z2.out; have := Z3.out; have := Z4.out; have := Z5.out; have := Z6.out; have := Z7.out; have := Z8.out; omega)
    have Rp0_10 := Lib.hid (Rp0_9.out.of_block (hc.block _ Rp0_9.out.lt fun hb => by have := LOx0.out _ hb; have := HIx0.out _ hb; have := Z0.out; have := Z1.out; have := Z2.out; have := Z3.out; have := Z4.out; have := Z5.out; have := Z6.out; have := Z7.out; have := Z8.out; omega))
    have Rx0_10 := Lib.hid (Rx0_9.out.of_block (hc.block _ Rx0_9.out.lt fun hb => by have := LOx0.out _ hb; have := HIx0.out _ hb; have := Z0.out; have := Z1.out; have := Z2.out; have := Z3.out; have := Z4.out; have := Z5.out; have := Z6.out; have := Z7.out; have := Z8.out; omega))
    have Ow_10 := Lib.hid (Ow_9.out.keep fun b hb => hc.block b (Ow_9.out.1.lt b hb) fun hb' => by have := LOx0.out b hb'; have := HIx0.out b hb'; have := LOw.out b hb; have := HIw.out b hb; have := Z0.out; have := Z1.out; have := Z2.out; have := Z3.out; have := Z4.out; have := Z5.out; have := Z6.out; have := Z7.out; have := Z8.out; omega)
    have Ow2_10 := Lib.hid (Ow2_9.out.keep fun b hb => hc.block b (Ow2_9.out.1.lt b hb) fun hb' => by have := LOx0.out b hb'; have := HIx0.out b hb'; have := LOw2.out b hb; have := HIw2.out b hb; have := Z0.out; have := Z1.out; have := Z2.out; have := Z3.out; have := Z4.out; have := Z5.out; have := Z6.out; have := Z7.out; have := Z8.out; omega)
    have Og_10 := Lib.hid (Og_9.out.keep fun b hb => hc.block b (Og_9.out.1.lt b hb) fun hb' => by have := LOx0.out b hb'; have := HIx0.out b hb'; have := LOg.out b hb; have := HIg.out b hb; have := Z0.out; have := Z1.out; have := Z2.out; have := Z3.out; have := Z4.out; have := Z5.out; have := Z6.out; have := Z7.out; have := Z8.out; omega)
    have Og2_10 := Lib.hid (Og2_9.out.keep fun b hb => hc.block b (Og2_9.out.1.lt b hb) fun hb' => by have := LOx0.out b hb'; have := HIx0.out b hb'; have := LOg2.out b hb; have := HIg2.out b hb; have := Z0.out; have := Z1.out; have := Z2.out; have := Z3.out; have := Z4.out; have := Z5.out; have := Z6.out; have := Z7.out; have := Z8.out; omega)
    clear hc hm
    clear c100 c101 c102
    go_wp2_with fail
    (with_reducible refine (eqIntS_same Og_10.out.read Ow_10.out.read).mono ?_)
    rintro e w9 ⟨rfl, hw⟩
    have Z9 := Lib.hid (show w8.heap.size ≤ w9.heap.size from by have := hw.size; simpa using this)
    have K0_11 := Lib.hid (K0_10.out.trans' hw)
    have Rp0_11 := Lib.hid (row_ext Rp0_10.out hw)
    have Ow_11 := Lib.hid (Ow_10.out.ext hw)
    have Ow2_11 := Lib.hid (Ow2_10.out.ext hw)
    have Og_11 := Lib.hid (Og_10.out.ext hw)
    have Og2_11 := Lib.hid (Og2_10.out.ext hw)
    clear hw
    go_wp2_with fail
    (with_reducible refine (eqIntS_same Og2_11.out.read Ow2_11.out.read).mono ?_)
    rintro e w10 ⟨rfl, hw⟩
    have Z10 := Lib.hid (show w9.heap.size ≤ w10.heap.size from by have := hw.size; simpa using this)
    have K0_12 := Lib.hid (K0_11.out.trans' hw)
    have Rp0_12 := Lib.hid (row_ext Rp0_11.out hw)
    have Ow_12 := Lib.hid (Ow_11.out.ext hw)
    have Ow2_12 := Lib.hid (Ow2_11.out.ext hw)
    have Og_12 := Lib.hid (Og_11.out.ext hw)
    have Og2_12 := Lib.hid (Og2_11.out.ext hw)
    clear hw
    go_wp2_with fail
    (with_reducible refine (markIntS_any _ Og_12.out hll1 (by omega) (by omega)).mono ?_)
    rintro e w11 ⟨rfl, hc, hm⟩
    have Z11 := Lib.hid (show w10.heap.size ≤ w11.heap.size from by have := hc.size; simpa using this)
    have K0_13 := Lib.hid (Chg.ext K0_12.out hc fun b hb => by have := LOg.out b hb; have := Z0.out; have := Z1.out; have := Z2.out; have := Z3.out; have := Z4.out; have := Z5.out; have := Z6.out; have := Z7.out; have := Z8.out; have := Z9.out; have := Z10.out; have := Z11.out; omega)
    have Rp0_13 := Lib.hid (Rp0_12.out.of_block (hc.block _ Rp0_12.out.lt fun hb => by have := LOg.out _ hb; have := HIg.out _ hb; have := Z0.out; have := Z1.out; have := Z2.out; have := Z3.out; have := Z4.out; have := Z5.out; have := Z6.out; have := Z7.out; have := Z8.out; have := Z9.out; have := Z10.out; have := Z11.out; omega))
    have Ow_13 := Lib.hid (Ow_12.out.keep fun b hb => hc.block b (Ow_12.out.1.lt b hb) fun hb' => by have := LOg.out b hb'; have := HIg.out b hb'; have := LOw.out b hb; have := HIw.out b hb; have := Z0.out; have := Z1.out; have := Z2.out; have := Z3.out; have := Z4.out; have := Z5.out; have := Z6.out; have := Z7.out; have := Z8.out; have := Z9.out; have := Z10.out; have := Z11.out; omega)
    have Ow2_13 := Lib.hid (Ow2_12.out.keep fun b hb => hc.block b (Ow2_12.out.1.lt b hb) fun hb' => by have := LOg.out b hb'; have := HIg.out b hb'; have := LOw2.out b hb; have := HIw2.out b hb; have := Z0.out; have := Z1.out; have := Z2.out; have := Z3.out; have := Z4.out; have := Z5.out; have := Z6.out; have := Z7.out; have := Z8.out; have := Z9.out; have := Z10.out; have := Z11.out; omega)
    have Og2_13 := Lib.hid (Og2_12.out.keep fun b hb => hc.block b (Og2_12.out.1.lt b hb) fun hb' => (List.nodup_append.1 NDg.out).2.2 b hb' b hb rfl)
    have Og_13 := Lib.hid hm
    clear hc hm
    go_wp2_with fail
    (with_reducible refine (markIntS_any _ Og2_13.out hll2 (by omega) (by omega)).mono ?_)
    rintro e w12 ⟨rfl, hc, hm⟩
    have Z12 := Lib.hid (show w11.heap.size ≤ w12.heap.size from by have := hc.size; simpa using this)
    have K0_14 := Lib.hid (Chg.ext K0_13.out hc fun b hb => by have := LOg2.out b hb; have := Z0.out; have := Z1.out; have := Z2.out; have := Z3.out; have := Z4.out; have := Z5.out; have := Z6.out; have := Z7.out; have := Z8.out; have := Z9.out; have := Z10.out; have := Z11.out; have := Z12.out; omega)
    have Rp0_14 := Lib.hid (Rp0_13.out.of_block (hc.block _ Rp0_13.out.lt fun hb => by have := LOg2.out _ hb; have := HIg2.out _ hb; have := Z0.out; have := Z1.out; have := Z2.out; have := Z3.out; have := Z4.out; have := Z5.out; have := Z6.out; have := Z7.out; have := Z8.out; have := Z9.out; have := Z10.out; have := Z11.out; have := Z12.out; omega))
    have Ow_14 := Lib.hid (Ow_13.out.keep fun b hb => hc.block b (Ow_13.out.1.lt b hb) fun hb' => by have := LOg2.out b hb'; have := HIg2.out b hb'; have := LOw.out b hb; have := HIw.out b hb; have := Z0.out; have := Z1.out; have := Z2.out; have := Z3.out; have := Z4.out; have := Z5.out; have := Z6.out; have := Z7.out; have := Z8.out; have := Z9.out; have := Z10.out; have := Z11.out; have := Z12.out; omega)
    have Ow2_14 := Lib.hid (Ow2_13.out.keep fun b hb => hc.block b (Ow2_13.out.1.lt b hb) fun hb' => by have := LOg2.out b hb'; have := HIg2.out b hb'; have := LOw2.out b hb; have := HIw2.out b hb; have := Z0.out; have := Z1.out; have := Z2.out; have := Z3.out; have := Z4.out; have := Z5.out; have := Z6.out; have := Z7.out; have := Z8.out; have := Z9.out; have := Z10.out; have := Z11.out; have := Z12.out; omega)
    have Og_14 := Lib.hid (Og_13.out.keep fun b hb => hc.block b (Og_13.out.1.lt b hb) fun hb' => (List.nodup_append.1 NDg.out).2.2 b hb b hb' rfl)
    have Og2_14 := Lib.hid hm
    clear hc hm
    go_wp2_with fail
    (with_reducible refine (heldIntS_any _ _ Og_14.out.read hll1 (by omega) (by omega)).mono ?_)
    rintro e w13 ⟨rfl, rfl⟩
    go_wp2_with fail
    (with_reducible refine (heldIntS_any _ _ Og2_14.out.read hll2 (by omega) (by omega)).mono ?_)
    rintro e w14 ⟨rfl, rfl⟩
    obtain ⟨c110, c111, c112, -, -, -⟩ := row3_facts Rp0_14.out
    go_wp2_with fail
    (with_reducible refine (toNetwork_own (HN0.out.ext K0_14.out) hs0.out).mono ?_)
    rintro e w15 ⟨xu0, bu0, rfl, hw, ho, hf⟩
    have Z13 := Lib.hid (show w12.heap.size ≤ w15.heap.size from by have := hw.size; simpa using this)
    have K0_15 := Lib.hid (K0_14.out.trans' hw)
    have Rp0_15 := Lib.hid (row_ext Rp0_14.out hw)
    have Ow_15 := Lib.hid (Ow_14.out.ext hw)
    have Ow2_15 := Lib.hid (Ow2_14.out.ext hw)
    have Og_15 := Lib.hid (Og_14.out.ext hw)
    have Og2_15 := Lib.hid (Og2_14.out.ext hw)
    have Ou0_15 := Lib.hid ho.read
    clear hw ho hf
    clear c110 c111 c112
    obtain ⟨c120, c121, c122, -, -, -⟩ := row3_facts Rp0_15.out
    clear c120 c121 c122
    go_wp2_with fail
    (with_reducible refine (codeFrom_any n1 Ou0_15.out).mono ?_)
    rintro e w16 ⟨xh, yh, bh, dh, rfl, hw, ho, ho2, hf⟩
    have Z14 := Lib.hid (show w15.heap.size ≤ w16.heap.size from by have := hw.size; simpa using this)
    have LOh := Lib.hid (show ∀ b ∈ bh, w15.heap.size ≤ b from fun b hb => by have := hf.2 b (by simp [hb]); simpa using this)
    have HIh := Lib.hid (show ∀ b ∈ bh, b < w16.heap.size from ho.1.lt)
    have LOh2 := Lib.hid (show ∀ b ∈ dh, w15.heap.size ≤ b from fun b hb => by have := hf.2 b (by simp [hb]); simpa using this)
    have HIh2 := Lib.hid (show ∀ b ∈ dh, b < w16.heap.size from ho2.1.lt)
    have NDh := Lib.hid hf.1
    have K0_16 := Lib.hid (K0_15.out.trans' hw)
    have Rp0_16 := Lib.hid (row_ext Rp0_15.out hw)
    have Ow_16 := Lib.hid (Ow_15.out.ext hw)
    have Ow2_16 := Lib.hid (Ow2_15.out.ext hw)
    have Og_16 := Lib.hid (Og_15.out.ext hw)
    have Og2_16 := Lib.hid (Og2_15.out.ext hw)
    have Ou0_16 := Lib.hid (Ou0_15.out.ext hw)
    have Oh_16 := Lib.hid ho
    have Oh2_16 := Lib.hid ho2
    clear hw ho ho2 hf
    go_wp2_with fail
    (with_reducible refine (eqIntS_same Oh_16.out.read Ow_16.out.read).mono ?_)
    rintro e w17 ⟨rfl, hw⟩
    have Z15 := Lib.hid (show w16.heap.size ≤ w17.heap.size from by have := hw.size; simpa using this)
    have K0_17 := Lib.hid (K0_16.out.trans' hw)
    have Rp0_17 := Lib.hid (row_ext Rp0_16.out hw)
    have Ow_17 := Lib.hid (Ow_16.out.ext hw)
    have Ow2_17 := Lib.hid (Ow2_16.out.ext hw)
    have Og_17 := Lib.hid (Og_16.out.ext hw)
    have Og2_17 := Lib.hid (Og2_16.out.ext hw)
    have Oh_17 := Lib.hid (Oh_16.out.ext hw)
    have Oh2_17 := Lib.hid (Oh2_16.out.ext hw)
    clear hw
    go_wp2_with fail
    (with_reducible refine (eqIntS_same Oh2_17.out.read Ow2_17.out.read).mono ?_)
    rintro e w18 ⟨rfl, hw⟩
    have Z16 := Lib.hid (show w17.heap.size ≤ w18.heap.size from by have := hw.size; simpa using this)
    have K0_18 := Lib.hid (K0_17.out.trans' hw)
    have Rp0_18 := Lib.hid (row_ext Rp0_17.out hw)
    have Ow_18 := Lib.hid (Ow_17.out.ext hw)
    have Ow2_18 := Lib.hid (Ow2_17.out.ext hw)
    have Og_18 := Lib.hid (Og_17.out.ext hw)
    have Og2_18 := Lib.hid (Og2_17.out.ext hw)
    have Oh_18 := Lib.hid (Oh_17.out.ext hw)
    have Oh2_18 := Lib.hid (Oh2_17.out.ext hw)
    clear hw
    go_wp2_with fail
    (with_reducible refine (heldIntS_any _ _ Og_18.out.read hll1 (by omega) (by omega)).mono ?_)
    rintro e w19 ⟨rfl, rfl⟩
    go_wp2_with fail
    (with_reducible refine (heldIntS_any _ _ Og2_18.out.read hll2 (by omega) (by omega)).mono ?_)
    rintro e w20 ⟨rfl, rfl⟩
    go_wp2
    go_ret
    exact ⟨rfl, K0_18.out⟩
theorem walk_CodeFrom {w : World} {v0 : Value} {N0 : Net} (n1 : Int) (h0 : NetAt w v0 N0) :
    Calls Try.prog 3 #[v0, .int .i64 n1] w fun e w' => e = .returned (.bool true) ∧ Ext w w' := walk_CodeFrom_of n1 h0 (cdwk_len _ _)
end Go.Proofs.Ytcdfjckdkicggaa
