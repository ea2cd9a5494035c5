/- The walk of FnExactRegularTree: whatever the arguments, the law answers true and changes nothing that was there. No condition but that the answer is short. -/
import Derived.Test.YtpkgghkibgadnaaRx
import Derived.Test.YtpkgghkibgadnaaKc
namespace Go.Proofs.Ytpkgghkibgadnaa
open Go.RowKit

set_option maxHeartbeats 6400000 in
set_option maxRecDepth 100000 in
theorem walk_RegularTree_of {w : World} (n0 : Int) (n1 : Int) (hll : (treeAns n0 n1).small) :
    Calls Try.prog 4 #[.int .i64 n0, .int .i64 n1] w fun e w' => e = .returned (.bool true) ∧ Ext w w' := by
  have HLL := Lib.hid hll
  have HQ := Lib.hid (netLast_bound hll)
  have K0 := Lib.hid (Ext.rfl' w)
  have hbb : (dec (TreeOK n0 n1) != dec (TreeOK n0 n1)) = false := by simp
  go_enter Try.func4, Try.ntmps4
  go_wp2_with fail
  (with_reducible refine (specTree_any n0 n1).mono ?_)
  rintro e w1 ⟨xw, bw, rfl, hw, ho, hf⟩
  have Z0 := Lib.hid (show w.heap.size ≤ w1.heap.size from by have := hw.size; simpa using this)
  have LOw := Lib.hid (show ∀ b ∈ bw, w.heap.size ≤ b from fun b hb => by have := hf.2 b hb; simpa using this)
  have HIw := Lib.hid (show ∀ b ∈ bw, b < w1.heap.size from ho.lt)
  have NDw : Hid bw.Nodup := hf.1
  obtain ⟨wa0, wc0, wa1, wc1, wa2, wc2, rfl⟩ := ho.agg
  have K0_1 := Lib.hid (K0.out.trans' hw)
  have Ow_1 := Lib.hid ho
  clear hw ho hf
  have hA := (Ext.rfl' w1).alloc' (.cells #[.slice wa0 (treeAns n0 n1).ends.length wc0, .slice wa1 (treeAns n0 n1).ids.length wc1, .slice wa2 (treeAns n0 n1).inputs.length wc2] 29)
  have K0_2 := Lib.hid (K0_1.out.trans' hA)
  have Ow_2 := Lib.hid (Ow_1.out.ext hA)
  have Rw_2 := Lib.hid (row3_made w1 (.slice wa0 (treeAns n0 n1).ends.length wc0) (.slice wa1 (treeAns n0 n1).ids.length wc1) (.slice wa2 (treeAns n0 n1).inputs.length wc2) 29)
  clear hA
  go_wp2_with fail
  (with_reducible refine (tree_any n0 n1).mono ?_)
  rintro e w2 ⟨xg, bg, rfl, hw, ho, hf⟩
  have Z1 := Lib.hid (show w1.heap.size + 1 ≤ w2.heap.size from by have := hw.size; simpa using this)
  have LOg := Lib.hid (show ∀ b ∈ bg, w1.heap.size + 1 ≤ b from fun b hb => by have := hf.2 b hb; simpa using this)
  have HIg := Lib.hid (show ∀ b ∈ bg, b < w2.heap.size from ho.lt)
  have NDg : Hid bg.Nodup := hf.1
  obtain ⟨ga0, gc0, ga1, gc1, ga2, gc2, rfl⟩ := ho.agg
  have K0_3 := Lib.hid (K0_2.out.trans' hw)
  have Rw_3 := Lib.hid (row_ext Rw_2.out hw)
  have Ow_3 := Lib.hid (Ow_2.out.ext hw)
  have Og_3 := Lib.hid ho
  clear hw ho hf
  have hA := (Ext.rfl' w2).alloc' (.cells #[.slice ga0 (treeAns n0 n1).ends.length gc0, .slice ga1 (treeAns n0 n1).ids.length gc1, .slice ga2 (treeAns n0 n1).inputs.length gc2] 29)
  have K0_4 := Lib.hid (K0_3.out.trans' hA)
  have Rw_4 := Lib.hid (row_ext Rw_3.out hA)
  have Ow_4 := Lib.hid (Ow_3.out.ext hA)
  have Og_4 := Lib.hid (Og_3.out.ext hA)
  have Rg_4 := Lib.hid (row3_made w2 (.slice ga0 (treeAns n0 n1).ends.length gc0) (.slice ga1 (treeAns n0 n1).ids.length gc1) (.slice ga2 (treeAns n0 n1).inputs.length gc2) 29)
  clear hA
  obtain ⟨c10, c11, c12, -, -, -⟩ := row3_facts Rg_4.out
  obtain ⟨c20, c21, c22, -, -, -⟩ := row3_facts Rw_4.out
  go_wp2_with fail
  (with_reducible refine (eqNetwork_same Og_4.out.read Ow_4.out.read).mono ?_)
  rintro e w3 ⟨rfl, hw⟩
  have Z2 := Lib.hid (show w2.heap.size + 1 ≤ w3.heap.size from by have := hw.size; simpa using this)
  have K0_5 := Lib.hid (K0_4.out.trans' hw)
  have Rw_5 := Lib.hid (row_ext Rw_4.out hw)
  have Rg_5 := Lib.hid (row_ext Rg_4.out hw)
  have Ow_5 := Lib.hid (Ow_4.out.ext hw)
  have Og_5 := Lib.hid (Og_4.out.ext hw)
  clear hw
  clear c10 c11 c12 c20 c21 c22
  obtain ⟨c30, c31, c32, -, -, -⟩ := row3_facts Rg_5.out
  go_wp2_with fail
  (with_reducible refine (markNetwork_own Og_5.out NDg.out HLL.out).mono ?_)
  rintro e w4 ⟨rfl, hc, hm⟩
  have Z3 := Lib.hid (show w3.heap.size ≤ w4.heap.size from by have := hc.size; simpa using this)
  have K0_6 := Lib.hid (Chg.ext K0_5.out hc fun b hb => by have := LOg.out b hb; have := Z0.out; have := Z1.out; have := Z2.out; have := Z3.out; omega)
  have Rw_6 := Lib.hid (Rw_5.out.of_block (hc.block _ Rw_5.out.lt fun hb => by have := LOg.out _ hb; have := HIg.out _ hb; have := Z0.out; have := Z1.out; have := Z2.out; have := Z3.out; omega))
  have Rg_6 := Lib.hid (Rg_5.out.of_block (hc.block _ Rg_5.out.lt fun hb => by have := LOg.out _ hb; have := HIg.out _ hb; have := Z0.out; have := Z1.out; have := Z2.out; have := Z3.out; omega))
  have Ow_6 := Lib.hid (Ow_5.out.keep fun b hb => hc.block b (Ow_5.out.lt b hb) fun hb' => by have := LOg.out b hb'; have := HIg.out b hb'; have := LOw.out b hb; have := HIw.out b hb; have := Z0.out; have := Z1.out; have := Z2.out; have := Z3.out; omega)
  have Og_6 := Lib.hid hm
  clear hc hm
  clear c30 c31 c32
  obtain ⟨c40, c41, c42, -, -, -⟩ := row3_facts Rg_6.out
  obtain ⟨hq0, _⟩ := HQ.out
  have hqq : (netLast (treeAns n0 n1) != netLast (treeAns n0 n1)) = false := by simp
  go_wp2_with fail
  (with_reducible refine (heldNetwork_any Og_6.out.read HLL.out).mono ?_)
  rintro e w5 ⟨rfl, hw⟩
  have Z4 := Lib.hid (show w4.heap.size ≤ w5.heap.size from by have := hw.size; simpa using this)
  have K0_7 := Lib.hid (K0_6.out.trans' hw)
  have Rw_7 := Lib.hid (row_ext Rw_6.out hw)
  have Rg_7 := Lib.hid (row_ext Rg_6.out hw)
  have Ow_7 := Lib.hid (Ow_6.out.ext hw)
  have Og_7 := Lib.hid (Og_6.out.ext hw)
  clear hw
  clear c40 c41 c42
  go_wp2_with fail
  (with_reducible refine (tree_any n0 n1).mono ?_)
  rintro e w6 ⟨xh, bh, rfl, hw, ho, hf⟩
  have Z5 := Lib.hid (show w5.heap.size ≤ w6.heap.size from by have := hw.size; simpa using this)
  have LOh := Lib.hid (show ∀ b ∈ bh, w5.heap.size ≤ b from fun b hb => by have := hf.2 b hb; simpa using this)
  have HIh := Lib.hid (show ∀ b ∈ bh, b < w6.heap.size from ho.lt)
  have NDh : Hid bh.Nodup := hf.1
  obtain ⟨ha0, hc0, ha1, hc1, ha2, hc2, rfl⟩ := ho.agg
  have K0_8 := Lib.hid (K0_7.out.trans' hw)
  have Rw_8 := Lib.hid (row_ext Rw_7.out hw)
  have Rg_8 := Lib.hid (row_ext Rg_7.out hw)
  have Ow_8 := Lib.hid (Ow_7.out.ext hw)
  have Og_8 := Lib.hid (Og_7.out.ext hw)
  have Oh_8 := Lib.hid ho
  clear hw ho hf
  have hA := (Ext.rfl' w6).alloc' (.cells #[.slice ha0 (treeAns n0 n1).ends.length hc0, .slice ha1 (treeAns n0 n1).ids.length hc1, .slice ha2 (treeAns n0 n1).inputs.length hc2] 29)
  have K0_9 := Lib.hid (K0_8.out.trans' hA)
  have Rw_9 := Lib.hid (row_ext Rw_8.out hA)
  have Rg_9 := Lib.hid (row_ext Rg_8.out hA)
  have Ow_9 := Lib.hid (Ow_8.out.ext hA)
  have Og_9 := Lib.hid (Og_8.out.ext hA)
  have Oh_9 := Lib.hid (Oh_8.out.ext hA)
  have Rh_9 := Lib.hid (row3_made w6 (.slice ha0 (treeAns n0 n1).ends.length hc0) (.slice ha1 (treeAns n0 n1).ids.length hc1) (.slice ha2 (treeAns n0 n1).inputs.length hc2) 29)
  clear hA
  obtain ⟨c50, c51, c52, -, -, -⟩ := row3_facts Rh_9.out
  obtain ⟨c60, c61, c62, -, -, -⟩ := row3_facts Rw_9.out
  go_wp2_with fail
  (with_reducible refine (eqNetwork_same Oh_9.out.read Ow_9.out.read).mono ?_)
  rintro e w7 ⟨rfl, hw⟩
  have Z6 := Lib.hid (show w6.heap.size + 1 ≤ w7.heap.size from by have := hw.size; simpa using this)
  have K0_10 := Lib.hid (K0_9.out.trans' hw)
  have Rw_10 := Lib.hid (row_ext Rw_9.out hw)
  have Rg_10 := Lib.hid (row_ext Rg_9.out hw)
  have Rh_10 := Lib.hid (row_ext Rh_9.out hw)
  have Ow_10 := Lib.hid (Ow_9.out.ext hw)
  have Og_10 := Lib.hid (Og_9.out.ext hw)
  have Oh_10 := Lib.hid (Oh_9.out.ext hw)
  clear hw
  clear c50 c51 c52 c60 c61 c62
  obtain ⟨c70, c71, c72, -, -, -⟩ := row3_facts Rg_10.out
  obtain ⟨hq0, _⟩ := HQ.out
  have hqq : (netLast (treeAns n0 n1) != netLast (treeAns n0 n1)) = false := by simp
  go_wp2_with fail
  (with_reducible refine (heldNetwork_any Og_10.out.read HLL.out).mono ?_)
  rintro e w8 ⟨rfl, hw⟩
  have Z7 := Lib.hid (show w7.heap.size ≤ w8.heap.size from by have := hw.size; simpa using this)
  have K0_11 := Lib.hid (K0_10.out.trans' hw)
  have Rw_11 := Lib.hid (row_ext Rw_10.out hw)
  have Rg_11 := Lib.hid (row_ext Rg_10.out hw)
  have Rh_11 := Lib.hid (row_ext Rh_10.out hw)
  have Ow_11 := Lib.hid (Ow_10.out.ext hw)
  have Og_11 := Lib.hid (Og_10.out.ext hw)
  have Oh_11 := Lib.hid (Oh_10.out.ext hw)
  clear hw
  clear c70 c71 c72
  go_wp2
  go_ret
  exact ⟨rfl, K0_11.out⟩
theorem walk_RegularTree {w : World} (n0 : Int) (n1 : Int) :
    Calls Try.prog 4 #[.int .i64 n0, .int .i64 n1] w fun e w' => e = .returned (.bool true) ∧ Ext w w' := walk_RegularTree_of n0 n1  (treeAns_small _ _)
end Go.Proofs.Ytpkgghkibgadnaa
