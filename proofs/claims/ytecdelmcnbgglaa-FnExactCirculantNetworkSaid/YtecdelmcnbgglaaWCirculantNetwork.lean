/- The walk of FnExactCirculantNetwork: whatever the arguments, the law answers true and changes nothing that was there. No condition but that the answer is short. -/
import Derived.Test.YtecdelmcnbgglaaCv
import Derived.Test.YtecdelmcnbgglaaKc
namespace Go.Proofs.Ytecdelmcnbgglaa
open Go.RowKit

set_option maxHeartbeats 6400000 in
set_option maxRecDepth 100000 in
theorem walk_CirculantNetwork_of {w : World} {v1 : Value} {l1 : List Int} (n0 : Int) (h1 : IntSl w v1 l1) (hll : ((ciAns n0 l1)).small) :
    Calls Try.prog 11 #[.int .i64 n0, v1] w fun e w' => e = .returned (.bool true) ∧ Ext w w' := by
  have HLL := Lib.hid hll
  have HQ := Lib.hid (netLast_bound hll)
  have HN1 := Lib.hid h1
  obtain ⟨la1, _, _, lc1, rfl, -, -, lm1, -⟩ := h1
  unfold maxLen at lm1
  have K0 := Lib.hid (Ext.rfl' w)
  have hbb : (dec ((CiOK n0 l1)) != dec ((CiOK n0 l1))) = false := by simp
  by_cases hg1 : l1.length ≤ 1048576
  case neg =>
    go_enter Try.func11, Try.ntmps11
    go_wp2
    go_ret
    exact ⟨rfl, K0.out⟩
  case pos =>
    go_enter Try.func11, Try.ntmps11
    go_wp2_with fail
    (with_reducible refine (toIntS_own (HN1.out.ext K0.out) hg1).mono ?_)
    rintro e w1 ⟨y1a, y1c, by1, rfl, hw, ho, hf⟩
    have Z0 := Lib.hid (show w.heap.size ≤ w1.heap.size from by have := hw.size; simpa using this)
    have K0_1 := Lib.hid (K0.out.trans' hw)
    have Oy1_1 := Lib.hid ho.read
    clear hw ho hf
    go_wp2_with fail
    (with_reducible refine (specCirc_any n0 Oy1_1.out hg1).mono ?_)
    rintro e w2 ⟨xw, bw, rfl, hw, ho, hf⟩
    have Z1 := Lib.hid (show w1.heap.size ≤ w2.heap.size from by have := hw.size; simpa using this)
    have LOw := Lib.hid (show ∀ b ∈ bw, w1.heap.size ≤ b from fun b hb => by have := hf.2 b hb; simpa using this)
    have HIw := Lib.hid (show ∀ b ∈ bw, b < w2.heap.size from ho.lt)
    have NDw : Hid bw.Nodup := hf.1
    obtain ⟨wa0, wc0, wa1, wc1, wa2, wc2, rfl⟩ := ho.agg
    have K0_2 := Lib.hid (K0_1.out.trans' hw)
    have Oy1_2 := Lib.hid (Oy1_1.out.ext hw)
    have Ow_2 := Lib.hid ho
    clear hw ho hf
    have hA := (Ext.rfl' w2).alloc' (.cells #[.slice wa0 ((ciAns n0 l1)).ends.length wc0, .slice wa1 ((ciAns n0 l1)).ids.length wc1, .slice wa2 ((ciAns n0 l1)).inputs.length wc2] 25)
    have K0_3 := Lib.hid (K0_2.out.trans' hA)
    have Ow_3 := Lib.hid (Ow_2.out.ext hA)
    have Oy1_3 := Lib.hid (Oy1_2.out.ext hA)
    have Rw_3 := Lib.hid (row3_made w2 (.slice wa0 ((ciAns n0 l1)).ends.length wc0) (.slice wa1 ((ciAns n0 l1)).ids.length wc1) (.slice wa2 ((ciAns n0 l1)).inputs.length wc2) 25)
    clear hA
    go_wp2_with fail
    (with_reducible refine (toIntS_own (HN1.out.ext K0_3.out) hg1).mono ?_)
    rintro e w3 ⟨x1a, x1c, bx1, rfl, hw, ho, hf⟩
    have Z2 := Lib.hid (show w2.heap.size + 1 ≤ w3.heap.size from by have := hw.size; simpa using this)
    have LOx1 := Lib.hid (show ∀ b ∈ bx1, w2.heap.size + 1 ≤ b from fun b hb => by have := hf.2 b hb; simpa using this)
    have HIx1 := Lib.hid (show ∀ b ∈ bx1, b < w3.heap.size from ho.1.lt)
    have NDx1 : Hid bx1.Nodup := hf.1
    have K0_4 := Lib.hid (K0_3.out.trans' hw)
    have Rw_4 := Lib.hid (row_ext Rw_3.out hw)
    have Ow_4 := Lib.hid (Ow_3.out.ext hw)
    have Ox1_4 := Lib.hid ho
    clear hw ho hf
    go_wp2_with fail
    (with_reducible refine (circ_law n0 Ox1_4.out.read hg1).mono ?_)
    rintro e w4 ⟨xg, bg, rfl, hw, ho, hf⟩
    have Z3 := Lib.hid (show w3.heap.size ≤ w4.heap.size from by have := hw.size; simpa using this)
    have LOg := Lib.hid (show ∀ b ∈ bg, w3.heap.size ≤ b from fun b hb => by have := hf.2 b hb; simpa using this)
    have HIg := Lib.hid (show ∀ b ∈ bg, b < w4.heap.size from ho.lt)
    have NDg : Hid bg.Nodup := hf.1
    obtain ⟨ga0, gc0, ga1, gc1, ga2, gc2, rfl⟩ := ho.agg
    have K0_5 := Lib.hid (K0_4.out.trans' hw)
    have Rw_5 := Lib.hid (row_ext Rw_4.out hw)
    have Ow_5 := Lib.hid (Ow_4.out.ext hw)
    have Ox1_5 := Lib.hid (Ox1_4.out.ext hw)
    have Og_5 := Lib.hid ho
    clear hw ho hf
    have hA := (Ext.rfl' w4).alloc' (.cells #[.slice ga0 ((ciAns n0 l1)).ends.length gc0, .slice ga1 ((ciAns n0 l1)).ids.length gc1, .slice ga2 ((ciAns n0 l1)).inputs.length gc2] 25)
    have K0_6 := Lib.hid (K0_5.out.trans' hA)
    have Rw_6 := Lib.hid (row_ext Rw_5.out hA)
    have Ow_6 := Lib.hid (Ow_5.out.ext hA)
    have Ox1_6 := Lib.hid (Ox1_5.out.ext hA)
    have Og_6 := Lib.hid (Og_5.out.ext hA)
    have Rg_6 := Lib.hid (row3_made w4 (.slice ga0 ((ciAns n0 l1)).ends.length gc0) (.slice ga1 ((ciAns n0 l1)).ids.length gc1) (.slice ga2 ((ciAns n0 l1)).inputs.length gc2) 25)
    clear hA
    obtain ⟨c10, c11, c12, -, -, -⟩ := row3_facts Rg_6.out
    obtain ⟨c20, c21, c22, -, -, -⟩ := row3_facts Rw_6.out
    go_wp2_with fail
    (with_reducible refine (eqNetwork_same Og_6.out.read Ow_6.out.read).mono ?_)
    rintro e w5 ⟨rfl, hw⟩
    have Z4 := Lib.hid (show w4.heap.size + 1 ≤ w5.heap.size from by have := hw.size; simpa using this)
    have K0_7 := Lib.hid (K0_6.out.trans' hw)
    have Rw_7 := Lib.hid (row_ext Rw_6.out hw)
    have Rg_7 := Lib.hid (row_ext Rg_6.out hw)
    have Ow_7 := Lib.hid (Ow_6.out.ext hw)
    have Ox1_7 := Lib.hid (Ox1_6.out.ext hw)
    have Og_7 := Lib.hid (Og_6.out.ext hw)
    clear hw
    clear c10 c11 c12 c20 c21 c22
    go_wp2_with fail
    (with_reducible refine (toIntS_own (HN1.out.ext K0_7.out) hg1).mono ?_)
    rintro e w6 ⟨z1a, z1c, bz1, rfl, hw, ho, hf⟩
    have Z5 := Lib.hid (show w5.heap.size ≤ w6.heap.size from by have := hw.size; simpa using this)
    have K0_8 := Lib.hid (K0_7.out.trans' hw)
    have Rw_8 := Lib.hid (row_ext Rw_7.out hw)
    have Rg_8 := Lib.hid (row_ext Rg_7.out hw)
    have Ow_8 := Lib.hid (Ow_7.out.ext hw)
    have Ox1_8 := Lib.hid (Ox1_7.out.ext hw)
    have Og_8 := Lib.hid (Og_7.out.ext hw)
    have Oz1_8 := Lib.hid ho.read
    clear hw ho hf
    go_wp2_with fail
    (with_reducible refine (eqIntS_same Ox1_8.out.read Oz1_8.out).mono ?_)
    rintro e w7 ⟨rfl, hw⟩
    have Z6 := Lib.hid (show w6.heap.size ≤ w7.heap.size from by have := hw.size; simpa using this)
    have K0_9 := Lib.hid (K0_8.out.trans' hw)
    have Rw_9 := Lib.hid (row_ext Rw_8.out hw)
    have Rg_9 := Lib.hid (row_ext Rg_8.out hw)
    have Ow_9 := Lib.hid (Ow_8.out.ext hw)
    have Ox1_9 := Lib.hid (Ox1_8.out.ext hw)
    have Og_9 := Lib.hid (Og_8.out.ext hw)
    have Oz1_9 := Lib.hid (Oz1_8.out.ext hw)
    clear hw
    go_wp2_with fail
    (with_reducible refine (markIntS_any _ Ox1_9.out hg1 (by omega) (by omega)).mono ?_)
    rintro e w8 ⟨rfl, hc, hm⟩
    have Z7 := Lib.hid (show w7.heap.size ≤ w8.heap.size from by have := hc.size; simpa using this)
    have K0_10 := Lib.hid (Chg.ext K0_9.out hc fun b hb => by have := LOx1.out b hb; have := Z0.out; have := Z1.out; have := Z2.out; have := Z3.out; have := Z4.out; have := Z5.out; have := Z6.out; have := Z7.out; omega)
    have Rw_10 := Lib.hid (Rw_9.out.of_block (hc.block _ Rw_9.out.lt fun hb => by have := LOx1.out _ hb; have := HIx1.out _ hb; have := Z0.out; have := Z1.out; have := Z2.out; have := Z3.out; have := Z4.out; have := Z5.out; have := Z6.out; have := Z7.out; omega))
    have Rg_10 := Lib.hid (Rg_9.out.of_block (hc.block _ Rg_9.out.lt fun hb => by have := LOx1.out _ hb; have := HIx1.out _ hb; have := Z0.out; have := Z1.out; have := Z2.out; have := Z3.out; have := Z4.out; have := Z5.out; have := Z6.out; have := Z7.out; omega))
    have Ow_10 := Lib.hid (Ow_9.out.keep fun b hb => hc.block b (Ow_9.out.lt b hb) fun hb' => by have := LOx1.out b hb'; have := HIx1.out b hb'; have := LOw.out b hb; have := HIw.out b hb; have := Z0.out; have := Z1.out; have := Z2.out; have := Z3.out; have := Z4.out; have := Z5.out; have := Z6.out; have := Z7.out; omega)
    have Og_10 := Lib.hid (Og_9.out.keep fun b hb => hc.block b (Og_9.out.lt b hb) fun hb' => by have := LOx1.out b hb'; have := HIx1.out b hb'; have := LOg.out b hb; have := HIg.out b hb; have := Z0.out; have := Z1.out; have := Z2.out; have := Z3.out; have := Z4.out; have := Z5.out; have := Z6.out; have := Z7.out; omega)
    clear hc hm
    obtain ⟨c30, c31, c32, -, -, -⟩ := row3_facts Rg_10.out
    obtain ⟨c40, c41, c42, -, -, -⟩ := row3_facts Rw_10.out
    go_wp2_with fail
    (with_reducible refine (eqNetwork_same Og_10.out.read Ow_10.out.read).mono ?_)
    rintro e w9 ⟨rfl, hw⟩
    have Z8 := Lib.hid (show w8.heap.size ≤ w9.heap.size from by have := hw.size; simpa using this)
    have K0_11 := Lib.hid (K0_10.out.trans' hw)
    have Rw_11 := Lib.hid (row_ext Rw_10.out hw)
    have Rg_11 := Lib.hid (row_ext Rg_10.out hw)
    have Ow_11 := Lib.hid (Ow_10.out.ext hw)
    have Og_11 := Lib.hid (Og_10.out.ext hw)
    clear hw
    clear c30 c31 c32 c40 c41 c42
    obtain ⟨c50, c51, c52, -, -, -⟩ := row3_facts Rg_11.out
    go_wp2_with fail
    (with_reducible refine (markNetwork_own Og_11.out NDg.out HLL.out).mono ?_)
    rintro e w10 ⟨rfl, hc, hm⟩
    have Z9 := Lib.hid (show w9.heap.size ≤ w10.heap.size from by have := hc.size; simpa using this)
    have K0_12 := Lib.hid (Chg.ext K0_11.out hc fun b hb => by have := LOg.out b hb; have := Z0.out; have := Z1.out; have := Z2.out; have := Z3.out; have := Z4.out; have := Z5.out; have := Z6.out; have := Z7.out; have := Z8.out; have := Z9.out; omega)
    have Rw_12 := Lib.hid (Rw_11.out.of_block (hc.block _ Rw_11.out.lt fun hb => by have := LOg.out _ hb; have := HIg.out _ hb; have := Z0.out; have := Z1.out; have := Z2.out; have := Z3.out; have := Z4.out; have := Z5.out; have := Z6.out; have := Z7.out; have := Z8.out; have := Z9.out; omega))
    have Rg_12 := Lib.hid (Rg_11.out.of_block (hc.block _ Rg_11.out.lt fun hb => by have := LOg.out _ hb; have := HIg.out _ hb; have := Z0.out; have := Z1.out; have := Z2.out; have := Z3.out; have := Z4.out; have := Z5.out; have := Z6.out; have := Z7.out; have := Z8.out; have := Z9.out; omega))
    have Ow_12 := Lib.hid (Ow_11.out.keep fun b hb => hc.block b (Ow_11.out.lt b hb) fun hb' => by have := LOg.out b hb'; have := HIg.out b hb'; have := LOw.out b hb; have := HIw.out b hb; have := Z0.out; have := Z1.out; have := Z2.out; have := Z3.out; have := Z4.out; have := Z5.out; have := Z6.out; have := Z7.out; have := Z8.out; have := Z9.out; omega)
    have Og_12 := Lib.hid hm
    clear hc hm
    clear c50 c51 c52
    obtain ⟨c60, c61, c62, -, -, -⟩ := row3_facts Rg_12.out
    obtain ⟨hq0, _⟩ := HQ.out
    have hqq : (netLast ((ciAns n0 l1)) != netLast ((ciAns n0 l1))) = false := by simp
    go_wp2_with fail
    (with_reducible refine (heldNetwork_any Og_12.out.read HLL.out).mono ?_)
    rintro e w11 ⟨rfl, hw⟩
    have Z10 := Lib.hid (show w10.heap.size ≤ w11.heap.size from by have := hw.size; simpa using this)
    have K0_13 := Lib.hid (K0_12.out.trans' hw)
    have Rw_13 := Lib.hid (row_ext Rw_12.out hw)
    have Rg_13 := Lib.hid (row_ext Rg_12.out hw)
    have Ow_13 := Lib.hid (Ow_12.out.ext hw)
    have Og_13 := Lib.hid (Og_12.out.ext hw)
    clear hw
    clear c60 c61 c62
    go_wp2_with fail
    (with_reducible refine (toIntS_own (HN1.out.ext K0_13.out) hg1).mono ?_)
    rintro e w12 ⟨u1a, u1c, bu1, rfl, hw, ho, hf⟩
    have Z11 := Lib.hid (show w11.heap.size ≤ w12.heap.size from by have := hw.size; simpa using this)
    have K0_14 := Lib.hid (K0_13.out.trans' hw)
    have Rw_14 := Lib.hid (row_ext Rw_13.out hw)
    have Rg_14 := Lib.hid (row_ext Rg_13.out hw)
    have Ow_14 := Lib.hid (Ow_13.out.ext hw)
    have Og_14 := Lib.hid (Og_13.out.ext hw)
    have Ou1_14 := Lib.hid ho.read
    clear hw ho hf
    go_wp2_with fail
    (with_reducible refine (circ_law n0 Ou1_14.out hg1).mono ?_)
    rintro e w13 ⟨xh, bh, rfl, hw, ho, hf⟩
    have Z12 := Lib.hid (show w12.heap.size ≤ w13.heap.size from by have := hw.size; simpa using this)
    have LOh := Lib.hid (show ∀ b ∈ bh, w12.heap.size ≤ b from fun b hb => by have := hf.2 b hb; simpa using this)
    have HIh := Lib.hid (show ∀ b ∈ bh, b < w13.heap.size from ho.lt)
    have NDh : Hid bh.Nodup := hf.1
    obtain ⟨ha0, hc0, ha1, hc1, ha2, hc2, rfl⟩ := ho.agg
    have K0_15 := Lib.hid (K0_14.out.trans' hw)
    have Rw_15 := Lib.hid (row_ext Rw_14.out hw)
    have Rg_15 := Lib.hid (row_ext Rg_14.out hw)
    have Ow_15 := Lib.hid (Ow_14.out.ext hw)
    have Og_15 := Lib.hid (Og_14.out.ext hw)
    have Ou1_15 := Lib.hid (Ou1_14.out.ext hw)
    have Oh_15 := Lib.hid ho
    clear hw ho hf
    have hA := (Ext.rfl' w13).alloc' (.cells #[.slice ha0 ((ciAns n0 l1)).ends.length hc0, .slice ha1 ((ciAns n0 l1)).ids.length hc1, .slice ha2 ((ciAns n0 l1)).inputs.length hc2] 25)
    have K0_16 := Lib.hid (K0_15.out.trans' hA)
    have Rw_16 := Lib.hid (row_ext Rw_15.out hA)
    have Rg_16 := Lib.hid (row_ext Rg_15.out hA)
    have Ow_16 := Lib.hid (Ow_15.out.ext hA)
    have Og_16 := Lib.hid (Og_15.out.ext hA)
    have Oh_16 := Lib.hid (Oh_15.out.ext hA)
    have Ou1_16 := Lib.hid (Ou1_15.out.ext hA)
    have Rh_16 := Lib.hid (row3_made w13 (.slice ha0 ((ciAns n0 l1)).ends.length hc0) (.slice ha1 ((ciAns n0 l1)).ids.length hc1) (.slice ha2 ((ciAns n0 l1)).inputs.length hc2) 25)
    clear hA
    obtain ⟨c70, c71, c72, -, -, -⟩ := row3_facts Rh_16.out
    obtain ⟨c80, c81, c82, -, -, -⟩ := row3_facts Rw_16.out
    go_wp2_with fail
    (with_reducible refine (eqNetwork_same Oh_16.out.read Ow_16.out.read).mono ?_)
    rintro e w14 ⟨rfl, hw⟩
    have Z13 := Lib.hid (show w13.heap.size + 1 ≤ w14.heap.size from by have := hw.size; simpa using this)
    have K0_17 := Lib.hid (K0_16.out.trans' hw)
    have Rw_17 := Lib.hid (row_ext Rw_16.out hw)
    have Rg_17 := Lib.hid (row_ext Rg_16.out hw)
    have Rh_17 := Lib.hid (row_ext Rh_16.out hw)
    have Ow_17 := Lib.hid (Ow_16.out.ext hw)
    have Og_17 := Lib.hid (Og_16.out.ext hw)
    have Oh_17 := Lib.hid (Oh_16.out.ext hw)
    clear hw
    clear c70 c71 c72 c80 c81 c82
    obtain ⟨c90, c91, c92, -, -, -⟩ := row3_facts Rg_17.out
    obtain ⟨hq0, _⟩ := HQ.out
    have hqq : (netLast ((ciAns n0 l1)) != netLast ((ciAns n0 l1))) = false := by simp
    go_wp2_with fail
    (with_reducible refine (heldNetwork_any Og_17.out.read HLL.out).mono ?_)
    rintro e w15 ⟨rfl, hw⟩
    have Z14 := Lib.hid (show w14.heap.size ≤ w15.heap.size from by have := hw.size; simpa using this)
    have K0_18 := Lib.hid (K0_17.out.trans' hw)
    have Rw_18 := Lib.hid (row_ext Rw_17.out hw)
    have Rg_18 := Lib.hid (row_ext Rg_17.out hw)
    have Rh_18 := Lib.hid (row_ext Rh_17.out hw)
    have Ow_18 := Lib.hid (Ow_17.out.ext hw)
    have Og_18 := Lib.hid (Og_17.out.ext hw)
    have Oh_18 := Lib.hid (Oh_17.out.ext hw)
    clear hw
    clear c90 c91 c92
    go_wp2
    go_ret
    exact ⟨rfl, K0_18.out⟩
theorem walk_CirculantNetwork {w : World} {v1 : Value} {l1 : List Int} (n0 : Int) (h1 : IntSl w v1 l1) :
    Calls Try.prog 11 #[.int .i64 n0, v1] w fun e w' => e = .returned (.bool true) ∧ Ext w w' := walk_CirculantNetwork_of n0 h1 ((ciAns_small n0 l1))
end Go.Proofs.Ytecdelmcnbgglaa
