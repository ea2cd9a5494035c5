/- The walk of FnExactReachableStates: whatever the arguments, the law answers true and changes nothing that was there. No condition but that the answer is short. -/
import Derived.Test.YtdcgpodjoalokaaMei
import Derived.Test.YtdcgpodjoalokaaMk
import Derived.Test.YtdcgpodjoalokaaMd
import Derived.Test.YtdcgpodjoalokaaMe
import Derived.Test.YtdcgpodjoalokaaMf
import Derived.Test.YtdcgpodjoalokaaKc
namespace Go.Proofs.Ytdcgpodjoalokaa
open Go.RowKit

set_option maxHeartbeats 6400000 in
set_option maxRecDepth 100000 in
theorem walk_ReachableStates_of {w : World} {v0 : Value} {M0 : Mach} (h0 : MachAt w v0 M0) (hll : (reAns M0).length ≤ 1048576) :
    Calls Try.prog 15 #[v0] w fun e w' => e = .returned (.bool true) ∧ Ext w w' := by
  have HLL := Lib.hid hll
  have HN0 := Lib.hid h0
  obtain ⟨v0a3, v0c3, v0a4, v0c4, v0a5, v0c5, v0a6, v0c6, rfl, -⟩ := h0
  have K0 := Lib.hid (boxed7_ext w (.int .i64 M0.deg) (.int .i64 M0.sts) (.int .i64 M0.msgs) (.slice v0a3 M0.start.length v0c3) (.slice v0a4 M0.send.length v0c4) (.slice v0a5 M0.cls.length v0c5) (.slice v0a6 M0.out.length v0c6) 26)
  have Rp0_0 := Lib.hid (show World.rowIs (boxed7 w (.int .i64 M0.deg) (.int .i64 M0.sts) (.int .i64 M0.msgs) (.slice v0a3 M0.start.length v0c3) (.slice v0a4 M0.send.length v0c4) (.slice v0a5 M0.cls.length v0c5) (.slice v0a6 M0.out.length v0c6) 26) w.heap.size 26 7 (sept (.int .i64 M0.deg) (.int .i64 M0.sts) (.int .i64 M0.msgs) (.slice v0a3 M0.start.length v0c3) (.slice v0a4 M0.send.length v0c4) (.slice v0a5 M0.cls.length v0c5) (.slice v0a6 M0.out.length v0c6)) from boxed7_row w (.int .i64 M0.deg) (.int .i64 M0.sts) (.int .i64 M0.msgs) (.slice v0a3 M0.start.length v0c3) (.slice v0a4 M0.send.length v0c4) (.slice v0a5 M0.cls.length v0c5) (.slice v0a6 M0.out.length v0c6) 26)
  have hmm : (1 + ((reAns M0).length : Int) != 1 + ((reAns M0).length : Int)) = false := by simp
  have hbb : (dec (MachOK M0) != dec (MachOK M0)) = false := by simp
  go_enter Try.func15, Try.ntmps15
  go_wp2_with fail
  (with_reducible refine (szMachine_any _ (HN0.out.ext K0.out) (by omega) (by omega)).mono ?_)
  rintro e w1 ⟨r0, rfl, hw, hr00, hr10, hr2⟩
  have Z0 := Lib.hid (show w.heap.size + 1 ≤ w1.heap.size from by have := hw.size; simpa using this)
  have K0_1 := Lib.hid (K0.out.trans' hw)
  have Rp0_1 := Lib.hid (row_ext Rp0_0.out hw)
  have S0 := Lib.hid hr2
  clear hw hr2
  obtain ⟨c10, c11, c12, c13, c14, c15, c16⟩ := row7_facts Rp0_1.out
  by_cases hneg0 : r0 < 0
  case pos =>
    go_wp2
    go_ret
    exact ⟨rfl, K0_1.out⟩
  case neg =>
    have hs0 := Lib.hid (S0.out (by omega))
    clear c10 c11 c12 c13 c14 c15 c16
    obtain ⟨c20, c21, c22, c23, c24, c25, c26⟩ := row7_facts Rp0_1.out
    go_wp2_with fail
    (with_reducible refine (toMachine_own (HN0.out.ext K0_1.out) hs0.out).mono ?_)
    rintro e w2 ⟨xy0, by0, rfl, hw, ho, hf⟩
    have Z1 := Lib.hid (show w1.heap.size ≤ w2.heap.size from by have := hw.size; simpa using this)
    have K0_2 := Lib.hid (K0_1.out.trans' hw)
    have Rp0_2 := Lib.hid (row_ext Rp0_1.out hw)
    have Oy0_2 := Lib.hid ho.read
    clear hw ho hf
    clear c20 c21 c22 c23 c24 c25 c26
    obtain ⟨c30, c31, c32, c33, c34, c35, c36⟩ := row7_facts Rp0_2.out
    clear c30 c31 c32 c33 c34 c35 c36
    go_wp2_with fail
    (with_reducible refine (specReachableStates_any Oy0_2.out).mono ?_)
    rintro e w3 ⟨xw, bw, rfl, hw, ho, hf⟩
    have Z2 := Lib.hid (show w2.heap.size ≤ w3.heap.size from by have := hw.size; simpa using this)
    have LOw := Lib.hid (show ∀ b ∈ bw, w2.heap.size ≤ b from fun b hb => by have := hf.2 b hb; simpa using this)
    have HIw := Lib.hid (show ∀ b ∈ bw, b < w3.heap.size from ho.1.lt)
    have NDw : Hid bw.Nodup := hf.1
    have K0_3 := Lib.hid (K0_2.out.trans' hw)
    have Rp0_3 := Lib.hid (row_ext Rp0_2.out hw)
    have Oy0_3 := Lib.hid (Oy0_2.out.ext hw)
    have Ow_3 := Lib.hid ho
    clear hw ho hf
    obtain ⟨c40, c41, c42, c43, c44, c45, c46⟩ := row7_facts Rp0_3.out
    go_wp2_with fail
    (with_reducible refine (toMachine_own (HN0.out.ext K0_3.out) hs0.out).mono ?_)
    rintro e w4 ⟨xx0, bx0, rfl, hw, ho, hf⟩
    have Z3 := Lib.hid (show w3.heap.size ≤ w4.heap.size from by have := hw.size; simpa using this)
    have LOx0 := Lib.hid (show ∀ b ∈ bx0, w3.heap.size ≤ b from fun b hb => by have := hf.2 b hb; simpa using this)
    have HIx0 := Lib.hid (show ∀ b ∈ bx0, b < w4.heap.size from ho.lt)
    have NDx0 : Hid bx0.Nodup := hf.1
    obtain ⟨x0a3, x0c3, x0a4, x0c4, x0a5, x0c5, x0a6, x0c6, rfl⟩ := ho.agg
    have K0_4 := Lib.hid (K0_3.out.trans' hw)
    have Rp0_4 := Lib.hid (row_ext Rp0_3.out hw)
    have Ow_4 := Lib.hid (Ow_3.out.ext hw)
    have Ox0_4 := Lib.hid ho
    clear hw ho hf
    clear c40 c41 c42 c43 c44 c45 c46
    obtain ⟨c50, c51, c52, c53, c54, c55, c56⟩ := row7_facts Rp0_4.out
    have hA := (Ext.rfl' w4).alloc' (.cells #[.int .i64 M0.deg, .int .i64 M0.sts, .int .i64 M0.msgs, .slice x0a3 M0.start.length x0c3, .slice x0a4 M0.send.length x0c4, .slice x0a5 M0.cls.length x0c5, .slice x0a6 M0.out.length x0c6] 31)
    have K0_5 := Lib.hid (K0_4.out.trans' hA)
    have Rp0_5 := Lib.hid (row_ext Rp0_4.out hA)
    have Ow_5 := Lib.hid (Ow_4.out.ext hA)
    have Ox0_5 := Lib.hid (Ox0_4.out.ext hA)
    have Rx0_5 := Lib.hid (row7_made w4 (.int .i64 M0.deg) (.int .i64 M0.sts) (.int .i64 M0.msgs) (.slice x0a3 M0.start.length x0c3) (.slice x0a4 M0.send.length x0c4) (.slice x0a5 M0.cls.length x0c5) (.slice x0a6 M0.out.length x0c6) 31)
    clear hA
    clear c50 c51 c52 c53 c54 c55 c56
    obtain ⟨c60, c61, c62, c63, c64, c65, c66⟩ := row7_facts Rp0_5.out
    clear c60 c61 c62 c63 c64 c65 c66
    obtain ⟨c70, c71, c72, c73, c74, c75, c76⟩ := row7_facts Rx0_5.out
    go_wp2_with fail
    (with_reducible refine (implReachableStates_any Ox0_5.out.read).mono ?_)
    rintro e w5 ⟨xg, bg, rfl, hw, ho, hf⟩
    have Z4 := Lib.hid (show w4.heap.size + 1 ≤ w5.heap.size from by have := hw.size; simpa using this)
    have LOg := Lib.hid (show ∀ b ∈ bg, w4.heap.size + 1 ≤ b from fun b hb => by have := hf.2 b hb; simpa using this)
    have HIg := Lib.hid (show ∀ b ∈ bg, b < w5.heap.size from ho.1.lt)
    have NDg : Hid bg.Nodup := hf.1
    have K0_6 := Lib.hid (K0_5.out.trans' hw)
    have Rp0_6 := Lib.hid (row_ext Rp0_5.out hw)
    have Rx0_6 := Lib.hid (row_ext Rx0_5.out hw)
    have Ow_6 := Lib.hid (Ow_5.out.ext hw)
    have Ox0_6 := Lib.hid (Ox0_5.out.ext hw)
    have Og_6 := Lib.hid ho
    clear hw ho hf
    clear c70 c71 c72 c73 c74 c75 c76
    go_wp2_with fail
    (with_reducible refine (eqIntS_same Og_6.out.read Ow_6.out.read).mono ?_)
    rintro e w6 ⟨rfl, hw⟩
    have Z5 := Lib.hid (show w5.heap.size ≤ w6.heap.size from by have := hw.size; simpa using this)
    have K0_7 := Lib.hid (K0_6.out.trans' hw)
    have Rp0_7 := Lib.hid (row_ext Rp0_6.out hw)
    have Rx0_7 := Lib.hid (row_ext Rx0_6.out hw)
    have Ow_7 := Lib.hid (Ow_6.out.ext hw)
    have Ox0_7 := Lib.hid (Ox0_6.out.ext hw)
    have Og_7 := Lib.hid (Og_6.out.ext hw)
    clear hw
    obtain ⟨c80, c81, c82, c83, c84, c85, c86⟩ := row7_facts Rp0_7.out
    obtain ⟨c90, c91, c92, c93, c94, c95, c96⟩ := row7_facts Rx0_7.out
    go_wp2_with fail
    have Hd := Lib.hid (Ext.rfl' w6).drew'
    go_region_held3 (fun w' => w'.cell? ⟨w.heap.size, 0, none⟩ = some (.int .i64 M0.deg) ∧ w'.cell? ⟨w.heap.size, 1, none⟩ = some (.int .i64 M0.sts) ∧ w'.cell? ⟨w.heap.size, 2, none⟩ = some (.int .i64 M0.msgs) ∧ w'.cell? ⟨w.heap.size, 3, none⟩ = some (.slice v0a3 M0.start.length v0c3) ∧ w'.cell? ⟨w.heap.size, 4, none⟩ = some (.slice v0a4 M0.send.length v0c4) ∧ w'.cell? ⟨w.heap.size, 5, none⟩ = some (.slice v0a5 M0.cls.length v0c5) ∧ w'.cell? ⟨w.heap.size, 6, none⟩ = some (.slice v0a6 M0.out.length v0c6) ∧ w'.cell? ⟨w4.heap.size, 0, none⟩ = some (.int .i64 M0.deg) ∧ w'.cell? ⟨w4.heap.size, 1, none⟩ = some (.int .i64 M0.sts) ∧ w'.cell? ⟨w4.heap.size, 2, none⟩ = some (.int .i64 M0.msgs) ∧ w'.cell? ⟨w4.heap.size, 3, none⟩ = some (.slice x0a3 M0.start.length x0c3) ∧ w'.cell? ⟨w4.heap.size, 4, none⟩ = some (.slice x0a4 M0.send.length x0c4) ∧ w'.cell? ⟨w4.heap.size, 5, none⟩ = some (.slice x0a5 M0.cls.length x0c5) ∧ w'.cell? ⟨w4.heap.size, 6, none⟩ = some (.slice x0a6 M0.out.length x0c6) ∧ Hid (Ext w6 w')) (first | exact ⟨c80, c81, c82, c83, c84, c85, c86, c90, c91, c92, c93, c94, c95, c96, Hd⟩ | exact ⟨hx.cell' (Hd.out.cell' c80), hx.cell' (Hd.out.cell' c81), hx.cell' (Hd.out.cell' c82), hx.cell' (Hd.out.cell' c83), hx.cell' (Hd.out.cell' c84), hx.cell' (Hd.out.cell' c85), hx.cell' (Hd.out.cell' c86), hx.cell' (Hd.out.cell' c90), hx.cell' (Hd.out.cell' c91), hx.cell' (Hd.out.cell' c92), hx.cell' (Hd.out.cell' c93), hx.cell' (Hd.out.cell' c94), hx.cell' (Hd.out.cell' c95), hx.cell' (Hd.out.cell' c96), Hd.out.trans' hx⟩ | exact ⟨hy.cell' (hx.cell' (Hd.out.cell' c80)), hy.cell' (hx.cell' (Hd.out.cell' c81)), hy.cell' (hx.cell' (Hd.out.cell' c82)), hy.cell' (hx.cell' (Hd.out.cell' c83)), hy.cell' (hx.cell' (Hd.out.cell' c84)), hy.cell' (hx.cell' (Hd.out.cell' c85)), hy.cell' (hx.cell' (Hd.out.cell' c86)), hy.cell' (hx.cell' (Hd.out.cell' c90)), hy.cell' (hx.cell' (Hd.out.cell' c91)), hy.cell' (hx.cell' (Hd.out.cell' c92)), hy.cell' (hx.cell' (Hd.out.cell' c93)), hy.cell' (hx.cell' (Hd.out.cell' c94)), hy.cell' (hx.cell' (Hd.out.cell' c95)), hy.cell' (hx.cell' (Hd.out.cell' c96)), (Hd.out.trans' hx).trans' hy⟩)
      (first | (go_at_call 21; (with_reducible refine (toMachine_own (HN0.out.ext (K0_7.out.trans' Hd.out)) hs0.out).mono ?_); rintro e wa0 ⟨z, bz, rfl, hx, hoz, hfz⟩; have OZ := Lib.hid hoz.read; have HXZ := Lib.hid hx; clear hoz hfz) | (go_at_call 23; (with_reducible refine (eqMachine_same (Ox0_7.out.read.ext (Hd.out.trans' HXZ.out)) OZ.out).mono ?_); rintro e wb0 ⟨rfl, hy⟩))
    rename_i hh
    have HY := hh.2.2.2.2.2.2.2.2.2.2.2.2.2.2
    clear hh hx hy HXZ OZ
    clear c80 c81 c82 c83 c84 c85 c86 c90 c91 c92 c93 c94 c95 c96
    clear Hd
    have Z6 := Lib.hid (show w6.heap.size ≤ wb0.heap.size from by have := HY.out.size; simpa using this)
    have K0_8 := Lib.hid (K0_7.out.trans' HY.out)
    have Rp0_8 := Lib.hid (row_ext Rp0_7.out HY.out)
    have Rx0_8 := Lib.hid (row_ext Rx0_7.out HY.out)
    have Ow_8 := Lib.hid (Ow_7.out.ext HY.out)
    have Ox0_8 := Lib.hid (Ox0_7.out.ext HY.out)
    have Og_8 := Lib.hid (Og_7.out.ext HY.out)
    clear HY
    obtain ⟨c100, c101, c102, c103, c104, c105, c106⟩ := row7_facts Rx0_8.out
    go_wp2_with fail
    (with_reducible refine (markMachine_at _ Ox0_8.out NDx0.out hs0.out (by omega) (by omega)).mono ?_)
    rintro e w7 ⟨rm0, rfl, hrm0, hrm1, hc⟩
    have Z7 := Lib.hid (show wb0.heap.size ≤ w7.heap.size from by have := hc.size; simpa using this)
    have K0_9 := Lib.hid (Chg.ext K0_8.out hc fun b hb => by have := LOx0.out b hb; have := Z0.out; have := Z1.out; have := Z2.out; have := Z3.out; have := Z4.out; have := Z5.out; have := Z6.out; have := Z7.out; omega)
    have Rp0_9 := Lib.hid (Rp0_8.out.of_block (hc.block _ Rp0_8.out.lt fun hb => by have := LOx0.out _ hb; have := HIx0.out _ hb; have := Z0.out; have := Z1.out; have := Z2.out; have := Z3.out; have := Z4.out; have := Z5.out; have := Z6.out; have := Z7.out; omega))
    have Rx0_9 := Lib.hid (Rx0_8.out.of_block (hc.block _ Rx0_8.out.lt fun hb => by have := LOx0.out _ hb; have := HIx0.out _ hb; have := Z0.out; have := Z1.out; have := Z2.out; have := Z3.out; have := Z4.out; have := Z5.out; have := Z6.out; have := Z7.out; omega))
    have Ow_9 := Lib.hid (Ow_8.out.keep fun b hb => hc.block b (Ow_8.out.1.lt b hb) fun hb' => by have := LOx0.out b hb'; have := HIx0.out b hb'; have := LOw.out b hb; have := HIw.out b hb; have := Z0.out; have := Z1.out; have := Z2.out; have := Z3.out; have := Z4.out; have := Z5.out; have := Z6.out; have := Z7.out; omega)
    have Og_9 := Lib.hid (Og_8.out.keep fun b hb => hc.block b (Og_8.out.1.lt b hb) fun hb' => by have := LOx0.out b hb'; have := HIx0.out b hb'; have := LOg.out b hb; have := HIg.out b hb; have := Z0.out; have := Z1.out; have := Z2.out; have := Z3.out; have := Z4.out; have := Z5.out; have := Z6.out; have := Z7.out; omega)
    clear hc
    clear c100 c101 c102 c103 c104 c105 c106
    go_wp2_with fail
    (with_reducible refine (eqIntS_same Og_9.out.read Ow_9.out.read).mono ?_)
    rintro e w8 ⟨rfl, hw⟩
    have Z8 := Lib.hid (show w7.heap.size ≤ w8.heap.size from by have := hw.size; simpa using this)
    have K0_10 := Lib.hid (K0_9.out.trans' hw)
    have Rp0_10 := Lib.hid (row_ext Rp0_9.out hw)
    have Ow_10 := Lib.hid (Ow_9.out.ext hw)
    have Og_10 := Lib.hid (Og_9.out.ext hw)
    clear hw
    go_wp2_with fail
    (with_reducible refine (markIntS_any _ Og_10.out hll (by omega) (by omega)).mono ?_)
    rintro e w9 ⟨rfl, hc, hm⟩
    have Z9 := Lib.hid (show w8.heap.size ≤ w9.heap.size from by have := hc.size; simpa using this)
    have K0_11 := Lib.hid (Chg.ext K0_10.out hc fun b hb => by have := LOg.out b hb; have := Z0.out; have := Z1.out; have := Z2.out; have := Z3.out; have := Z4.out; have := Z5.out; have := Z6.out; have := Z7.out; have := Z8.out; have := Z9.out; omega)
    have Rp0_11 := Lib.hid (Rp0_10.out.of_block (hc.block _ Rp0_10.out.lt fun hb => by have := LOg.out _ hb; have := HIg.out _ hb; have := Z0.out; have := Z1.out; have := Z2.out; have := Z3.out; have := Z4.out; have := Z5.out; have := Z6.out; have := Z7.out; have := Z8.out; have := Z9.out; omega))
    have Ow_11 := Lib.hid (Ow_10.out.keep fun b hb => hc.block b (Ow_10.out.1.lt b hb) fun hb' => by have := LOg.out b hb'; have := HIg.out b hb'; have := LOw.out b hb; have := HIw.out b hb; have := Z0.out; have := Z1.out; have := Z2.out; have := Z3.out; have := Z4.out; have := Z5.out; have := Z6.out; have := Z7.out; have := Z8.out; have := Z9.out; omega)
    have Og_11 := Lib.hid hm
    clear hc hm
    go_wp2_with fail
    (with_reducible refine (heldIntS_any _ _ Og_11.out.read hll (by omega) (by omega)).mono ?_)
    rintro e w10 ⟨rfl, rfl⟩
    obtain ⟨c110, c111, c112, c113, c114, c115, c116⟩ := row7_facts Rp0_11.out
    go_wp2_with fail
    (with_reducible refine (toMachine_own (HN0.out.ext K0_11.out) hs0.out).mono ?_)
    rintro e w11 ⟨xu0, bu0, rfl, hw, ho, hf⟩
    have Z10 := Lib.hid (show w9.heap.size ≤ w11.heap.size from by have := hw.size; simpa using this)
    have K0_12 := Lib.hid (K0_11.out.trans' hw)
    have Rp0_12 := Lib.hid (row_ext Rp0_11.out hw)
    have Ow_12 := Lib.hid (Ow_11.out.ext hw)
    have Og_12 := Lib.hid (Og_11.out.ext hw)
    have Ou0_12 := Lib.hid ho.read
    clear hw ho hf
    clear c110 c111 c112 c113 c114 c115 c116
    obtain ⟨c120, c121, c122, c123, c124, c125, c126⟩ := row7_facts Rp0_12.out
    clear c120 c121 c122 c123 c124 c125 c126
    go_wp2_with fail
    (with_reducible refine (implReachableStates_any Ou0_12.out).mono ?_)
    rintro e w12 ⟨xh, bh, rfl, hw, ho, hf⟩
    have Z11 := Lib.hid (show w11.heap.size ≤ w12.heap.size from by have := hw.size; simpa using this)
    have LOh := Lib.hid (show ∀ b ∈ bh, w11.heap.size ≤ b from fun b hb => by have := hf.2 b hb; simpa using this)
    have HIh := Lib.hid (show ∀ b ∈ bh, b < w12.heap.size from ho.1.lt)
    have NDh : Hid bh.Nodup := hf.1
    have K0_13 := Lib.hid (K0_12.out.trans' hw)
    have Rp0_13 := Lib.hid (row_ext Rp0_12.out hw)
    have Ow_13 := Lib.hid (Ow_12.out.ext hw)
    have Og_13 := Lib.hid (Og_12.out.ext hw)
    have Ou0_13 := Lib.hid (Ou0_12.out.ext hw)
    have Oh_13 := Lib.hid ho
    clear hw ho hf
    go_wp2_with fail
    (with_reducible refine (eqIntS_same Oh_13.out.read Ow_13.out.read).mono ?_)
    rintro e w13 ⟨rfl, hw⟩
    have Z12 := Lib.hid (show w12.heap.size ≤ w13.heap.size from by have := hw.size; simpa using this)
    have K0_14 := Lib.hid (K0_13.out.trans' hw)
    have Rp0_14 := Lib.hid (row_ext Rp0_13.out hw)
    have Ow_14 := Lib.hid (Ow_13.out.ext hw)
    have Og_14 := Lib.hid (Og_13.out.ext hw)
    have Oh_14 := Lib.hid (Oh_13.out.ext hw)
    clear hw
    go_wp2_with fail
    (with_reducible refine (heldIntS_any _ _ Og_14.out.read hll (by omega) (by omega)).mono ?_)
    rintro e w14 ⟨rfl, rfl⟩
    go_wp2
    go_ret
    exact ⟨rfl, K0_14.out⟩
theorem walk_ReachableStates {w : World} {v0 : Value} {M0 : Mach} (h0 : MachAt w v0 M0) :
    Calls Try.prog 15 #[v0] w fun e w' => e = .returned (.bool true) ∧ Ext w w' := walk_ReachableStates_of  h0 (reAns_small _)
end Go.Proofs.Ytdcgpodjoalokaa
