/- The walk of FnExactClauseFor: whatever the arguments, the law answers true and changes nothing that was there. No condition but that the answer is short. -/
import Derived.Test.YtdcgpodjoalokaaMp
import Derived.Test.YtdcgpodjoalokaaMd
import Derived.Test.YtdcgpodjoalokaaMe
import Derived.Test.YtdcgpodjoalokaaMf
import Derived.Test.YtdcgpodjoalokaaKc
namespace Go.Proofs.Ytdcgpodjoalokaa
open Go.RowKit

set_option maxHeartbeats 6400000 in
set_option maxRecDepth 100000 in
theorem walk_ClauseFor {w : World} {v0 : Value} {M0 : Mach} {v2 : Value} {l2 : List Int} (n1 : Int) (h0 : MachAt w v0 M0) (h2 : IntSl w v2 l2) :
    Calls Try.prog 7 #[v0, .int .i64 n1, v2] w fun e w' => e = .returned (.bool true) ∧ Ext w w' := by
  have HN0 := Lib.hid h0
  obtain ⟨v0a3, v0c3, v0a4, v0c4, v0a5, v0c5, v0a6, v0c6, rfl, -⟩ := h0
  have HN2 := Lib.hid h2
  obtain ⟨la2, _, _, lc2, rfl, -, -, lm2, -⟩ := h2
  unfold maxLen at lm2
  have K0 := Lib.hid (boxed7_ext w (.int .i64 M0.deg) (.int .i64 M0.sts) (.int .i64 M0.msgs) (.slice v0a3 M0.start.length v0c3) (.slice v0a4 M0.send.length v0c4) (.slice v0a5 M0.cls.length v0c5) (.slice v0a6 M0.out.length v0c6) 26)
  have Rp0_0 := Lib.hid (show World.rowIs (boxed7 w (.int .i64 M0.deg) (.int .i64 M0.sts) (.int .i64 M0.msgs) (.slice v0a3 M0.start.length v0c3) (.slice v0a4 M0.send.length v0c4) (.slice v0a5 M0.cls.length v0c5) (.slice v0a6 M0.out.length v0c6) 26) w.heap.size 26 7 (sept (.int .i64 M0.deg) (.int .i64 M0.sts) (.int .i64 M0.msgs) (.slice v0a3 M0.start.length v0c3) (.slice v0a4 M0.send.length v0c4) (.slice v0a5 M0.cls.length v0c5) (.slice v0a6 M0.out.length v0c6)) from boxed7_row w (.int .i64 M0.deg) (.int .i64 M0.sts) (.int .i64 M0.msgs) (.slice v0a3 M0.start.length v0c3) (.slice v0a4 M0.send.length v0c4) (.slice v0a5 M0.cls.length v0c5) (.slice v0a6 M0.out.length v0c6) 26)
  have hmm : ((clfAns M0 n1 l2) != (clfAns M0 n1 l2)) = false := by simp
  have hbb : (dec (ClfB M0 n1 l2) != dec (ClfB M0 n1 l2)) = false := by simp
  by_cases hg2 : l2.length ≤ 1048576
  case neg =>
    go_enter Try.func7, Try.ntmps7
    go_wp2
    go_ret
    exact ⟨rfl, K0.out⟩
  case pos =>
    go_enter Try.func7, Try.ntmps7
    go_wp2_with fail
    (with_reducible refine (szMachine_any _ (HN0.out.ext K0.out) (by omega) (by omega)).mono ?_)
    rintro e w1 ⟨r0, rfl, hw, hr00, hr10, hr2⟩
    have Z0 := Lib.hid (show w.heap.size + 1 ≤ w1.heap.size from by have := hw.size; simpa using this)
    have K0_1 := Lib.hid (K0.out.trans' hw)
    have Rp0_1 := Lib.hid (row_ext Rp0_0.out hw)
    have S0 := Lib.hid hr2
    clear hw hr2
    obtain ⟨c10, c11, c12, c13, c14, c15, c16⟩ := row7_facts Rp0_1.out
    by_cases hneg0 : r0 < 0
    case pos =>
      go_wp2
      go_ret
      exact ⟨rfl, K0_1.out⟩
    case neg =>
      have hs0 := Lib.hid (S0.out (by omega))
      clear c10 c11 c12 c13 c14 c15 c16
      obtain ⟨c20, c21, c22, c23, c24, c25, c26⟩ := row7_facts Rp0_1.out
      go_wp2_with fail
      (with_reducible refine (toMachine_own (HN0.out.ext K0_1.out) hs0.out).mono ?_)
      rintro e w2 ⟨xy0, by0, rfl, hw, ho, hf⟩
      have Z1 := Lib.hid (show w1.heap.size ≤ w2.heap.size from by have := hw.size; simpa using this)
      have K0_2 := Lib.hid (K0_1.out.trans' hw)
      have Rp0_2 := Lib.hid (row_ext Rp0_1.out hw)
      have Oy0_2 := Lib.hid ho.read
      clear hw ho hf
      clear c20 c21 c22 c23 c24 c25 c26
      obtain ⟨c30, c31, c32, c33, c34, c35, c36⟩ := row7_facts Rp0_2.out
      go_wp2_with fail
      (with_reducible refine (toIntS_own (HN2.out.ext K0_2.out) hg2).mono ?_)
      rintro e w3 ⟨y2a, y2c, by2, rfl, hw, ho, hf⟩
      have Z2 := Lib.hid (show w2.heap.size ≤ w3.heap.size from by have := hw.size; simpa using this)
      have K0_3 := Lib.hid (K0_2.out.trans' hw)
      have Rp0_3 := Lib.hid (row_ext Rp0_2.out hw)
      have Oy0_3 := Lib.hid (Oy0_2.out.ext hw)
      have Oy2_3 := Lib.hid ho.read
      clear hw ho hf
      clear c30 c31 c32 c33 c34 c35 c36
      obtain ⟨c40, c41, c42, c43, c44, c45, c46⟩ := row7_facts Rp0_3.out
      clear c40 c41 c42 c43 c44 c45 c46
      go_wp2_with fail
      (with_reducible refine (specClauseFor_any n1 Oy0_3.out Oy2_3.out hg2).mono ?_)
      rintro e w4 ⟨rfl, hw⟩
      have Z3 := Lib.hid (show w3.heap.size ≤ w4.heap.size from by have := hw.size; simpa using this)
      have K0_4 := Lib.hid (K0_3.out.trans' hw)
      have Rp0_4 := Lib.hid (row_ext Rp0_3.out hw)
      have Oy0_4 := Lib.hid (Oy0_3.out.ext hw)
      have Oy2_4 := Lib.hid (Oy2_3.out.ext hw)
      clear hw
      obtain ⟨c50, c51, c52, c53, c54, c55, c56⟩ := row7_facts Rp0_4.out
      go_wp2_with fail
      (with_reducible refine (toMachine_own (HN0.out.ext K0_4.out) hs0.out).mono ?_)
      rintro e w5 ⟨xx0, bx0, rfl, hw, ho, hf⟩
      have Z4 := Lib.hid (show w4.heap.size ≤ w5.heap.size from by have := hw.size; simpa using this)
      have LOx0 := Lib.hid (show ∀ b ∈ bx0, w4.heap.size ≤ b from fun b hb => by have := hf.2 b hb; simpa using this)
      have HIx0 := Lib.hid (show ∀ b ∈ bx0, b < w5.heap.size from ho.lt)
      have NDx0 : Hid bx0.Nodup := hf.1
      obtain ⟨x0a3, x0c3, x0a4, x0c4, x0a5, x0c5, x0a6, x0c6, rfl⟩ := ho.agg
      have K0_5 := Lib.hid (K0_4.out.trans' hw)
      have Rp0_5 := Lib.hid (row_ext Rp0_4.out hw)
      have Ox0_5 := Lib.hid ho
      clear hw ho hf
      clear c50 c51 c52 c53 c54 c55 c56
      obtain ⟨c60, c61, c62, c63, c64, c65, c66⟩ := row7_facts Rp0_5.out
      have hA := (Ext.rfl' w5).alloc' (.cells #[.int .i64 M0.deg, .int .i64 M0.sts, .int .i64 M0.msgs, .slice x0a3 M0.start.length x0c3, .slice x0a4 M0.send.length x0c4, .slice x0a5 M0.cls.length x0c5, .slice x0a6 M0.out.length x0c6] 31)
      have K0_6 := Lib.hid (K0_5.out.trans' hA)
      have Rp0_6 := Lib.hid (row_ext Rp0_5.out hA)
      have Ox0_6 := Lib.hid (Ox0_5.out.ext hA)
      have Rx0_6 := Lib.hid (row7_made w5 (.int .i64 M0.deg) (.int .i64 M0.sts) (.int .i64 M0.msgs) (.slice x0a3 M0.start.length x0c3) (.slice x0a4 M0.send.length x0c4) (.slice x0a5 M0.cls.length x0c5) (.slice x0a6 M0.out.length x0c6) 31)
      clear hA
      clear c60 c61 c62 c63 c64 c65 c66
      obtain ⟨c70, c71, c72, c73, c74, c75, c76⟩ := row7_facts Rp0_6.out
      go_wp2_with fail
      (with_reducible refine (toIntS_own (HN2.out.ext K0_6.out) hg2).mono ?_)
      rintro e w6 ⟨x2a, x2c, bx2, rfl, hw, ho, hf⟩
      have Z5 := Lib.hid (show w5.heap.size + 1 ≤ w6.heap.size from by have := hw.size; simpa using this)
      have LOx2 := Lib.hid (show ∀ b ∈ bx2, w5.heap.size + 1 ≤ b from fun b hb => by have := hf.2 b hb; simpa using this)
      have HIx2 := Lib.hid (show ∀ b ∈ bx2, b < w6.heap.size from ho.1.lt)
      have NDx2 : Hid bx2.Nodup := hf.1
      have K0_7 := Lib.hid (K0_6.out.trans' hw)
      have Rp0_7 := Lib.hid (row_ext Rp0_6.out hw)
      have Rx0_7 := Lib.hid (row_ext Rx0_6.out hw)
      have Ox0_7 := Lib.hid (Ox0_6.out.ext hw)
      have Ox2_7 := Lib.hid ho
      clear hw ho hf
      clear c70 c71 c72 c73 c74 c75 c76
      obtain ⟨c80, c81, c82, c83, c84, c85, c86⟩ := row7_facts Rp0_7.out
      clear c80 c81 c82 c83 c84 c85 c86
      obtain ⟨c90, c91, c92, c93, c94, c95, c96⟩ := row7_facts Rx0_7.out
      go_wp2_with fail
      (with_reducible refine (implClauseFor_any n1 Ox0_7.out.read Ox2_7.out.read hg2).mono ?_)
      rintro e w7 ⟨rfl, hw⟩
      have Z6 := Lib.hid (show w6.heap.size ≤ w7.heap.size from by have := hw.size; simpa using this)
      have K0_8 := Lib.hid (K0_7.out.trans' hw)
      have Rp0_8 := Lib.hid (row_ext Rp0_7.out hw)
      have Rx0_8 := Lib.hid (row_ext Rx0_7.out hw)
      have Ox0_8 := Lib.hid (Ox0_7.out.ext hw)
      have Ox2_8 := Lib.hid (Ox2_7.out.ext hw)
      clear hw
      clear c90 c91 c92 c93 c94 c95 c96
      obtain ⟨c100, c101, c102, c103, c104, c105, c106⟩ := row7_facts Rp0_8.out
      obtain ⟨c110, c111, c112, c113, c114, c115, c116⟩ := row7_facts Rx0_8.out
      go_wp2_with fail
      have Hd := Lib.hid (Ext.rfl' w7).drew'
      go_region_held3 (fun w' => w'.cell? ⟨w.heap.size, 0, none⟩ = some (.int .i64 M0.deg) ∧ w'.cell? ⟨w.heap.size, 1, none⟩ = some (.int .i64 M0.sts) ∧ w'.cell? ⟨w.heap.size, 2, none⟩ = some (.int .i64 M0.msgs) ∧ w'.cell? ⟨w.heap.size, 3, none⟩ = some (.slice v0a3 M0.start.length v0c3) ∧ w'.cell? ⟨w.heap.size, 4, none⟩ = some (.slice v0a4 M0.send.length v0c4) ∧ w'.cell? ⟨w.heap.size, 5, none⟩ = some (.slice v0a5 M0.cls.length v0c5) ∧ w'.cell? ⟨w.heap.size, 6, none⟩ = some (.slice v0a6 M0.out.length v0c6) ∧ w'.cell? ⟨w5.heap.size, 0, none⟩ = some (.int .i64 M0.deg) ∧ w'.cell? ⟨w5.heap.size, 1, none⟩ = some (.int .i64 M0.sts) ∧ w'.cell? ⟨w5.heap.size, 2, none⟩ = some (.int .i64 M0.msgs) ∧ w'.cell? ⟨w5.heap.size, 3, none⟩ = some (.slice x0a3 M0.start.length x0c3) ∧ w'.cell? ⟨w5.heap.size, 4, none⟩ = some (.slice x0a4 M0.send.length x0c4) ∧ w'.cell? ⟨w5.heap.size, 5, none⟩ = some (.slice x0a5 M0.cls.length x0c5) ∧ w'.cell? ⟨w5.heap.size, 6, none⟩ = some (.slice x0a6 M0.out.length x0c6) ∧ Hid (Ext w7 w')) (first | exact ⟨c100, c101, c102, c103, c104, c105, c106, c110, c111, c112, c113, c114, c115, c116, Hd⟩ | exact ⟨hx.cell' (Hd.out.cell' c100), hx.cell' (Hd.out.cell' c101), hx.cell' (Hd.out.cell' c102), hx.cell' (Hd.out.cell' c103), hx.cell' (Hd.out.cell' c104), hx.cell' (Hd.out.cell' c105), hx.cell' (Hd.out.cell' c106), hx.cell' (Hd.out.cell' c110), hx.cell' (Hd.out.cell' c111), hx.cell' (Hd.out.cell' c112), hx.cell' (Hd.out.cell' c113), hx.cell' (Hd.out.cell' c114), hx.cell' (Hd.out.cell' c115), hx.cell' (Hd.out.cell' c116), Hd.out.trans' hx⟩ | exact ⟨hy.cell' (hx.cell' (Hd.out.cell' c100)), hy.cell' (hx.cell' (Hd.out.cell' c101)), hy.cell' (hx.cell' (Hd.out.cell' c102)), hy.cell' (hx.cell' (Hd.out.cell' c103)), hy.cell' (hx.cell' (Hd.out.cell' c104)), hy.cell' (hx.cell' (Hd.out.cell' c105)), hy.cell' (hx.cell' (Hd.out.cell' c106)), hy.cell' (hx.cell' (Hd.out.cell' c110)), hy.cell' (hx.cell' (Hd.out.cell' c111)), hy.cell' (hx.cell' (Hd.out.cell' c112)), hy.cell' (hx.cell' (Hd.out.cell' c113)), hy.cell' (hx.cell' (Hd.out.cell' c114)), hy.cell' (hx.cell' (Hd.out.cell' c115)), hy.cell' (hx.cell' (Hd.out.cell' c116)), (Hd.out.trans' hx).trans' hy⟩)
        (first | (go_at_call 21; (with_reducible refine (toMachine_own (HN0.out.ext (K0_8.out.trans' Hd.out)) hs0.out).mono ?_); rintro e wa0 ⟨z, bz, rfl, hx, hoz, hfz⟩; have OZ := Lib.hid hoz.read; have HXZ := Lib.hid hx; clear hoz hfz) | (go_at_call 23; (with_reducible refine (eqMachine_same (Ox0_8.out.read.ext (Hd.out.trans' HXZ.out)) OZ.out).mono ?_); rintro e wb0 ⟨rfl, hy⟩))
      rename_i hh
      have HY := hh.2.2.2.2.2.2.2.2.2.2.2.2.2.2
      clear hh hx hy HXZ OZ
      clear c100 c101 c102 c103 c104 c105 c106 c110 c111 c112 c113 c114 c115 c116
      clear Hd
      have Z7 := Lib.hid (show w7.heap.size ≤ wb0.heap.size from by have := HY.out.size; simpa using this)
      have K0_9 := Lib.hid (K0_8.out.trans' HY.out)
      have Rp0_9 := Lib.hid (row_ext Rp0_8.out HY.out)
      have Rx0_9 := Lib.hid (row_ext Rx0_8.out HY.out)
      have Ox0_9 := Lib.hid (Ox0_8.out.ext HY.out)
      have Ox2_9 := Lib.hid (Ox2_8.out.ext HY.out)
      clear HY
      go_wp2_with fail
      (with_reducible refine (toIntS_own (HN2.out.ext K0_9.out) hg2).mono ?_)
      rintro e w8 ⟨z2a, z2c, bz2, rfl, hw, ho, hf⟩
      have Z8 := Lib.hid (show wb0.heap.size ≤ w8.heap.size from by have := hw.size; simpa using this)
      have K0_10 := Lib.hid (K0_9.out.trans' hw)
      have Rp0_10 := Lib.hid (row_ext Rp0_9.out hw)
      have Rx0_10 := Lib.hid (row_ext Rx0_9.out hw)
      have Ox0_10 := Lib.hid (Ox0_9.out.ext hw)
      have Ox2_10 := Lib.hid (Ox2_9.out.ext hw)
      have Oz2_10 := Lib.hid ho.read
      clear hw ho hf
      obtain ⟨c120, c121, c122, c123, c124, c125, c126⟩ := row7_facts Rp0_10.out
      clear c120 c121 c122 c123 c124 c125 c126
      go_wp2_with fail
      (with_reducible refine (eqIntS_same Ox2_10.out.read Oz2_10.out).mono ?_)
      rintro e w9 ⟨rfl, hw⟩
      have Z9 := Lib.hid (show w8.heap.size ≤ w9.heap.size from by have := hw.size; simpa using this)
      have K0_11 := Lib.hid (K0_10.out.trans' hw)
      have Rp0_11 := Lib.hid (row_ext Rp0_10.out hw)
      have Rx0_11 := Lib.hid (row_ext Rx0_10.out hw)
      have Ox0_11 := Lib.hid (Ox0_10.out.ext hw)
      have Ox2_11 := Lib.hid (Ox2_10.out.ext hw)
      have Oz2_11 := Lib.hid (Oz2_10.out.ext hw)
      clear hw
      go_wp2
      go_ret
      exact ⟨rfl, K0_11.out⟩
end Go.Proofs.Ytdcgpodjoalokaa
