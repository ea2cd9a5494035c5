/- The walk of FnExactOutputsOf: whatever the arguments, the law answers true and changes nothing that was there. No condition but that the answer is short. -/
import Derived.Test.YtdcgpodjoalokaaMhd
import Derived.Test.YtdcgpodjoalokaaMk
import Derived.Test.YtdcgpodjoalokaaMd
import Derived.Test.YtdcgpodjoalokaaMe
import Derived.Test.YtdcgpodjoalokaaMf
import Derived.Test.YtdcgpodjoalokaaKc
namespace Go.Proofs.Ytdcgpodjoalokaa
open Go.RowKit

set_option maxHeartbeats 6400000 in
set_option maxRecDepth 100000 in
theorem walk_OutputsOf_of {w : World} {v0 : Value} {M0 : Mach} {v1 : Value} {N1 : Net} (n2 : Int) (h0 : MachAt w v0 M0) (h1 : NetAt w v1 N1) (hll : (ooAns M0 N1 n2).length ≤ 1048576) :
    Calls Try.prog 12 #[v0, v1, .int .i64 n2] w fun e w' => e = .returned (.bool true) ∧ Ext w w' := by
  have HLL := Lib.hid hll
  have HN0 := Lib.hid h0
  obtain ⟨v0a3, v0c3, v0a4, v0c4, v0a5, v0c5, v0a6, v0c6, rfl, -⟩ := h0
  have HN1 := Lib.hid h1
  obtain ⟨v10, v11, v12, rfl, hE, hI, hP⟩ := h1
  clear hE hI hP
  have K0 := Lib.hid ((boxed7_ext w (.int .i64 M0.deg) (.int .i64 M0.sts) (.int .i64 M0.msgs) (.slice v0a3 M0.start.length v0c3) (.slice v0a4 M0.send.length v0c4) (.slice v0a5 M0.cls.length v0c5) (.slice v0a6 M0.out.length v0c6) 26).trans' (boxed_ext (boxed7 w (.int .i64 M0.deg) (.int .i64 M0.sts) (.int .i64 M0.msgs) (.slice v0a3 M0.start.length v0c3) (.slice v0a4 M0.send.length v0c4) (.slice v0a5 M0.cls.length v0c5) (.slice v0a6 M0.out.length v0c6) 26) v10 v11 v12 37))
  have Rp0_0 := Lib.hid (show World.rowIs (boxed (boxed7 w (.int .i64 M0.deg) (.int .i64 M0.sts) (.int .i64 M0.msgs) (.slice v0a3 M0.start.length v0c3) (.slice v0a4 M0.send.length v0c4) (.slice v0a5 M0.cls.length v0c5) (.slice v0a6 M0.out.length v0c6) 26) v10 v11 v12 37) w.heap.size 26 7 (sept (.int .i64 M0.deg) (.int .i64 M0.sts) (.int .i64 M0.msgs) (.slice v0a3 M0.start.length v0c3) (.slice v0a4 M0.send.length v0c4) (.slice v0a5 M0.cls.length v0c5) (.slice v0a6 M0.out.length v0c6)) from (boxed7_row w (.int .i64 M0.deg) (.int .i64 M0.sts) (.int .i64 M0.msgs) (.slice v0a3 M0.start.length v0c3) (.slice v0a4 M0.send.length v0c4) (.slice v0a5 M0.cls.length v0c5) (.slice v0a6 M0.out.length v0c6) 26).alloc _)
  have Rp1_0 := Lib.hid (show World.rowIs (boxed (boxed7 w (.int .i64 M0.deg) (.int .i64 M0.sts) (.int .i64 M0.msgs) (.slice v0a3 M0.start.length v0c3) (.slice v0a4 M0.send.length v0c4) (.slice v0a5 M0.cls.length v0c5) (.slice v0a6 M0.out.length v0c6) 26) v10 v11 v12 37) (w.heap.size + 1) 37 3 (tri v10 v11 v12) from by simpa using boxed_row (boxed7 w (.int .i64 M0.deg) (.int .i64 M0.sts) (.int .i64 M0.msgs) (.slice v0a3 M0.start.length v0c3) (.slice v0a4 M0.send.length v0c4) (.slice v0a5 M0.cls.length v0c5) (.slice v0a6 M0.out.length v0c6) 26) v10 v11 v12 37)
  have hmm : (1 + ((ooAns M0 N1 n2).length : Int) != 1 + ((ooAns M0 N1 n2).length : Int)) = false := by simp
  have hbb : (dec (HaltB M0 N1 n2) != dec (HaltB M0 N1 n2)) = false := by simp
  go_enter Try.func12, Try.ntmps12
  go_wp2_with fail
  (with_reducible refine (szMachine_any _ (HN0.out.ext K0.out) (by omega) (by omega)).mono ?_)
  rintro e w1 ⟨r0, rfl, hw, hr00, hr10, hr2⟩
  have Z0 := Lib.hid (show w.heap.size + 2 ≤ w1.heap.size from by have := hw.size; simpa using this)
  have K0_1 := Lib.hid (K0.out.trans' hw)
  have Rp0_1 := Lib.hid (row_ext Rp0_0.out hw)
  have Rp1_1 := Lib.hid (row_ext Rp1_0.out hw)
  have S0 := Lib.hid hr2
  clear hw hr2
  obtain ⟨c10, c11, c12, c13, c14, c15, c16⟩ := row7_facts Rp0_1.out
  obtain ⟨c20, c21, c22, -, -, -⟩ := row3_facts Rp1_1.out
  by_cases hneg0 : r0 < 0
  case pos =>
    go_wp2
    go_ret
    exact ⟨rfl, K0_1.out⟩
  case neg =>
    have hs0 := Lib.hid (S0.out (by omega))
    go_wp2_with fail
    (with_reducible refine (szNetwork_any _ (HN1.out.ext K0_1.out) (by omega) (by omega)).mono ?_)
    rintro e w2 ⟨r1, rfl, hw, hr01, hr11, hr2⟩
    have Z1 := Lib.hid (show w1.heap.size ≤ w2.heap.size from by have := hw.size; simpa using this)
    have K0_2 := Lib.hid (K0_1.out.trans' hw)
    have Rp0_2 := Lib.hid (row_ext Rp0_1.out hw)
    have Rp1_2 := Lib.hid (row_ext Rp1_1.out hw)
    have S1 := Lib.hid hr2
    clear hw hr2
    clear c10 c11 c12 c13 c14 c15 c16 c20 c21 c22
    obtain ⟨c30, c31, c32, c33, c34, c35, c36⟩ := row7_facts Rp0_2.out
    obtain ⟨c40, c41, c42, -, -, -⟩ := row3_facts Rp1_2.out
    by_cases hneg1 : r1 < 0
    case pos =>
      go_wp2
      go_ret
      exact ⟨rfl, K0_2.out⟩
    case neg =>
      have hs1 := Lib.hid (S1.out (by omega))
      clear c30 c31 c32 c33 c34 c35 c36 c40 c41 c42
      obtain ⟨c50, c51, c52, c53, c54, c55, c56⟩ := row7_facts Rp0_2.out
      obtain ⟨c60, c61, c62, -, -, -⟩ := row3_facts Rp1_2.out
      clear c50 c51 c52 c53 c54 c55 c56 c60 c61 c62
      obtain ⟨c70, c71, c72, c73, c74, c75, c76⟩ := row7_facts Rp0_2.out
      obtain ⟨c80, c81, c82, -, -, -⟩ := row3_facts Rp1_2.out
      have mkS : ∀ w' : World, Ext w2 w' → w'.cell? ⟨w.heap.size, 0, none⟩ = some (.int .i64 M0.deg) ∧ w'.cell? ⟨w.heap.size, 1, none⟩ = some (.int .i64 M0.sts) ∧ w'.cell? ⟨w.heap.size, 2, none⟩ = some (.int .i64 M0.msgs) ∧ w'.cell? ⟨w.heap.size, 3, none⟩ = some (.slice v0a3 M0.start.length v0c3) ∧ w'.cell? ⟨w.heap.size, 4, none⟩ = some (.slice v0a4 M0.send.length v0c4) ∧ w'.cell? ⟨w.heap.size, 5, none⟩ = some (.slice v0a5 M0.cls.length v0c5) ∧ w'.cell? ⟨w.heap.size, 6, none⟩ = some (.slice v0a6 M0.out.length v0c6) ∧ w'.cell? ⟨(w.heap.size + 1), 0, none⟩ = some v10 ∧ w'.cell? ⟨(w.heap.size + 1), 1, none⟩ = some v11 ∧ w'.cell? ⟨(w.heap.size + 1), 2, none⟩ = some v12 ∧ Hid (Ext w2 w') := fun w' h => ⟨h.cell' c70, h.cell' c71, h.cell' c72, h.cell' c73, h.cell' c74, h.cell' c75, h.cell' c76, h.cell' c80, h.cell' c81, h.cell' c82, h⟩
      go_wp2_with fail
      go_cut [8, 9] from 30 to 38 (fun t6 t7 wx => ∃ (v : Value) (bs : List Nat), t6 = v ∧ t7 = .bool (dec (HaltB M0 N1 n2)) ∧ Hid (Ext w2 wx ∧ OwnI wx v (ooAns M0 N1 n2) bs ∧ bs.Nodup ∧ ∀ b ∈ bs, w2.heap.size ≤ b))
      case first =>
        go_region_held3 (fun w' => w'.cell? ⟨w.heap.size, 0, none⟩ = some (.int .i64 M0.deg) ∧ w'.cell? ⟨w.heap.size, 1, none⟩ = some (.int .i64 M0.sts) ∧ w'.cell? ⟨w.heap.size, 2, none⟩ = some (.int .i64 M0.msgs) ∧ w'.cell? ⟨w.heap.size, 3, none⟩ = some (.slice v0a3 M0.start.length v0c3) ∧ w'.cell? ⟨w.heap.size, 4, none⟩ = some (.slice v0a4 M0.send.length v0c4) ∧ w'.cell? ⟨w.heap.size, 5, none⟩ = some (.slice v0a5 M0.cls.length v0c5) ∧ w'.cell? ⟨w.heap.size, 6, none⟩ = some (.slice v0a6 M0.out.length v0c6) ∧ w'.cell? ⟨(w.heap.size + 1), 0, none⟩ = some v10 ∧ w'.cell? ⟨(w.heap.size + 1), 1, none⟩ = some v11 ∧ w'.cell? ⟨(w.heap.size + 1), 2, none⟩ = some v12 ∧ Hid (Ext w2 w')) (first | exact mkS _ (Ext.rfl' w2).drew' | exact mkS _ XA.out | exact mkS _ XB.out | exact mkS _ XZ.out | fail)
          (first | (go_at_call_of 21 (Value.agg #[.int .i64 M0.deg, .int .i64 M0.sts, .int .i64 M0.msgs, .slice v0a3 M0.start.length v0c3, .slice v0a4 M0.send.length v0c4, .slice v0a5 M0.cls.length v0c5, .slice v0a6 M0.out.length v0c6]); (with_reducible refine (toMachine_own (HN0.out.ext (K0_2.out.trans' ((‹_ ∧ _ ∧ _ ∧ _ ∧ _ ∧ _ ∧ _ ∧ _ ∧ _ ∧ _ ∧ Hid (Ext w2 _)›).2.2.2.2.2.2.2.2.2.2.out))) hs0.out).mono ?_); rintro e wqA ⟨yA, bA, rfl, hx, ho, hf⟩; have XA := Lib.hid (Ext.trans' ((‹_ ∧ _ ∧ _ ∧ _ ∧ _ ∧ _ ∧ _ ∧ _ ∧ _ ∧ _ ∧ Hid (Ext w2 _)›).2.2.2.2.2.2.2.2.2.2.out) hx); have OA0 := Lib.hid ho.read; clear ho hf) | (go_at_call_of 26 (Value.agg #[v10, v11, v12]); (with_reducible refine (toNetwork_own (HN1.out.ext (K0_2.out.trans' ((‹_ ∧ _ ∧ _ ∧ _ ∧ _ ∧ _ ∧ _ ∧ _ ∧ _ ∧ _ ∧ Hid (Ext w2 _)›).2.2.2.2.2.2.2.2.2.2.out))) hs1.out).mono ?_); rintro e wqB ⟨yB, bB, rfl, hx, ho, hf⟩; have XB := Lib.hid (Ext.trans' ((‹_ ∧ _ ∧ _ ∧ _ ∧ _ ∧ _ ∧ _ ∧ _ ∧ _ ∧ _ ∧ Hid (Ext w2 _)›).2.2.2.2.2.2.2.2.2.2.out) hx); have OA1 := Lib.hid (OA0.out.ext hx); have OB1 := Lib.hid ho.read; clear ho hf) | (go_at_call 52; (with_reducible refine (specOutputsOf_any n2 OA1.out OB1.out).mono ?_); rintro e wz ⟨xz, bz, rfl, hx, ho, hf⟩; have XZ := Lib.hid (Ext.trans' ((‹_ ∧ _ ∧ _ ∧ _ ∧ _ ∧ _ ∧ _ ∧ _ ∧ _ ∧ _ ∧ Hid (Ext w2 _)›).2.2.2.2.2.2.2.2.2.2.out) hx); have FZ : Hid (bz.Nodup ∧ ∀ b ∈ bz, w2.heap.size ≤ b) := ⟨hf.1, fun b hb => Nat.le_trans ((‹_ ∧ _ ∧ _ ∧ _ ∧ _ ∧ _ ∧ _ ∧ _ ∧ _ ∧ _ ∧ Hid (Ext w2 _)›).2.2.2.2.2.2.2.2.2.2.out).size (hf.2 b hb)⟩; have OZ := Lib.hid ho; clear ho hf))
        all_goals go_wp2_with fail
        all_goals go_meet
        all_goals exact ⟨_, _, rfl, rfl, XZ.out, OZ.out, FZ.out⟩
      case rest =>
        obtain ⟨xw, bw, rfl, rfl, XC⟩ := hcut
        clear mkS
        obtain ⟨w9w, h9⟩ : ∃ w9 : World, w9 = wc := ⟨_, rfl⟩
        subst h9
        clear c70 c71 c72 c73 c74 c75 c76 c80 c81 c82
        have LOw := Lib.hid XC.out.2.2.2
        have HIw := Lib.hid (show ∀ b ∈ bw, b < w9w.heap.size from XC.out.2.1.1.lt)
        have NDw := Lib.hid XC.out.2.2.1
        have Z2 := Lib.hid (show w2.heap.size ≤ w9w.heap.size from by have := XC.out.1.size; simpa using this)
        have K0_3 := Lib.hid (K0_2.out.trans' XC.out.1)
        have Rp0_3 := Lib.hid (row_ext Rp0_2.out XC.out.1)
        have Rp1_3 := Lib.hid (row_ext Rp1_2.out XC.out.1)
        have Ow_3 := Lib.hid XC.out.2.1
        obtain ⟨c90, c91, c92, c93, c94, c95, c96⟩ := row7_facts Rp0_3.out
        obtain ⟨c100, c101, c102, -, -, -⟩ := row3_facts Rp1_3.out
        go_wp2_with fail
        (with_reducible refine (toMachine_own (HN0.out.ext K0_3.out) hs0.out).mono ?_)
        rintro e w3 ⟨xx0, bx0, rfl, hw, ho, hf⟩
        have Z3 := Lib.hid (show w9w.heap.size ≤ w3.heap.size from by have := hw.size; simpa using this)
        have LOx0 := Lib.hid (show ∀ b ∈ bx0, w9w.heap.size ≤ b from fun b hb => by have := hf.2 b hb; simpa using this)
        have HIx0 := Lib.hid (show ∀ b ∈ bx0, b < w3.heap.size from ho.lt)
        have NDx0 : Hid bx0.Nodup := hf.1
        obtain ⟨x0a3, x0c3, x0a4, x0c4, x0a5, x0c5, x0a6, x0c6, rfl⟩ := ho.agg
        have K0_4 := Lib.hid (K0_3.out.trans' hw)
        have Rp0_4 := Lib.hid (row_ext Rp0_3.out hw)
        have Rp1_4 := Lib.hid (row_ext Rp1_3.out hw)
        have Ow_4 := Lib.hid (Ow_3.out.ext hw)
        have Ox0_4 := Lib.hid ho
        clear hw ho hf
        clear c90 c91 c92 c93 c94 c95 c96 c100 c101 c102
        obtain ⟨c110, c111, c112, c113, c114, c115, c116⟩ := row7_facts Rp0_4.out
        obtain ⟨c120, c121, c122, -, -, -⟩ := row3_facts Rp1_4.out
        have hA := (Ext.rfl' w3).alloc' (.cells #[.int .i64 M0.deg, .int .i64 M0.sts, .int .i64 M0.msgs, .slice x0a3 M0.start.length x0c3, .slice x0a4 M0.send.length x0c4, .slice x0a5 M0.cls.length x0c5, .slice x0a6 M0.out.length x0c6] 31)
        have K0_5 := Lib.hid (K0_4.out.trans' hA)
        have Rp0_5 := Lib.hid (row_ext Rp0_4.out hA)
        have Rp1_5 := Lib.hid (row_ext Rp1_4.out hA)
        have Ow_5 := Lib.hid (Ow_4.out.ext hA)
        have Ox0_5 := Lib.hid (Ox0_4.out.ext hA)
        have Rx0_5 := Lib.hid (row7_made w3 (.int .i64 M0.deg) (.int .i64 M0.sts) (.int .i64 M0.msgs) (.slice x0a3 M0.start.length x0c3) (.slice x0a4 M0.send.length x0c4) (.slice x0a5 M0.cls.length x0c5) (.slice x0a6 M0.out.length x0c6) 31)
        clear hA
        clear c110 c111 c112 c113 c114 c115 c116 c120 c121 c122
        obtain ⟨c130, c131, c132, c133, c134, c135, c136⟩ := row7_facts Rp0_5.out
        obtain ⟨c140, c141, c142, -, -, -⟩ := row3_facts Rp1_5.out
        go_wp2_with fail
        (with_reducible refine (toNetwork_own (HN1.out.ext K0_5.out) hs1.out).mono ?_)
        rintro e w4 ⟨xx1, bx1, rfl, hw, ho, hf⟩
        have Z4 := Lib.hid (show w3.heap.size + 1 ≤ w4.heap.size from by have := hw.size; simpa using this)
        have LOx1 := Lib.hid (show ∀ b ∈ bx1, w3.heap.size + 1 ≤ b from fun b hb => by have := hf.2 b hb; simpa using this)
        have HIx1 := Lib.hid (show ∀ b ∈ bx1, b < w4.heap.size from ho.lt)
        have NDx1 : Hid bx1.Nodup := hf.1
        obtain ⟨x1a0, x1c0, x1a1, x1c1, x1a2, x1c2, rfl⟩ := ho.agg
        have K0_6 := Lib.hid (K0_5.out.trans' hw)
        have Rp0_6 := Lib.hid (row_ext Rp0_5.out hw)
        have Rp1_6 := Lib.hid (row_ext Rp1_5.out hw)
        have Rx0_6 := Lib.hid (row_ext Rx0_5.out hw)
        have Ow_6 := Lib.hid (Ow_5.out.ext hw)
        have Ox0_6 := Lib.hid (Ox0_5.out.ext hw)
        have Ox1_6 := Lib.hid ho
        clear hw ho hf
        clear c130 c131 c132 c133 c134 c135 c136 c140 c141 c142
        obtain ⟨c150, c151, c152, c153, c154, c155, c156⟩ := row7_facts Rp0_6.out
        obtain ⟨c160, c161, c162, -, -, -⟩ := row3_facts Rp1_6.out
        have hA := (Ext.rfl' w4).alloc' (.cells #[.slice x1a0 N1.ends.length x1c0, .slice x1a1 N1.ids.length x1c1, .slice x1a2 N1.inputs.length x1c2] 43)
        have K0_7 := Lib.hid (K0_6.out.trans' hA)
        have Rp0_7 := Lib.hid (row_ext Rp0_6.out hA)
        have Rp1_7 := Lib.hid (row_ext Rp1_6.out hA)
        have Rx0_7 := Lib.hid (row_ext Rx0_6.out hA)
        have Ow_7 := Lib.hid (Ow_6.out.ext hA)
        have Ox0_7 := Lib.hid (Ox0_6.out.ext hA)
        have Ox1_7 := Lib.hid (Ox1_6.out.ext hA)
        have Rx1_7 := Lib.hid (row3_made w4 (.slice x1a0 N1.ends.length x1c0) (.slice x1a1 N1.ids.length x1c1) (.slice x1a2 N1.inputs.length x1c2) 43)
        clear hA
        clear c150 c151 c152 c153 c154 c155 c156 c160 c161 c162
        obtain ⟨c170, c171, c172, c173, c174, c175, c176⟩ := row7_facts Rp0_7.out
        obtain ⟨c180, c181, c182, -, -, -⟩ := row3_facts Rp1_7.out
        clear c170 c171 c172 c173 c174 c175 c176 c180 c181 c182
        obtain ⟨c190, c191, c192, c193, c194, c195, c196⟩ := row7_facts Rx0_7.out
        obtain ⟨c200, c201, c202, -, -, -⟩ := row3_facts Rx1_7.out
        go_wp2_with fail
        (with_reducible refine (implOutputsOf_any n2 Ox0_7.out.read Ox1_7.out.read).mono ?_)
        rintro e w5 ⟨xg, bg, rfl, hw, ho, hf⟩
        have Z5 := Lib.hid (show w4.heap.size + 1 ≤ w5.heap.size from by have := hw.size; simpa using this)
        have LOg := Lib.hid (show ∀ b ∈ bg, w4.heap.size + 1 ≤ b from fun b hb => by have := hf.2 b hb; simpa using this)
        have HIg := Lib.hid (show ∀ b ∈ bg, b < w5.heap.size from ho.1.lt)
        have NDg : Hid bg.Nodup := hf.1
        have K0_8 := Lib.hid (K0_7.out.trans' hw)
        have Rp0_8 := Lib.hid (row_ext Rp0_7.out hw)
        have Rp1_8 := Lib.hid (row_ext Rp1_7.out hw)
        have Rx0_8 := Lib.hid (row_ext Rx0_7.out hw)
        have Rx1_8 := Lib.hid (row_ext Rx1_7.out hw)
        have Ow_8 := Lib.hid (Ow_7.out.ext hw)
        have Ox0_8 := Lib.hid (Ox0_7.out.ext hw)
        have Ox1_8 := Lib.hid (Ox1_7.out.ext hw)
        have Og_8 := Lib.hid ho
        clear hw ho hf
        clear c190 c191 c192 c193 c194 c195 c196 c200 c201 c202
        go_wp2_with fail
        (with_reducible refine (eqIntS_same Og_8.out.read Ow_8.out.read).mono ?_)
        rintro e w6 ⟨rfl, hw⟩
        have Z6 := Lib.hid (show w5.heap.size ≤ w6.heap.size from by have := hw.size; simpa using this)
        have K0_9 := Lib.hid (K0_8.out.trans' hw)
        have Rp0_9 := Lib.hid (row_ext Rp0_8.out hw)
        have Rp1_9 := Lib.hid (row_ext Rp1_8.out hw)
        have Rx0_9 := Lib.hid (row_ext Rx0_8.out hw)
        have Rx1_9 := Lib.hid (row_ext Rx1_8.out hw)
        have Ow_9 := Lib.hid (Ow_8.out.ext hw)
        have Ox0_9 := Lib.hid (Ox0_8.out.ext hw)
        have Ox1_9 := Lib.hid (Ox1_8.out.ext hw)
        have Og_9 := Lib.hid (Og_8.out.ext hw)
        clear hw
        obtain ⟨c210, c211, c212, c213, c214, c215, c216⟩ := row7_facts Rp0_9.out
        obtain ⟨c220, c221, c222, c223, c224, c225, c226⟩ := row7_facts Rx0_9.out
        go_wp2_with fail
        have Hd := Lib.hid (Ext.rfl' w6).drew'
        go_region_held3 (fun w' => w'.cell? ⟨w.heap.size, 0, none⟩ = some (.int .i64 M0.deg) ∧ w'.cell? ⟨w.heap.size, 1, none⟩ = some (.int .i64 M0.sts) ∧ w'.cell? ⟨w.heap.size, 2, none⟩ = some (.int .i64 M0.msgs) ∧ w'.cell? ⟨w.heap.size, 3, none⟩ = some (.slice v0a3 M0.start.length v0c3) ∧ w'.cell? ⟨w.heap.size, 4, none⟩ = some (.slice v0a4 M0.send.length v0c4) ∧ w'.cell? ⟨w.heap.size, 5, none⟩ = some (.slice v0a5 M0.cls.length v0c5) ∧ w'.cell? ⟨w.heap.size, 6, none⟩ = some (.slice v0a6 M0.out.length v0c6) ∧ w'.cell? ⟨w3.heap.size, 0, none⟩ = some (.int .i64 M0.deg) ∧ w'.cell? ⟨w3.heap.size, 1, none⟩ = some (.int .i64 M0.sts) ∧ w'.cell? ⟨w3.heap.size, 2, none⟩ = some (.int .i64 M0.msgs) ∧ w'.cell? ⟨w3.heap.size, 3, none⟩ = some (.slice x0a3 M0.start.length x0c3) ∧ w'.cell? ⟨w3.heap.size, 4, none⟩ = some (.slice x0a4 M0.send.length x0c4) ∧ w'.cell? ⟨w3.heap.size, 5, none⟩ = some (.slice x0a5 M0.cls.length x0c5) ∧ w'.cell? ⟨w3.heap.size, 6, none⟩ = some (.slice x0a6 M0.out.length x0c6) ∧ Hid (Ext w6 w')) (first | exact ⟨c210, c211, c212, c213, c214, c215, c216, c220, c221, c222, c223, c224, c225, c226, Hd⟩ | exact ⟨hx.cell' (Hd.out.cell' c210), hx.cell' (Hd.out.cell' c211), hx.cell' (Hd.out.cell' c212), hx.cell' (Hd.out.cell' c213), hx.cell' (Hd.out.cell' c214), hx.cell' (Hd.out.cell' c215), hx.cell' (Hd.out.cell' c216), hx.cell' (Hd.out.cell' c220), hx.cell' (Hd.out.cell' c221), hx.cell' (Hd.out.cell' c222), hx.cell' (Hd.out.cell' c223), hx.cell' (Hd.out.cell' c224), hx.cell' (Hd.out.cell' c225), hx.cell' (Hd.out.cell' c226), Hd.out.trans' hx⟩ | exact ⟨hy.cell' (hx.cell' (Hd.out.cell' c210)), hy.cell' (hx.cell' (Hd.out.cell' c211)), hy.cell' (hx.cell' (Hd.out.cell' c212)), hy.cell' (hx.cell' (Hd.out.cell' c213)), hy.cell' (hx.cell' (Hd.out.cell' c214)), hy.cell' (hx.cell' (Hd.out.cell' c215)), hy.cell' (hx.cell' (Hd.out.cell' c216)), hy.cell' (hx.cell' (Hd.out.cell' c220)), hy.cell' (hx.cell' (Hd.out.cell' c221)), hy.cell' (hx.cell' (Hd.out.cell' c222)), hy.cell' (hx.cell' (Hd.out.cell' c223)), hy.cell' (hx.cell' (Hd.out.cell' c224)), hy.cell' (hx.cell' (Hd.out.cell' c225)), hy.cell' (hx.cell' (Hd.out.cell' c226)), (Hd.out.trans' hx).trans' hy⟩)
          (first | (go_at_call 21; (with_reducible refine (toMachine_own (HN0.out.ext (K0_9.out.trans' Hd.out)) hs0.out).mono ?_); rintro e wa0 ⟨z, bz, rfl, hx, hoz, hfz⟩; have OZ := Lib.hid hoz.read; have HXZ := Lib.hid hx; clear hoz hfz) | (go_at_call 23; (with_reducible refine (eqMachine_same (Ox0_9.out.read.ext (Hd.out.trans' HXZ.out)) OZ.out).mono ?_); rintro e wb0 ⟨rfl, hy⟩))
        rename_i hh
        have HY := hh.2.2.2.2.2.2.2.2.2.2.2.2.2.2
        clear hh hx hy HXZ OZ
        clear c210 c211 c212 c213 c214 c215 c216 c220 c221 c222 c223 c224 c225 c226
        clear Hd
        have Z7 := Lib.hid (show w6.heap.size ≤ wb0.heap.size from by have := HY.out.size; simpa using this)
        have K0_10 := Lib.hid (K0_9.out.trans' HY.out)
        have Rp0_10 := Lib.hid (row_ext Rp0_9.out HY.out)
        have Rp1_10 := Lib.hid (row_ext Rp1_9.out HY.out)
        have Rx0_10 := Lib.hid (row_ext Rx0_9.out HY.out)
        have Rx1_10 := Lib.hid (row_ext Rx1_9.out HY.out)
        have Ow_10 := Lib.hid (Ow_9.out.ext HY.out)
        have Ox0_10 := Lib.hid (Ox0_9.out.ext HY.out)
        have Ox1_10 := Lib.hid (Ox1_9.out.ext HY.out)
        have Og_10 := Lib.hid (Og_9.out.ext HY.out)
        clear HY
        obtain ⟨c230, c231, c232, -, -, -⟩ := row3_facts Rp1_10.out
        obtain ⟨c240, c241, c242, -, -, -⟩ := row3_facts Rx1_10.out
        go_wp2_with fail
        have Hd := Lib.hid (Ext.rfl' wb0).drew'
        go_region_held3 (fun w' => w'.cell? ⟨(w.heap.size + 1), 0, none⟩ = some v10 ∧ w'.cell? ⟨(w.heap.size + 1), 1, none⟩ = some v11 ∧ w'.cell? ⟨(w.heap.size + 1), 2, none⟩ = some v12 ∧ w'.cell? ⟨w4.heap.size, 0, none⟩ = some (.slice x1a0 N1.ends.length x1c0) ∧ w'.cell? ⟨w4.heap.size, 1, none⟩ = some (.slice x1a1 N1.ids.length x1c1) ∧ w'.cell? ⟨w4.heap.size, 2, none⟩ = some (.slice x1a2 N1.inputs.length x1c2) ∧ Hid (Ext wb0 w')) (first | exact ⟨c230, c231, c232, c240, c241, c242, Hd⟩ | exact ⟨hx.cell' (Hd.out.cell' c230), hx.cell' (Hd.out.cell' c231), hx.cell' (Hd.out.cell' c232), hx.cell' (Hd.out.cell' c240), hx.cell' (Hd.out.cell' c241), hx.cell' (Hd.out.cell' c242), Hd.out.trans' hx⟩ | exact ⟨hy.cell' (hx.cell' (Hd.out.cell' c230)), hy.cell' (hx.cell' (Hd.out.cell' c231)), hy.cell' (hx.cell' (Hd.out.cell' c232)), hy.cell' (hx.cell' (Hd.out.cell' c240)), hy.cell' (hx.cell' (Hd.out.cell' c241)), hy.cell' (hx.cell' (Hd.out.cell' c242)), (Hd.out.trans' hx).trans' hy⟩)
          (first | (go_at_call 26; (with_reducible refine (toNetwork_own (HN1.out.ext (K0_10.out.trans' Hd.out)) hs1.out).mono ?_); rintro e wa1 ⟨z, bz, rfl, hx, hoz, hfz⟩; have OZ := Lib.hid hoz.read; have HXZ := Lib.hid hx; clear hoz hfz) | (go_at_call 28; (with_reducible refine (eqNetwork_same (Ox1_10.out.read.ext (Hd.out.trans' HXZ.out)) OZ.out).mono ?_); rintro e wb1 ⟨rfl, hy⟩))
        rename_i hh
        have HY := hh.2.2.2.2.2.2
        clear hh hx hy HXZ OZ
        clear c230 c231 c232 c240 c241 c242
        clear Hd
        have Z8 := Lib.hid (show wb0.heap.size ≤ wb1.heap.size from by have := HY.out.size; simpa using this)
        have K0_11 := Lib.hid (K0_10.out.trans' HY.out)
        have Rp0_11 := Lib.hid (row_ext Rp0_10.out HY.out)
        have Rp1_11 := Lib.hid (row_ext Rp1_10.out HY.out)
        have Rx0_11 := Lib.hid (row_ext Rx0_10.out HY.out)
        have Rx1_11 := Lib.hid (row_ext Rx1_10.out HY.out)
        have Ow_11 := Lib.hid (Ow_10.out.ext HY.out)
        have Ox0_11 := Lib.hid (Ox0_10.out.ext HY.out)
        have Ox1_11 := Lib.hid (Ox1_10.out.ext HY.out)
        have Og_11 := Lib.hid (Og_10.out.ext HY.out)
        clear HY
        obtain ⟨c250, c251, c252, c253, c254, c255, c256⟩ := row7_facts Rx0_11.out
        go_wp2_with fail
        (with_reducible refine (markMachine_at _ Ox0_11.out NDx0.out hs0.out (by omega) (by omega)).mono ?_)
        rintro e w7 ⟨rm0, rfl, hrm0, hrm1, hc⟩
        have Z9 := Lib.hid (show wb1.heap.size ≤ w7.heap.size from by have := hc.size; simpa using this)
        have K0_12 := Lib.hid (Chg.ext K0_11.out hc fun b hb => by have := LOx0.out b hb; have := Z0.out; have := Z1.out; have := Z2.out; have := Z3.out; have := Z4.out; have := Z5.out; have := Z6.out; have := Z7.out; have := Z8.out; have := Z9.out; omega)
        have Rp0_12 := Lib.hid (Rp0_11.out.of_block (hc.block _ Rp0_11.out.lt fun hb => by have := LOx0.out _ hb; have := HIx0.out _ hb; have := Z0.out; have := Z1.out; have := Z2.out; have := Z3.out; have := Z4.out; have := Z5.out; have := Z6.out; have := Z7.out; have := Z8.out; have := Z9.out; omega))
        have Rp1_12 := Lib.hid (Rp1_11.out.of_block (hc.block _ Rp1_11.out.lt fun hb => by have := LOx0.out _ hb; have := HIx0.out _ hb; have := Z0.out; have := Z1.out; have := Z2.out; have := Z3.out; have := Z4.out; have := Z5.out; have := Z6.out; have := Z7.out; have := Z8.out; have := Z9.out; omega))
        have Rx0_12 := Lib.hid (Rx0_11.out.of_block (hc.block _ Rx0_11.out.lt fun hb => by have := LOx0.out _ hb; have := HIx0.out _ hb; have := Z0.out; have := Z1.out; have := Z2.out; have := Z3.out; have := Z4.out; have := Z5.out; have := Z6.out; have := Z7.out; have := Z8.out; have := Z9.out; omega))
        have Rx1_12 := Lib.hid (Rx1_11.out.of_block (hc.block _ Rx1_11.out.lt fun hb => by have := LOx0.out _ hb; have := HIx0.out _ hb; have := Z0.out; have := Z1.out; have := Z2.out; have := Z3.out; have := Z4.out; have := Z5.out; have := Z6.out; have := Z7.out; have := Z8.out; have := Z9.out; omega))
        have Ow_12 := Lib.hid (Ow_11.out.keep fun b hb => hc.block b (Ow_11.out.1.lt b hb) fun hb' => by have := LOx0.out b hb'; have := HIx0.out b hb'; have := LOw.out b hb; have := HIw.out b hb; have := Z0.out; have := Z1.out; have := Z2.out; have := Z3.out; have := Z4.out; have := Z5.out; have := Z6.out; have := Z7.out; have := Z8.out; have := Z9.out; omega)
        have Ox1_12 := Lib.hid (Ox1_11.out.keep fun b hb => hc.block b (Ox1_11.out.lt b hb) fun hb' => by have := LOx0.out b hb'; have := HIx0.out b hb'; have := LOx1.out b hb; have := HIx1.out b hb; have := Z0.out; have := Z1.out; have := Z2.out; have := Z3.out; have := Z4.out; have := Z5.out; have := Z6.out; have := Z7.out; have := Z8.out; have := Z9.out; omega)
        have Og_12 := Lib.hid (Og_11.out.keep fun b hb => hc.block b (Og_11.out.1.lt b hb) fun hb' => by have := LOx0.out b hb'; have := HIx0.out b hb'; have := LOg.out b hb; have := HIg.out b hb; have := Z0.out; have := Z1.out; have := Z2.out; have := Z3.out; have := Z4.out; have := Z5.out; have := Z6.out; have := Z7.out; have := Z8.out; have := Z9.out; omega)
        clear hc
        clear c250 c251 c252 c253 c254 c255 c256
        obtain ⟨c260, c261, c262, -, -, -⟩ := row3_facts Rx1_12.out
        go_wp2_with fail
        (with_reducible refine (markNetwork_at _ Ox1_12.out NDx1.out hs1.out (by omega) (by omega)).mono ?_)
        obtain ⟨hq10, hq11⟩ := netLast_bound hs1.out
        rintro e w8 ⟨rm1, rfl, hrm0, hrm1, hc⟩
        have Z10 := Lib.hid (show w7.heap.size ≤ w8.heap.size from by have := hc.size; simpa using this)
        have K0_13 := Lib.hid (Chg.ext K0_12.out hc fun b hb => by have := LOx1.out b hb; have := Z0.out; have := Z1.out; have := Z2.out; have := Z3.out; have := Z4.out; have := Z5.out; have := Z6.out; have := Z7.out; have := Z8.out; have := Z9.out; have := Z10.out; omega)
        have Rp0_13 := Lib.hid (Rp0_12.out.of_block (hc.block _ Rp0_12.out.lt fun hb => by have := LOx1.out _ hb; have := HIx1.out _ hb; have := Z0.out; have := Z1.out; have := Z2.out; have := Z3.out; have := Z4.out; have := Z5.out; have := Z6.out; have := Z7.out; have := Z8.out; have := Z9.out; have := Z10.out; omega))
        have Rp1_13 := Lib.hid (Rp1_12.out.of_block (hc.block _ Rp1_12.out.lt fun hb => by have := LOx1.out _ hb; have := HIx1.out _ hb; have := Z0.out; have := Z1.out; have := Z2.out; have := Z3.out; have := Z4.out; have := Z5.out; have := Z6.out; have := Z7.out; have := Z8.out; have := Z9.out; have := Z10.out; omega))
        have Rx1_13 := Lib.hid (Rx1_12.out.of_block (hc.block _ Rx1_12.out.lt fun hb => by have := LOx1.out _ hb; have := HIx1.out _ hb; have := Z0.out; have := Z1.out; have := Z2.out; have := Z3.out; have := Z4.out; have := Z5.out; have := Z6.out; have := Z7.out; have := Z8.out; have := Z9.out; have := Z10.out; omega))
        have Ow_13 := Lib.hid (Ow_12.out.keep fun b hb => hc.block b (Ow_12.out.1.lt b hb) fun hb' => by have := LOx1.out b hb'; have := HIx1.out b hb'; have := LOw.out b hb; have := HIw.out b hb; have := Z0.out; have := Z1.out; have := Z2.out; have := Z3.out; have := Z4.out; have := Z5.out; have := Z6.out; have := Z7.out; have := Z8.out; have := Z9.out; have := Z10.out; omega)
        have Og_13 := Lib.hid (Og_12.out.keep fun b hb => hc.block b (Og_12.out.1.lt b hb) fun hb' => by have := LOx1.out b hb'; have := HIx1.out b hb'; have := LOg.out b hb; have := HIg.out b hb; have := Z0.out; have := Z1.out; have := Z2.out; have := Z3.out; have := Z4.out; have := Z5.out; have := Z6.out; have := Z7.out; have := Z8.out; have := Z9.out; have := Z10.out; omega)
        clear hc
        clear c260 c261 c262
        go_wp2_with fail
        (with_reducible refine (eqIntS_same Og_13.out.read Ow_13.out.read).mono ?_)
        rintro e w9 ⟨rfl, hw⟩
        have Z11 := Lib.hid (show w8.heap.size ≤ w9.heap.size from by have := hw.size; simpa using this)
        have K0_14 := Lib.hid (K0_13.out.trans' hw)
        have Rp0_14 := Lib.hid (row_ext Rp0_13.out hw)
        have Rp1_14 := Lib.hid (row_ext Rp1_13.out hw)
        have Ow_14 := Lib.hid (Ow_13.out.ext hw)
        have Og_14 := Lib.hid (Og_13.out.ext hw)
        clear hw
        go_wp2_with fail
        (with_reducible refine (markIntS_any _ Og_14.out hll (by omega) (by omega)).mono ?_)
        rintro e w10 ⟨rfl, hc, hm⟩
        have Z12 := Lib.hid (show w9.heap.size ≤ w10.heap.size from by have := hc.size; simpa using this)
        have K0_15 := Lib.hid (Chg.ext K0_14.out hc fun b hb => by have := LOg.out b hb; have := Z0.out; have := Z1.out; have := Z2.out; have := Z3.out; have := Z4.out; have := Z5.out; have := Z6.out; have := Z7.out; have := Z8.out; have := Z9.out; have := Z10.out; have := Z11.out; have := Z12.out; omega)
        have Rp0_15 := Lib.hid (Rp0_14.out.of_block (hc.block _ Rp0_14.out.lt fun hb => by have := LOg.out _ hb; have := HIg.out _ hb; have := Z0.out; have := Z1.out; have := Z2.out; have := Z3.out; have := Z4.out; have := Z5.out; have := Z6.out; have := Z7.out; have := Z8.out; have := Z9.out; have := Z10.out; have := Z11.out; have := Z12.out; omega))
        have Rp1_15 := Lib.hid (Rp1_14.out.of_block (hc.block _ Rp1_14.out.lt fun hb => by have := LOg.out _ hb; have := HIg.out _ hb; have := Z0.out; have := Z1.out; have := Z2.out; have := Z3.out; have := Z4.out; have := Z5.out; have := Z6.out; have := Z7.out; have := Z8.out; have := Z9.out; have := Z10.out; have := Z11.out; have := Z12.out; omega))
        have Ow_15 := Lib.hid (Ow_14.out.keep fun b hb => hc.block b (Ow_14.out.1.lt b hb) fun hb' => by have := LOg.out b hb'; have := HIg.out b hb'; have := LOw.out b hb; have := HIw.out b hb; have := Z0.out; have := Z1.out; have := Z2.out; have := Z3.out; have := Z4.out; have := Z5.out; have := Z6.out; have := Z7.out; have := Z8.out; have := Z9.out; have := Z10.out; have := Z11.out; have := Z12.out; omega)
        have Og_15 := Lib.hid hm
        clear hc hm
        go_wp2_with fail
        (with_reducible refine (heldIntS_any _ _ Og_15.out.read hll (by omega) (by omega)).mono ?_)
        rintro e w11 ⟨rfl, rfl⟩
        obtain ⟨c270, c271, c272, c273, c274, c275, c276⟩ := row7_facts Rp0_15.out
        obtain ⟨c280, c281, c282, -, -, -⟩ := row3_facts Rp1_15.out
        clear c270 c271 c272 c273 c274 c275 c276 c280 c281 c282
        obtain ⟨c290, c291, c292, c293, c294, c295, c296⟩ := row7_facts Rp0_15.out
        obtain ⟨c300, c301, c302, -, -, -⟩ := row3_facts Rp1_15.out
        have mkS : ∀ w' : World, Ext w10 w' → w'.cell? ⟨w.heap.size, 0, none⟩ = some (.int .i64 M0.deg) ∧ w'.cell? ⟨w.heap.size, 1, none⟩ = some (.int .i64 M0.sts) ∧ w'.cell? ⟨w.heap.size, 2, none⟩ = some (.int .i64 M0.msgs) ∧ w'.cell? ⟨w.heap.size, 3, none⟩ = some (.slice v0a3 M0.start.length v0c3) ∧ w'.cell? ⟨w.heap.size, 4, none⟩ = some (.slice v0a4 M0.send.length v0c4) ∧ w'.cell? ⟨w.heap.size, 5, none⟩ = some (.slice v0a5 M0.cls.length v0c5) ∧ w'.cell? ⟨w.heap.size, 6, none⟩ = some (.slice v0a6 M0.out.length v0c6) ∧ w'.cell? ⟨(w.heap.size + 1), 0, none⟩ = some v10 ∧ w'.cell? ⟨(w.heap.size + 1), 1, none⟩ = some v11 ∧ w'.cell? ⟨(w.heap.size + 1), 2, none⟩ = some v12 ∧ Hid (Ext w10 w') := fun w' h => ⟨h.cell' c290, h.cell' c291, h.cell' c292, h.cell' c293, h.cell' c294, h.cell' c295, h.cell' c296, h.cell' c300, h.cell' c301, h.cell' c302, h⟩
        go_wp2_with fail
        go_cut [17, 18] from 99 to 107 (fun t6 t7 wx => ∃ (v : Value) (bs : List Nat), t6 = v ∧ t7 = .bool (dec (HaltB M0 N1 n2)) ∧ Hid (Ext w10 wx ∧ OwnI wx v (ooAns M0 N1 n2) bs ∧ bs.Nodup ∧ ∀ b ∈ bs, w10.heap.size ≤ b))
        case first =>
          go_region_held3 (fun w' => w'.cell? ⟨w.heap.size, 0, none⟩ = some (.int .i64 M0.deg) ∧ w'.cell? ⟨w.heap.size, 1, none⟩ = some (.int .i64 M0.sts) ∧ w'.cell? ⟨w.heap.size, 2, none⟩ = some (.int .i64 M0.msgs) ∧ w'.cell? ⟨w.heap.size, 3, none⟩ = some (.slice v0a3 M0.start.length v0c3) ∧ w'.cell? ⟨w.heap.size, 4, none⟩ = some (.slice v0a4 M0.send.length v0c4) ∧ w'.cell? ⟨w.heap.size, 5, none⟩ = some (.slice v0a5 M0.cls.length v0c5) ∧ w'.cell? ⟨w.heap.size, 6, none⟩ = some (.slice v0a6 M0.out.length v0c6) ∧ w'.cell? ⟨(w.heap.size + 1), 0, none⟩ = some v10 ∧ w'.cell? ⟨(w.heap.size + 1), 1, none⟩ = some v11 ∧ w'.cell? ⟨(w.heap.size + 1), 2, none⟩ = some v12 ∧ Hid (Ext w10 w')) (first | exact mkS _ (Ext.rfl' w10).drew' | exact mkS _ XA.out | exact mkS _ XB.out | exact mkS _ XZ.out | fail)
            (first | (go_at_call_of 21 (Value.agg #[.int .i64 M0.deg, .int .i64 M0.sts, .int .i64 M0.msgs, .slice v0a3 M0.start.length v0c3, .slice v0a4 M0.send.length v0c4, .slice v0a5 M0.cls.length v0c5, .slice v0a6 M0.out.length v0c6]); (with_reducible refine (toMachine_own (HN0.out.ext (K0_15.out.trans' ((‹_ ∧ _ ∧ _ ∧ _ ∧ _ ∧ _ ∧ _ ∧ _ ∧ _ ∧ _ ∧ Hid (Ext w10 _)›).2.2.2.2.2.2.2.2.2.2.out))) hs0.out).mono ?_); rintro e wqA ⟨yA, bA, rfl, hx, ho, hf⟩; have XA := Lib.hid (Ext.trans' ((‹_ ∧ _ ∧ _ ∧ _ ∧ _ ∧ _ ∧ _ ∧ _ ∧ _ ∧ _ ∧ Hid (Ext w10 _)›).2.2.2.2.2.2.2.2.2.2.out) hx); have OA0 := Lib.hid ho.read; clear ho hf) | (go_at_call_of 26 (Value.agg #[v10, v11, v12]); (with_reducible refine (toNetwork_own (HN1.out.ext (K0_15.out.trans' ((‹_ ∧ _ ∧ _ ∧ _ ∧ _ ∧ _ ∧ _ ∧ _ ∧ _ ∧ _ ∧ Hid (Ext w10 _)›).2.2.2.2.2.2.2.2.2.2.out))) hs1.out).mono ?_); rintro e wqB ⟨yB, bB, rfl, hx, ho, hf⟩; have XB := Lib.hid (Ext.trans' ((‹_ ∧ _ ∧ _ ∧ _ ∧ _ ∧ _ ∧ _ ∧ _ ∧ _ ∧ _ ∧ Hid (Ext w10 _)›).2.2.2.2.2.2.2.2.2.2.out) hx); have OA1 := Lib.hid (OA0.out.ext hx); have OB1 := Lib.hid ho.read; clear ho hf) | (go_at_call 53; (with_reducible refine (implOutputsOf_any n2 OA1.out OB1.out).mono ?_); rintro e wz ⟨xz, bz, rfl, hx, ho, hf⟩; have XZ := Lib.hid (Ext.trans' ((‹_ ∧ _ ∧ _ ∧ _ ∧ _ ∧ _ ∧ _ ∧ _ ∧ _ ∧ _ ∧ Hid (Ext w10 _)›).2.2.2.2.2.2.2.2.2.2.out) hx); have FZ : Hid (bz.Nodup ∧ ∀ b ∈ bz, w10.heap.size ≤ b) := ⟨hf.1, fun b hb => Nat.le_trans ((‹_ ∧ _ ∧ _ ∧ _ ∧ _ ∧ _ ∧ _ ∧ _ ∧ _ ∧ _ ∧ Hid (Ext w10 _)›).2.2.2.2.2.2.2.2.2.2.out).size (hf.2 b hb)⟩; have OZ := Lib.hid ho; clear ho hf))
          all_goals go_wp2_with fail
          all_goals go_meet
          all_goals exact ⟨_, _, rfl, rfl, XZ.out, OZ.out, FZ.out⟩
        case rest =>
          obtain ⟨xh, bh, rfl, rfl, XC⟩ := hcut
          clear mkS
          obtain ⟨w9h, h9⟩ : ∃ w9 : World, w9 = wc := ⟨_, rfl⟩
          subst h9
          clear c290 c291 c292 c293 c294 c295 c296 c300 c301 c302
          have LOh := Lib.hid XC.out.2.2.2
          have HIh := Lib.hid (show ∀ b ∈ bh, b < w9h.heap.size from XC.out.2.1.1.lt)
          have NDh := Lib.hid XC.out.2.2.1
          have Z13 := Lib.hid (show w10.heap.size ≤ w9h.heap.size from by have := XC.out.1.size; simpa using this)
          have K0_16 := Lib.hid (K0_15.out.trans' XC.out.1)
          have Rp0_16 := Lib.hid (row_ext Rp0_15.out XC.out.1)
          have Rp1_16 := Lib.hid (row_ext Rp1_15.out XC.out.1)
          have Ow_16 := Lib.hid (Ow_15.out.ext XC.out.1)
          have Og_16 := Lib.hid (Og_15.out.ext XC.out.1)
          have Oh_16 := Lib.hid XC.out.2.1
          go_wp2_with fail
          (with_reducible refine (eqIntS_same Oh_16.out.read Ow_16.out.read).mono ?_)
          rintro e w12 ⟨rfl, hw⟩
          have Z14 := Lib.hid (show w9h.heap.size ≤ w12.heap.size from by have := hw.size; simpa using this)
          have K0_17 := Lib.hid (K0_16.out.trans' hw)
          have Rp0_17 := Lib.hid (row_ext Rp0_16.out hw)
          have Rp1_17 := Lib.hid (row_ext Rp1_16.out hw)
          have Ow_17 := Lib.hid (Ow_16.out.ext hw)
          have Og_17 := Lib.hid (Og_16.out.ext hw)
          have Oh_17 := Lib.hid (Oh_16.out.ext hw)
          clear hw
          go_wp2_with fail
          (with_reducible refine (heldIntS_any _ _ Og_17.out.read hll (by omega) (by omega)).mono ?_)
          rintro e w13 ⟨rfl, rfl⟩
          go_wp2
          go_ret
          exact ⟨rfl, K0_17.out⟩
theorem walk_OutputsOf {w : World} {v0 : Value} {M0 : Mach} {v1 : Value} {N1 : Net} (n2 : Int) (h0 : MachAt w v0 M0) (h1 : NetAt w v1 N1) :
    Calls Try.prog 12 #[v0, v1, .int .i64 n2] w fun e w' => e = .returned (.bool true) ∧ Ext w w' := walk_OutputsOf_of n2 h0 h1 (ooAns_small _ _ _)
end Go.Proofs.Ytdcgpodjoalokaa
