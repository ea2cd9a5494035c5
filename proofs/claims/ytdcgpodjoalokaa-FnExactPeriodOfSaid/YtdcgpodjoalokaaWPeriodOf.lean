/- The walk of FnExactPeriodOf: whatever the arguments, the law answers true and changes nothing that was there. No condition but that the answer is short. -/
import Derived.Test.YtdcgpodjoalokaaMpc
import Derived.Test.YtdcgpodjoalokaaMd
import Derived.Test.YtdcgpodjoalokaaMe
import Derived.Test.YtdcgpodjoalokaaMf
import Derived.Test.YtdcgpodjoalokaaKc
namespace Go.Proofs.Ytdcgpodjoalokaa
open Go.RowKit

set_option maxHeartbeats 6400000 in
set_option maxRecDepth 100000 in
theorem walk_PeriodOf {w : World} {v0 : Value} {M0 : Mach} {v1 : Value} {N1 : Net} (n2 : Int) (h0 : MachAt w v0 M0) (h1 : NetAt w v1 N1) :
    Calls Try.prog 14 #[v0, v1, .int .i64 n2] w fun e w' => e = .returned (.bool true) ∧ Ext w w' := by
  have HN0 := Lib.hid h0
  obtain ⟨v0a3, v0c3, v0a4, v0c4, v0a5, v0c5, v0a6, v0c6, rfl, -⟩ := h0
  have HN1 := Lib.hid h1
  obtain ⟨v10, v11, v12, rfl, hE, hI, hP⟩ := h1
  clear hE hI hP
  have K0 := Lib.hid ((boxed7_ext w (.int .i64 M0.deg) (.int .i64 M0.sts) (.int .i64 M0.msgs) (.slice v0a3 M0.start.length v0c3) (.slice v0a4 M0.send.length v0c4) (.slice v0a5 M0.cls.length v0c5) (.slice v0a6 M0.out.length v0c6) 26).trans' (boxed_ext (boxed7 w (.int .i64 M0.deg) (.int .i64 M0.sts) (.int .i64 M0.msgs) (.slice v0a3 M0.start.length v0c3) (.slice v0a4 M0.send.length v0c4) (.slice v0a5 M0.cls.length v0c5) (.slice v0a6 M0.out.length v0c6) 26) v10 v11 v12 37))
  have Rp0_0 := Lib.hid (show World.rowIs (boxed (boxed7 w (.int .i64 M0.deg) (.int .i64 M0.sts) (.int .i64 M0.msgs) (.slice v0a3 M0.start.length v0c3) (.slice v0a4 M0.send.length v0c4) (.slice v0a5 M0.cls.length v0c5) (.slice v0a6 M0.out.length v0c6) 26) v10 v11 v12 37) w.heap.size 26 7 (sept (.int .i64 M0.deg) (.int .i64 M0.sts) (.int .i64 M0.msgs) (.slice v0a3 M0.start.length v0c3) (.slice v0a4 M0.send.length v0c4) (.slice v0a5 M0.cls.length v0c5) (.slice v0a6 M0.out.length v0c6)) from (boxed7_row w (.int .i64 M0.deg) (.int .i64 M0.sts) (.int .i64 M0.msgs) (.slice v0a3 M0.start.length v0c3) (.slice v0a4 M0.send.length v0c4) (.slice v0a5 M0.cls.length v0c5) (.slice v0a6 M0.out.length v0c6) 26).alloc _)
  have Rp1_0 := Lib.hid (show World.rowIs (boxed (boxed7 w (.int .i64 M0.deg) (.int .i64 M0.sts) (.int .i64 M0.msgs) (.slice v0a3 M0.start.length v0c3) (.slice v0a4 M0.send.length v0c4) (.slice v0a5 M0.cls.length v0c5) (.slice v0a6 M0.out.length v0c6) 26) v10 v11 v12 37) (w.heap.size + 1) 37 3 (tri v10 v11 v12) from by simpa using boxed_row (boxed7 w (.int .i64 M0.deg) (.int .i64 M0.sts) (.int .i64 M0.msgs) (.slice v0a3 M0.start.length v0c3) (.slice v0a4 M0.send.length v0c4) (.slice v0a5 M0.cls.length v0c5) (.slice v0a6 M0.out.length v0c6) 26) v10 v11 v12 37)
  have hm0 : ((poR M0 N1 n2) != (poR M0 N1 n2)) = false := by simp
  have hm1 : ((poQ M0 N1 n2) != (poQ M0 N1 n2)) = false := by simp
  have hbb : (dec (PerB M0 N1 n2) != dec (PerB M0 N1 n2)) = false := by simp
  go_enter Try.func14, Try.ntmps14
  go_wp2_with fail
  (with_reducible refine (szMachine_any _ (HN0.out.ext K0.out) (by omega) (by omega)).mono ?_)
  rintro e w1 ⟨r0, rfl, hw, hr00, hr10, hr2⟩
  have Z0 := Lib.hid (show w.heap.size + 2 ≤ w1.heap.size from by have := hw.size; simpa using this)
  have K0_1 := Lib.hid (K0.out.trans' hw)
  have Rp0_1 := Lib.hid (row_ext Rp0_0.out hw)
  have Rp1_1 := Lib.hid (row_ext Rp1_0.out hw)
  have S0 := Lib.hid hr2
  clear hw hr2
  obtain ⟨c10, c11, c12, c13, c14, c15, c16⟩ := row7_facts Rp0_1.out
  obtain ⟨c20, c21, c22, -, -, -⟩ := row3_facts Rp1_1.out
  by_cases hneg0 : r0 < 0
  case pos =>
    go_wp2
    go_ret
    exact ⟨rfl, K0_1.out⟩
  case neg =>
    have hs0 := Lib.hid (S0.out (by omega))
    go_wp2_with fail
    (with_reducible refine (szNetwork_any _ (HN1.out.ext K0_1.out) (by omega) (by omega)).mono ?_)
    rintro e w2 ⟨r1, rfl, hw, hr01, hr11, hr2⟩
    have Z1 := Lib.hid (show w1.heap.size ≤ w2.heap.size from by have := hw.size; simpa using this)
    have K0_2 := Lib.hid (K0_1.out.trans' hw)
    have Rp0_2 := Lib.hid (row_ext Rp0_1.out hw)
    have Rp1_2 := Lib.hid (row_ext Rp1_1.out hw)
    have S1 := Lib.hid hr2
    clear hw hr2
    clear c10 c11 c12 c13 c14 c15 c16 c20 c21 c22
    obtain ⟨c30, c31, c32, c33, c34, c35, c36⟩ := row7_facts Rp0_2.out
    obtain ⟨c40, c41, c42, -, -, -⟩ := row3_facts Rp1_2.out
    by_cases hneg1 : r1 < 0
    case pos =>
      go_wp2
      go_ret
      exact ⟨rfl, K0_2.out⟩
    case neg =>
      have hs1 := Lib.hid (S1.out (by omega))
      clear c30 c31 c32 c33 c34 c35 c36 c40 c41 c42
      obtain ⟨c50, c51, c52, c53, c54, c55, c56⟩ := row7_facts Rp0_2.out
      obtain ⟨c60, c61, c62, -, -, -⟩ := row3_facts Rp1_2.out
      clear c50 c51 c52 c53 c54 c55 c56 c60 c61 c62
      obtain ⟨c70, c71, c72, c73, c74, c75, c76⟩ := row7_facts Rp0_2.out
      obtain ⟨c80, c81, c82, -, -, -⟩ := row3_facts Rp1_2.out
      have mkS : ∀ w' : World, Ext w2 w' → w'.cell? ⟨w.heap.size, 0, none⟩ = some (.int .i64 M0.deg) ∧ w'.cell? ⟨w.heap.size, 1, none⟩ = some (.int .i64 M0.sts) ∧ w'.cell? ⟨w.heap.size, 2, none⟩ = some (.int .i64 M0.msgs) ∧ w'.cell? ⟨w.heap.size, 3, none⟩ = some (.slice v0a3 M0.start.length v0c3) ∧ w'.cell? ⟨w.heap.size, 4, none⟩ = some (.slice v0a4 M0.send.length v0c4) ∧ w'.cell? ⟨w.heap.size, 5, none⟩ = some (.slice v0a5 M0.cls.length v0c5) ∧ w'.cell? ⟨w.heap.size, 6, none⟩ = some (.slice v0a6 M0.out.length v0c6) ∧ w'.cell? ⟨(w.heap.size + 1), 0, none⟩ = some v10 ∧ w'.cell? ⟨(w.heap.size + 1), 1, none⟩ = some v11 ∧ w'.cell? ⟨(w.heap.size + 1), 2, none⟩ = some v12 ∧ Hid (Ext w2 w') := fun w' h => ⟨h.cell' c70, h.cell' c71, h.cell' c72, h.cell' c73, h.cell' c74, h.cell' c75, h.cell' c76, h.cell' c80, h.cell' c81, h.cell' c82, h⟩
      go_wp2_with fail
      go_cut [8, 9, 10] from 27 to 36 (fun t6 t7 t8 wx => t6 = .int .i64 (poR M0 N1 n2) ∧ t7 = .int .i64 (poQ M0 N1 n2) ∧ t8 = .bool (dec (PerB M0 N1 n2)) ∧ Hid (Ext w2 wx))
      case first =>
        go_region_held3 (fun w' => w'.cell? ⟨w.heap.size, 0, none⟩ = some (.int .i64 M0.deg) ∧ w'.cell? ⟨w.heap.size, 1, none⟩ = some (.int .i64 M0.sts) ∧ w'.cell? ⟨w.heap.size, 2, none⟩ = some (.int .i64 M0.msgs) ∧ w'.cell? ⟨w.heap.size, 3, none⟩ = some (.slice v0a3 M0.start.length v0c3) ∧ w'.cell? ⟨w.heap.size, 4, none⟩ = some (.slice v0a4 M0.send.length v0c4) ∧ w'.cell? ⟨w.heap.size, 5, none⟩ = some (.slice v0a5 M0.cls.length v0c5) ∧ w'.cell? ⟨w.heap.size, 6, none⟩ = some (.slice v0a6 M0.out.length v0c6) ∧ w'.cell? ⟨(w.heap.size + 1), 0, none⟩ = some v10 ∧ w'.cell? ⟨(w.heap.size + 1), 1, none⟩ = some v11 ∧ w'.cell? ⟨(w.heap.size + 1), 2, none⟩ = some v12 ∧ Hid (Ext w2 w')) (first | exact mkS _ (Ext.rfl' w2).drew' | exact mkS _ XA.out | exact mkS _ XB.out | exact mkS _ XZ.out | fail)
          (first | (go_at_call_of 21 (Value.agg #[.int .i64 M0.deg, .int .i64 M0.sts, .int .i64 M0.msgs, .slice v0a3 M0.start.length v0c3, .slice v0a4 M0.send.length v0c4, .slice v0a5 M0.cls.length v0c5, .slice v0a6 M0.out.length v0c6]); (with_reducible refine (toMachine_own (HN0.out.ext (K0_2.out.trans' ((‹_ ∧ _ ∧ _ ∧ _ ∧ _ ∧ _ ∧ _ ∧ _ ∧ _ ∧ _ ∧ Hid (Ext w2 _)›).2.2.2.2.2.2.2.2.2.2.out))) hs0.out).mono ?_); rintro e wqA ⟨yA, bA, rfl, hx, ho, hf⟩; have XA := Lib.hid (Ext.trans' ((‹_ ∧ _ ∧ _ ∧ _ ∧ _ ∧ _ ∧ _ ∧ _ ∧ _ ∧ _ ∧ Hid (Ext w2 _)›).2.2.2.2.2.2.2.2.2.2.out) hx); have OA0 := Lib.hid ho.read; clear ho hf) | (go_at_call_of 26 (Value.agg #[v10, v11, v12]); (with_reducible refine (toNetwork_own (HN1.out.ext (K0_2.out.trans' ((‹_ ∧ _ ∧ _ ∧ _ ∧ _ ∧ _ ∧ _ ∧ _ ∧ _ ∧ _ ∧ Hid (Ext w2 _)›).2.2.2.2.2.2.2.2.2.2.out))) hs1.out).mono ?_); rintro e wqB ⟨yB, bB, rfl, hx, ho, hf⟩; have XB := Lib.hid (Ext.trans' ((‹_ ∧ _ ∧ _ ∧ _ ∧ _ ∧ _ ∧ _ ∧ _ ∧ _ ∧ _ ∧ Hid (Ext w2 _)›).2.2.2.2.2.2.2.2.2.2.out) hx); have OA1 := Lib.hid (OA0.out.ext hx); have OB1 := Lib.hid ho.read; clear ho hf) | (go_at_call 58; (with_reducible refine (specPeriodOf_any n2 OA1.out OB1.out).mono ?_); rintro e wz ⟨rfl, hx⟩; have XZ := Lib.hid (Ext.trans' ((‹_ ∧ _ ∧ _ ∧ _ ∧ _ ∧ _ ∧ _ ∧ _ ∧ _ ∧ _ ∧ Hid (Ext w2 _)›).2.2.2.2.2.2.2.2.2.2.out) hx)))
        all_goals go_wp2_with fail
        all_goals go_meet
        all_goals exact ⟨rfl, rfl, rfl, XZ.out⟩
      case rest =>
        obtain ⟨rfl, rfl, rfl, XC⟩ := hcut
        clear mkS
        obtain ⟨w9, h9⟩ : ∃ w9 : World, w9 = wc := ⟨_, rfl⟩
        subst h9
        clear c70 c71 c72 c73 c74 c75 c76 c80 c81 c82
        have Z2 := Lib.hid (show w2.heap.size ≤ w9.heap.size from by have := XC.out.size; simpa using this)
        have K0_3 := Lib.hid (K0_2.out.trans' XC.out)
        have Rp0_3 := Lib.hid (row_ext Rp0_2.out XC.out)
        have Rp1_3 := Lib.hid (row_ext Rp1_2.out XC.out)
        obtain ⟨c90, c91, c92, c93, c94, c95, c96⟩ := row7_facts Rp0_3.out
        obtain ⟨c100, c101, c102, -, -, -⟩ := row3_facts Rp1_3.out
        go_wp2_with fail
        (with_reducible refine (toMachine_own (HN0.out.ext K0_3.out) hs0.out).mono ?_)
        rintro e w3 ⟨xx0, bx0, rfl, hw, ho, hf⟩
        have Z3 := Lib.hid (show w9.heap.size ≤ w3.heap.size from by have := hw.size; simpa using this)
        have LOx0 := Lib.hid (show ∀ b ∈ bx0, w9.heap.size ≤ b from fun b hb => by have := hf.2 b hb; simpa using this)
        have HIx0 := Lib.hid (show ∀ b ∈ bx0, b < w3.heap.size from ho.lt)
        have NDx0 : Hid bx0.Nodup := hf.1
        obtain ⟨x0a3, x0c3, x0a4, x0c4, x0a5, x0c5, x0a6, x0c6, rfl⟩ := ho.agg
        have K0_4 := Lib.hid (K0_3.out.trans' hw)
        have Rp0_4 := Lib.hid (row_ext Rp0_3.out hw)
        have Rp1_4 := Lib.hid (row_ext Rp1_3.out hw)
        have Ox0_4 := Lib.hid ho
        clear hw ho hf
        clear c90 c91 c92 c93 c94 c95 c96 c100 c101 c102
        obtain ⟨c110, c111, c112, c113, c114, c115, c116⟩ := row7_facts Rp0_4.out
        obtain ⟨c120, c121, c122, -, -, -⟩ := row3_facts Rp1_4.out
        have hA := (Ext.rfl' w3).alloc' (.cells #[.int .i64 M0.deg, .int .i64 M0.sts, .int .i64 M0.msgs, .slice x0a3 M0.start.length x0c3, .slice x0a4 M0.send.length x0c4, .slice x0a5 M0.cls.length x0c5, .slice x0a6 M0.out.length x0c6] 31)
        have K0_5 := Lib.hid (K0_4.out.trans' hA)
        have Rp0_5 := Lib.hid (row_ext Rp0_4.out hA)
        have Rp1_5 := Lib.hid (row_ext Rp1_4.out hA)
        have Ox0_5 := Lib.hid (Ox0_4.out.ext hA)
        have Rx0_5 := Lib.hid (row7_made w3 (.int .i64 M0.deg) (.int .i64 M0.sts) (.int .i64 M0.msgs) (.slice x0a3 M0.start.length x0c3) (.slice x0a4 M0.send.length x0c4) (.slice x0a5 M0.cls.length x0c5) (.slice x0a6 M0.out.length x0c6) 31)
        clear hA
        clear c110 c111 c112 c113 c114 c115 c116 c120 c121 c122
        obtain ⟨c130, c131, c132, c133, c134, c135, c136⟩ := row7_facts Rp0_5.out
        obtain ⟨c140, c141, c142, -, -, -⟩ := row3_facts Rp1_5.out
        go_wp2_with fail
        (with_reducible refine (toNetwork_own (HN1.out.ext K0_5.out) hs1.out).mono ?_)
        rintro e w4 ⟨xx1, bx1, rfl, hw, ho, hf⟩
        have Z4 := Lib.hid (show w3.heap.size + 1 ≤ w4.heap.size from by have := hw.size; simpa using this)
        have LOx1 := Lib.hid (show ∀ b ∈ bx1, w3.heap.size + 1 ≤ b from fun b hb => by have := hf.2 b hb; simpa using this)
        have HIx1 := Lib.hid (show ∀ b ∈ bx1, b < w4.heap.size from ho.lt)
        have NDx1 : Hid bx1.Nodup := hf.1
        obtain ⟨x1a0, x1c0, x1a1, x1c1, x1a2, x1c2, rfl⟩ := ho.agg
        have K0_6 := Lib.hid (K0_5.out.trans' hw)
        have Rp0_6 := Lib.hid (row_ext Rp0_5.out hw)
        have Rp1_6 := Lib.hid (row_ext Rp1_5.out hw)
        have Rx0_6 := Lib.hid (row_ext Rx0_5.out hw)
        have Ox0_6 := Lib.hid (Ox0_5.out.ext hw)
        have Ox1_6 := Lib.hid ho
        clear hw ho hf
        clear c130 c131 c132 c133 c134 c135 c136 c140 c141 c142
        obtain ⟨c150, c151, c152, c153, c154, c155, c156⟩ := row7_facts Rp0_6.out
        obtain ⟨c160, c161, c162, -, -, -⟩ := row3_facts Rp1_6.out
        have hA := (Ext.rfl' w4).alloc' (.cells #[.slice x1a0 N1.ends.length x1c0, .slice x1a1 N1.ids.length x1c1, .slice x1a2 N1.inputs.length x1c2] 43)
        have K0_7 := Lib.hid (K0_6.out.trans' hA)
        have Rp0_7 := Lib.hid (row_ext Rp0_6.out hA)
        have Rp1_7 := Lib.hid (row_ext Rp1_6.out hA)
        have Rx0_7 := Lib.hid (row_ext Rx0_6.out hA)
        have Ox0_7 := Lib.hid (Ox0_6.out.ext hA)
        have Ox1_7 := Lib.hid (Ox1_6.out.ext hA)
        have Rx1_7 := Lib.hid (row3_made w4 (.slice x1a0 N1.ends.length x1c0) (.slice x1a1 N1.ids.length x1c1) (.slice x1a2 N1.inputs.length x1c2) 43)
        clear hA
        clear c150 c151 c152 c153 c154 c155 c156 c160 c161 c162
        obtain ⟨c170, c171, c172, c173, c174, c175, c176⟩ := row7_facts Rp0_7.out
        obtain ⟨c180, c181, c182, -, -, -⟩ := row3_facts Rp1_7.out
        clear c170 c171 c172 c173 c174 c175 c176 c180 c181 c182
        obtain ⟨c190, c191, c192, c193, c194, c195, c196⟩ := row7_facts Rx0_7.out
        obtain ⟨c200, c201, c202, -, -, -⟩ := row3_facts Rx1_7.out
        go_wp2_with fail
        (with_reducible refine (implPeriodOf_any n2 Ox0_7.out.read Ox1_7.out.read).mono ?_)
        rintro e w5 ⟨rfl, hw⟩
        have Z5 := Lib.hid (show w4.heap.size + 1 ≤ w5.heap.size from by have := hw.size; simpa using this)
        have K0_8 := Lib.hid (K0_7.out.trans' hw)
        have Rp0_8 := Lib.hid (row_ext Rp0_7.out hw)
        have Rp1_8 := Lib.hid (row_ext Rp1_7.out hw)
        have Rx0_8 := Lib.hid (row_ext Rx0_7.out hw)
        have Rx1_8 := Lib.hid (row_ext Rx1_7.out hw)
        have Ox0_8 := Lib.hid (Ox0_7.out.ext hw)
        have Ox1_8 := Lib.hid (Ox1_7.out.ext hw)
        clear hw
        clear c190 c191 c192 c193 c194 c195 c196 c200 c201 c202
        obtain ⟨c210, c211, c212, c213, c214, c215, c216⟩ := row7_facts Rp0_8.out
        obtain ⟨c220, c221, c222, c223, c224, c225, c226⟩ := row7_facts Rx0_8.out
        go_wp2_with fail
        have Hd := Lib.hid (Ext.rfl' w5).drew'
        go_region_held3 (fun w' => w'.cell? ⟨w.heap.size, 0, none⟩ = some (.int .i64 M0.deg) ∧ w'.cell? ⟨w.heap.size, 1, none⟩ = some (.int .i64 M0.sts) ∧ w'.cell? ⟨w.heap.size, 2, none⟩ = some (.int .i64 M0.msgs) ∧ w'.cell? ⟨w.heap.size, 3, none⟩ = some (.slice v0a3 M0.start.length v0c3) ∧ w'.cell? ⟨w.heap.size, 4, none⟩ = some (.slice v0a4 M0.send.length v0c4) ∧ w'.cell? ⟨w.heap.size, 5, none⟩ = some (.slice v0a5 M0.cls.length v0c5) ∧ w'.cell? ⟨w.heap.size, 6, none⟩ = some (.slice v0a6 M0.out.length v0c6) ∧ w'.cell? ⟨w3.heap.size, 0, none⟩ = some (.int .i64 M0.deg) ∧ w'.cell? ⟨w3.heap.size, 1, none⟩ = some (.int .i64 M0.sts) ∧ w'.cell? ⟨w3.heap.size, 2, none⟩ = some (.int .i64 M0.msgs) ∧ w'.cell? ⟨w3.heap.size, 3, none⟩ = some (.slice x0a3 M0.start.length x0c3) ∧ w'.cell? ⟨w3.heap.size, 4, none⟩ = some (.slice x0a4 M0.send.length x0c4) ∧ w'.cell? ⟨w3.heap.size, 5, none⟩ = some (.slice x0a5 M0.cls.length x0c5) ∧ w'.cell? ⟨w3.heap.size, 6, none⟩ = some (.slice x0a6 M0.out.length x0c6) ∧ Hid (Ext w5 w')) (first | exact ⟨c210, c211, c212, c213, c214, c215, c216, c220, c221, c222, c223, c224, c225, c226, Hd⟩ | exact ⟨hx.cell' (Hd.out.cell' c210), hx.cell' (Hd.out.cell' c211), hx.cell' (Hd.out.cell' c212), hx.cell' (Hd.out.cell' c213), hx.cell' (Hd.out.cell' c214), hx.cell' (Hd.out.cell' c215), hx.cell' (Hd.out.cell' c216), hx.cell' (Hd.out.cell' c220), hx.cell' (Hd.out.cell' c221), hx.cell' (Hd.out.cell' c222), hx.cell' (Hd.out.cell' c223), hx.cell' (Hd.out.cell' c224), hx.cell' (Hd.out.cell' c225), hx.cell' (Hd.out.cell' c226), Hd.out.trans' hx⟩ | exact ⟨hy.cell' (hx.cell' (Hd.out.cell' c210)), hy.cell' (hx.cell' (Hd.out.cell' c211)), hy.cell' (hx.cell' (Hd.out.cell' c212)), hy.cell' (hx.cell' (Hd.out.cell' c213)), hy.cell' (hx.cell' (Hd.out.cell' c214)), hy.cell' (hx.cell' (Hd.out.cell' c215)), hy.cell' (hx.cell' (Hd.out.cell' c216)), hy.cell' (hx.cell' (Hd.out.cell' c220)), hy.cell' (hx.cell' (Hd.out.cell' c221)), hy.cell' (hx.cell' (Hd.out.cell' c222)), hy.cell' (hx.cell' (Hd.out.cell' c223)), hy.cell' (hx.cell' (Hd.out.cell' c224)), hy.cell' (hx.cell' (Hd.out.cell' c225)), hy.cell' (hx.cell' (Hd.out.cell' c226)), (Hd.out.trans' hx).trans' hy⟩)
          (first | (go_at_call 21; (with_reducible refine (toMachine_own (HN0.out.ext (K0_8.out.trans' Hd.out)) hs0.out).mono ?_); rintro e wa0 ⟨z, bz, rfl, hx, hoz, hfz⟩; have OZ := Lib.hid hoz.read; have HXZ := Lib.hid hx; clear hoz hfz) | (go_at_call 23; (with_reducible refine (eqMachine_same (Ox0_8.out.read.ext (Hd.out.trans' HXZ.out)) OZ.out).mono ?_); rintro e wb0 ⟨rfl, hy⟩))
        rename_i hh
        have HY := hh.2.2.2.2.2.2.2.2.2.2.2.2.2.2
        clear hh hx hy HXZ OZ
        clear c210 c211 c212 c213 c214 c215 c216 c220 c221 c222 c223 c224 c225 c226
        clear Hd
        have Z6 := Lib.hid (show w5.heap.size ≤ wb0.heap.size from by have := HY.out.size; simpa using this)
        have K0_9 := Lib.hid (K0_8.out.trans' HY.out)
        have Rp0_9 := Lib.hid (row_ext Rp0_8.out HY.out)
        have Rp1_9 := Lib.hid (row_ext Rp1_8.out HY.out)
        have Rx0_9 := Lib.hid (row_ext Rx0_8.out HY.out)
        have Rx1_9 := Lib.hid (row_ext Rx1_8.out HY.out)
        have Ox0_9 := Lib.hid (Ox0_8.out.ext HY.out)
        have Ox1_9 := Lib.hid (Ox1_8.out.ext HY.out)
        clear HY
        obtain ⟨c230, c231, c232, -, -, -⟩ := row3_facts Rp1_9.out
        obtain ⟨c240, c241, c242, -, -, -⟩ := row3_facts Rx1_9.out
        go_wp2_with fail
        have Hd := Lib.hid (Ext.rfl' wb0).drew'
        go_region_held3 (fun w' => w'.cell? ⟨(w.heap.size + 1), 0, none⟩ = some v10 ∧ w'.cell? ⟨(w.heap.size + 1), 1, none⟩ = some v11 ∧ w'.cell? ⟨(w.heap.size + 1), 2, none⟩ = some v12 ∧ w'.cell? ⟨w4.heap.size, 0, none⟩ = some (.slice x1a0 N1.ends.length x1c0) ∧ w'.cell? ⟨w4.heap.size, 1, none⟩ = some (.slice x1a1 N1.ids.length x1c1) ∧ w'.cell? ⟨w4.heap.size, 2, none⟩ = some (.slice x1a2 N1.inputs.length x1c2) ∧ Hid (Ext wb0 w')) (first | exact ⟨c230, c231, c232, c240, c241, c242, Hd⟩ | exact ⟨hx.cell' (Hd.out.cell' c230), hx.cell' (Hd.out.cell' c231), hx.cell' (Hd.out.cell' c232), hx.cell' (Hd.out.cell' c240), hx.cell' (Hd.out.cell' c241), hx.cell' (Hd.out.cell' c242), Hd.out.trans' hx⟩ | exact ⟨hy.cell' (hx.cell' (Hd.out.cell' c230)), hy.cell' (hx.cell' (Hd.out.cell' c231)), hy.cell' (hx.cell' (Hd.out.cell' c232)), hy.cell' (hx.cell' (Hd.out.cell' c240)), hy.cell' (hx.cell' (Hd.out.cell' c241)), hy.cell' (hx.cell' (Hd.out.cell' c242)), (Hd.out.trans' hx).trans' hy⟩)
          (first | (go_at_call 26; (with_reducible refine (toNetwork_own (HN1.out.ext (K0_9.out.trans' Hd.out)) hs1.out).mono ?_); rintro e wa1 ⟨z, bz, rfl, hx, hoz, hfz⟩; have OZ := Lib.hid hoz.read; have HXZ := Lib.hid hx; clear hoz hfz) | (go_at_call 28; (with_reducible refine (eqNetwork_same (Ox1_9.out.read.ext (Hd.out.trans' HXZ.out)) OZ.out).mono ?_); rintro e wb1 ⟨rfl, hy⟩))
        rename_i hh
        have HY := hh.2.2.2.2.2.2
        clear hh hx hy HXZ OZ
        clear c230 c231 c232 c240 c241 c242
        clear Hd
        have Z7 := Lib.hid (show wb0.heap.size ≤ wb1.heap.size from by have := HY.out.size; simpa using this)
        have K0_10 := Lib.hid (K0_9.out.trans' HY.out)
        have Rp0_10 := Lib.hid (row_ext Rp0_9.out HY.out)
        have Rp1_10 := Lib.hid (row_ext Rp1_9.out HY.out)
        have Rx0_10 := Lib.hid (row_ext Rx0_9.out HY.out)
        have Rx1_10 := Lib.hid (row_ext Rx1_9.out HY.out)
        have Ox0_10 := Lib.hid (Ox0_9.out.ext HY.out)
        have Ox1_10 := Lib.hid (Ox1_9.out.ext HY.out)
        clear HY
        go_wp2
        go_ret
        exact ⟨rfl, K0_10.out⟩
end Go.Proofs.Ytdcgpodjoalokaa
