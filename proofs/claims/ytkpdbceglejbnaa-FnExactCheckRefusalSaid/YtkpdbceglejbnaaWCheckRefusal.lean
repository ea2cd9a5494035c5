/- The walk of FnExactCheckRefusal: whatever the arguments, the law answers true and changes nothing that was there. No condition but that the answer is short. -/
import Derived.Test.YtkpdbceglejbnaaTkz
import Derived.Test.YtkpdbceglejbnaaMk
import Derived.Test.YtkpdbceglejbnaaKc
namespace Go.Proofs.Ytkpdbceglejbnaa
open Go.RowKit

set_option maxHeartbeats 6400000 in
set_option maxRecDepth 100000 in
theorem walk_CheckRefusal {w : World} {v0 : Value} {N0 : Net} {v1 : Value} {M1 : Rfs} (h0 : NetAt w v0 N0) (h1 : RfAt w v1 M1) :
    Calls Try.prog 10 #[v0, v1] w fun e w' => e = .returned (.bool true) ∧ Ext w w' := by
  have HN0 := Lib.hid h0
  obtain ⟨v00, v01, v02, rfl, hE, hI, hP⟩ := h0
  clear hE hI hP
  have HN1 := Lib.hid h1
  obtain ⟨v1a1, v1c1, rfl, -⟩ := h1
  have K0 := Lib.hid ((boxed_ext w v00 v01 v02 28).trans' (boxed4_ext (boxed w v00 v01 v02 28) (.int .i64 M1.t) (.slice v1a1 M1.c.length v1c1) (.int .i64 M1.u) (.int .i64 M1.x) 57))
  have Rp0_0 := Lib.hid (show World.rowIs (boxed4 (boxed w v00 v01 v02 28) (.int .i64 M1.t) (.slice v1a1 M1.c.length v1c1) (.int .i64 M1.u) (.int .i64 M1.x) 57) w.heap.size 28 3 (tri v00 v01 v02) from (boxed_row w v00 v01 v02 28).alloc _)
  have Rp1_0 := Lib.hid (show World.rowIs (boxed4 (boxed w v00 v01 v02 28) (.int .i64 M1.t) (.slice v1a1 M1.c.length v1c1) (.int .i64 M1.u) (.int .i64 M1.x) 57) (w.heap.size + 1) 57 4 (quad (.int .i64 M1.t) (.slice v1a1 M1.c.length v1c1) (.int .i64 M1.u) (.int .i64 M1.x)) from by simpa using boxed4_row (boxed w v00 v01 v02 28) (.int .i64 M1.t) (.slice v1a1 M1.c.length v1c1) (.int .i64 M1.u) (.int .i64 M1.x) 57)
  have hmm : (dec (CrA N0 M1) != dec (CrA N0 M1)) = false := by simp
  have hbb : (dec (Good N0) != dec (Good N0)) = false := by simp
  go_enter Try.func10, Try.ntmps10
  go_wp2_with fail
  (with_reducible refine (szNetwork_any _ (HN0.out.ext K0.out) (by omega) (by omega)).mono ?_)
  rintro e w1 ⟨r0, rfl, hw, hr00, hr10, hr2⟩
  have Z0 := Lib.hid (show w.heap.size + 2 ≤ w1.heap.size from by have := hw.size; simpa using this)
  have K0_1 := Lib.hid (K0.out.trans' hw)
  have Rp0_1 := Lib.hid (row_ext Rp0_0.out hw)
  have Rp1_1 := Lib.hid (row_ext Rp1_0.out hw)
  have S0 := Lib.hid hr2
  clear hw hr2
  obtain ⟨c10, c11, c12, -, -, -⟩ := row3_facts Rp0_1.out
  obtain ⟨c20, c21, c22, c23⟩ := row4_cells Rp1_1.out
  by_cases hneg0 : r0 < 0
  case pos =>
    go_wp2
    go_ret
    exact ⟨rfl, K0_1.out⟩
  case neg =>
    have hs0 := Lib.hid (S0.out (by omega))
    go_wp2_with fail
    (with_reducible refine (szRefusal_any _ (HN1.out.ext K0_1.out) (by omega) (by omega)).mono ?_)
    rintro e w2 ⟨r1, rfl, hw, hr01, hr11, hr2⟩
    have Z1 := Lib.hid (show w1.heap.size ≤ w2.heap.size from by have := hw.size; simpa using this)
    have K0_2 := Lib.hid (K0_1.out.trans' hw)
    have Rp0_2 := Lib.hid (row_ext Rp0_1.out hw)
    have Rp1_2 := Lib.hid (row_ext Rp1_1.out hw)
    have S1 := Lib.hid hr2
    clear hw hr2
    clear c10 c11 c12 c20 c21 c22 c23
    obtain ⟨c30, c31, c32, -, -, -⟩ := row3_facts Rp0_2.out
    obtain ⟨c40, c41, c42, c43⟩ := row4_cells Rp1_2.out
    by_cases hneg1 : r1 < 0
    case pos =>
      go_wp2
      go_ret
      exact ⟨rfl, K0_2.out⟩
    case neg =>
      have hs1 := Lib.hid (S1.out (by omega))
      clear c30 c31 c32 c40 c41 c42 c43
      obtain ⟨c50, c51, c52, -, -, -⟩ := row3_facts Rp0_2.out
      obtain ⟨c60, c61, c62, c63⟩ := row4_cells Rp1_2.out
      clear c50 c51 c52 c60 c61 c62 c63
      obtain ⟨c70, c71, c72, -, -, -⟩ := row3_facts Rp0_2.out
      obtain ⟨c80, c81, c82, c83⟩ := row4_cells Rp1_2.out
      have mkS : ∀ w' : World, Ext w2 w' → w'.cell? ⟨w.heap.size, 0, none⟩ = some v00 ∧ w'.cell? ⟨w.heap.size, 1, none⟩ = some v01 ∧ w'.cell? ⟨w.heap.size, 2, none⟩ = some v02 ∧ w'.cell? ⟨(w.heap.size + 1), 0, none⟩ = some (.int .i64 M1.t) ∧ w'.cell? ⟨(w.heap.size + 1), 1, none⟩ = some (.slice v1a1 M1.c.length v1c1) ∧ w'.cell? ⟨(w.heap.size + 1), 2, none⟩ = some (.int .i64 M1.u) ∧ w'.cell? ⟨(w.heap.size + 1), 3, none⟩ = some (.int .i64 M1.x) ∧ Hid (Ext w2 w') := fun w' h => ⟨h.cell' c70, h.cell' c71, h.cell' c72, h.cell' c80, h.cell' c81, h.cell' c82, h.cell' c83, h⟩
      go_wp2_with fail
      go_cut [6, 7] from 22 to 30 (fun t6 t7 wx => t6 = .bool (dec (CrA N0 M1)) ∧ t7 = .bool (dec (Good N0)) ∧ Hid (Ext w2 wx))
      case first =>
        go_region_held3 (fun w' => w'.cell? ⟨w.heap.size, 0, none⟩ = some v00 ∧ w'.cell? ⟨w.heap.size, 1, none⟩ = some v01 ∧ w'.cell? ⟨w.heap.size, 2, none⟩ = some v02 ∧ w'.cell? ⟨(w.heap.size + 1), 0, none⟩ = some (.int .i64 M1.t) ∧ w'.cell? ⟨(w.heap.size + 1), 1, none⟩ = some (.slice v1a1 M1.c.length v1c1) ∧ w'.cell? ⟨(w.heap.size + 1), 2, none⟩ = some (.int .i64 M1.u) ∧ w'.cell? ⟨(w.heap.size + 1), 3, none⟩ = some (.int .i64 M1.x) ∧ Hid (Ext w2 w')) (first | exact mkS _ (Ext.rfl' w2).drew' | exact mkS _ XA.out | exact mkS _ XB.out | exact mkS _ XZ.out | fail)
          (first | (go_at_call_of 19 (Value.agg #[v00, v01, v02]); (with_reducible refine (toNetwork_own (HN0.out.ext (K0_2.out.trans' ((‹_ ∧ _ ∧ _ ∧ _ ∧ _ ∧ _ ∧ _ ∧ Hid (Ext w2 _)›).2.2.2.2.2.2.2.out))) hs0.out).mono ?_); rintro e wqA ⟨yA, bA, rfl, hx, ho, hf⟩; have XA := Lib.hid (Ext.trans' ((‹_ ∧ _ ∧ _ ∧ _ ∧ _ ∧ _ ∧ _ ∧ Hid (Ext w2 _)›).2.2.2.2.2.2.2.out) hx); have OA0 := Lib.hid ho.read; clear ho hf) | (go_at_call_of 42 (Value.agg #[.int .i64 M1.t, .slice v1a1 M1.c.length v1c1, .int .i64 M1.u, .int .i64 M1.x]); (with_reducible refine (toRefusal_own (HN1.out.ext (K0_2.out.trans' ((‹_ ∧ _ ∧ _ ∧ _ ∧ _ ∧ _ ∧ _ ∧ Hid (Ext w2 _)›).2.2.2.2.2.2.2.out))) hs1.out).mono ?_); rintro e wqB ⟨yB, bB, rfl, hx, ho, hf⟩; have XB := Lib.hid (Ext.trans' ((‹_ ∧ _ ∧ _ ∧ _ ∧ _ ∧ _ ∧ _ ∧ Hid (Ext w2 _)›).2.2.2.2.2.2.2.out) hx); have OA1 := Lib.hid (OA0.out.ext hx); have OB1 := Lib.hid ho.read; clear ho hf) | (go_at_call 41; (with_reducible refine (specCheckRefusal_any OA1.out OB1.out hs1.out).mono ?_); rintro e wz ⟨rfl, hx⟩; have XZ := Lib.hid (Ext.trans' ((‹_ ∧ _ ∧ _ ∧ _ ∧ _ ∧ _ ∧ _ ∧ Hid (Ext w2 _)›).2.2.2.2.2.2.2.out) hx)))
        all_goals go_wp2_with fail
        all_goals go_meet
        all_goals exact ⟨rfl, rfl, XZ.out⟩
      case rest =>
        obtain ⟨rfl, rfl, XC⟩ := hcut
        clear mkS
        obtain ⟨w9, h9⟩ : ∃ w9 : World, w9 = wc := ⟨_, rfl⟩
        subst h9
        clear c70 c71 c72 c80 c81 c82 c83
        have Z2 := Lib.hid (show w2.heap.size ≤ w9.heap.size from by have := XC.out.size; simpa using this)
        have K0_3 := Lib.hid (K0_2.out.trans' XC.out)
        have Rp0_3 := Lib.hid (row_ext Rp0_2.out XC.out)
        have Rp1_3 := Lib.hid (row_ext Rp1_2.out XC.out)
        obtain ⟨c90, c91, c92, -, -, -⟩ := row3_facts Rp0_3.out
        obtain ⟨c100, c101, c102, c103⟩ := row4_cells Rp1_3.out
        go_wp2_with fail
        (with_reducible refine (toNetwork_own (HN0.out.ext K0_3.out) hs0.out).mono ?_)
        rintro e w3 ⟨xx0, bx0, rfl, hw, ho, hf⟩
        have Z3 := Lib.hid (show w9.heap.size ≤ w3.heap.size from by have := hw.size; simpa using this)
        have LOx0 := Lib.hid (show ∀ b ∈ bx0, w9.heap.size ≤ b from fun b hb => by have := hf.2 b hb; simpa using this)
        have HIx0 := Lib.hid (show ∀ b ∈ bx0, b < w3.heap.size from ho.lt)
        have NDx0 : Hid bx0.Nodup := hf.1
        obtain ⟨x0a0, x0c0, x0a1, x0c1, x0a2, x0c2, rfl⟩ := ho.agg
        have K0_4 := Lib.hid (K0_3.out.trans' hw)
        have Rp0_4 := Lib.hid (row_ext Rp0_3.out hw)
        have Rp1_4 := Lib.hid (row_ext Rp1_3.out hw)
        have Ox0_4 := Lib.hid ho
        clear hw ho hf
        clear c90 c91 c92 c100 c101 c102 c103
        obtain ⟨c110, c111, c112, -, -, -⟩ := row3_facts Rp0_4.out
        obtain ⟨c120, c121, c122, c123⟩ := row4_cells Rp1_4.out
        have hA := (Ext.rfl' w3).alloc' (.cells #[.slice x0a0 N0.ends.length x0c0, .slice x0a1 N0.ids.length x0c1, .slice x0a2 N0.inputs.length x0c2] 34)
        have K0_5 := Lib.hid (K0_4.out.trans' hA)
        have Rp0_5 := Lib.hid (row_ext Rp0_4.out hA)
        have Rp1_5 := Lib.hid (row_ext Rp1_4.out hA)
        have Ox0_5 := Lib.hid (Ox0_4.out.ext hA)
        have Rx0_5 := Lib.hid (row3_made w3 (.slice x0a0 N0.ends.length x0c0) (.slice x0a1 N0.ids.length x0c1) (.slice x0a2 N0.inputs.length x0c2) 34)
        clear hA
        clear c110 c111 c112 c120 c121 c122 c123
        obtain ⟨c130, c131, c132, -, -, -⟩ := row3_facts Rp0_5.out
        obtain ⟨c140, c141, c142, c143⟩ := row4_cells Rp1_5.out
        go_wp2_with fail
        (with_reducible refine (toRefusal_own (HN1.out.ext K0_5.out) hs1.out).mono ?_)
        rintro e w4 ⟨xx1, bx1, rfl, hw, ho, hf⟩
        have Z4 := Lib.hid (show w3.heap.size + 1 ≤ w4.heap.size from by have := hw.size; simpa using this)
        have LOx1 := Lib.hid (show ∀ b ∈ bx1, w3.heap.size + 1 ≤ b from fun b hb => by have := hf.2 b hb; simpa using this)
        have HIx1 := Lib.hid (show ∀ b ∈ bx1, b < w4.heap.size from ho.lt)
        have NDx1 : Hid bx1.Nodup := hf.1
        obtain ⟨x1a1, x1c1, rfl⟩ := ho.agg
        have K0_6 := Lib.hid (K0_5.out.trans' hw)
        have Rp0_6 := Lib.hid (row_ext Rp0_5.out hw)
        have Rp1_6 := Lib.hid (row_ext Rp1_5.out hw)
        have Rx0_6 := Lib.hid (row_ext Rx0_5.out hw)
        have Ox0_6 := Lib.hid (Ox0_5.out.ext hw)
        have Ox1_6 := Lib.hid ho
        clear hw ho hf
        clear c130 c131 c132 c140 c141 c142 c143
        obtain ⟨c150, c151, c152, -, -, -⟩ := row3_facts Rp0_6.out
        obtain ⟨c160, c161, c162, c163⟩ := row4_cells Rp1_6.out
        have hA := (Ext.rfl' w4).alloc' (.cells #[.int .i64 M1.t, .slice x1a1 M1.c.length x1c1, .int .i64 M1.u, .int .i64 M1.x] 52)
        have K0_7 := Lib.hid (K0_6.out.trans' hA)
        have Rp0_7 := Lib.hid (row_ext Rp0_6.out hA)
        have Rp1_7 := Lib.hid (row_ext Rp1_6.out hA)
        have Rx0_7 := Lib.hid (row_ext Rx0_6.out hA)
        have Ox0_7 := Lib.hid (Ox0_6.out.ext hA)
        have Ox1_7 := Lib.hid (Ox1_6.out.ext hA)
        have Rx1_7 := Lib.hid (row4_made w4 (.int .i64 M1.t) (.slice x1a1 M1.c.length x1c1) (.int .i64 M1.u) (.int .i64 M1.x) 52)
        clear hA
        clear c150 c151 c152 c160 c161 c162 c163
        obtain ⟨c170, c171, c172, -, -, -⟩ := row3_facts Rp0_7.out
        obtain ⟨c180, c181, c182, c183⟩ := row4_cells Rp1_7.out
        clear c170 c171 c172 c180 c181 c182 c183
        obtain ⟨c190, c191, c192, -, -, -⟩ := row3_facts Rx0_7.out
        obtain ⟨c200, c201, c202, c203⟩ := row4_cells Rx1_7.out
        go_wp2_with fail
        (with_reducible refine (checkRefusal_any Ox0_7.out.read Ox1_7.out.read hs1.out).mono ?_)
        rintro e w5 ⟨rfl, hw⟩
        have Z5 := Lib.hid (show w4.heap.size + 1 ≤ w5.heap.size from by have := hw.size; simpa using this)
        have K0_8 := Lib.hid (K0_7.out.trans' hw)
        have Rp0_8 := Lib.hid (row_ext Rp0_7.out hw)
        have Rp1_8 := Lib.hid (row_ext Rp1_7.out hw)
        have Rx0_8 := Lib.hid (row_ext Rx0_7.out hw)
        have Rx1_8 := Lib.hid (row_ext Rx1_7.out hw)
        have Ox0_8 := Lib.hid (Ox0_7.out.ext hw)
        have Ox1_8 := Lib.hid (Ox1_7.out.ext hw)
        clear hw
        clear c190 c191 c192 c200 c201 c202 c203
        obtain ⟨c210, c211, c212, -, -, -⟩ := row3_facts Rp0_8.out
        obtain ⟨c220, c221, c222, -, -, -⟩ := row3_facts Rx0_8.out
        go_wp2_with fail
        have Hd := Lib.hid (Ext.rfl' w5).drew'
        go_region_held3 (fun w' => w'.cell? ⟨w.heap.size, 0, none⟩ = some v00 ∧ w'.cell? ⟨w.heap.size, 1, none⟩ = some v01 ∧ w'.cell? ⟨w.heap.size, 2, none⟩ = some v02 ∧ w'.cell? ⟨w3.heap.size, 0, none⟩ = some (.slice x0a0 N0.ends.length x0c0) ∧ w'.cell? ⟨w3.heap.size, 1, none⟩ = some (.slice x0a1 N0.ids.length x0c1) ∧ w'.cell? ⟨w3.heap.size, 2, none⟩ = some (.slice x0a2 N0.inputs.length x0c2) ∧ Hid (Ext w5 w')) (first | exact ⟨c210, c211, c212, c220, c221, c222, Hd⟩ | exact ⟨hx.cell' (Hd.out.cell' c210), hx.cell' (Hd.out.cell' c211), hx.cell' (Hd.out.cell' c212), hx.cell' (Hd.out.cell' c220), hx.cell' (Hd.out.cell' c221), hx.cell' (Hd.out.cell' c222), Hd.out.trans' hx⟩ | exact ⟨hy.cell' (hx.cell' (Hd.out.cell' c210)), hy.cell' (hx.cell' (Hd.out.cell' c211)), hy.cell' (hx.cell' (Hd.out.cell' c212)), hy.cell' (hx.cell' (Hd.out.cell' c220)), hy.cell' (hx.cell' (Hd.out.cell' c221)), hy.cell' (hx.cell' (Hd.out.cell' c222)), (Hd.out.trans' hx).trans' hy⟩)
          (first | (go_at_call 19; (with_reducible refine (toNetwork_own (HN0.out.ext (K0_8.out.trans' Hd.out)) hs0.out).mono ?_); rintro e wa0 ⟨z, bz, rfl, hx, hoz, hfz⟩; have OZ := Lib.hid hoz.read; have HXZ := Lib.hid hx; clear hoz hfz) | (go_at_call 22; (with_reducible refine (eqNetwork_same (Ox0_8.out.read.ext (Hd.out.trans' HXZ.out)) OZ.out).mono ?_); rintro e wb0 ⟨rfl, hy⟩))
        rename_i hh
        have HY := hh.2.2.2.2.2.2
        clear hh hx hy HXZ OZ
        clear c210 c211 c212 c220 c221 c222
        clear Hd
        have Z6 := Lib.hid (show w5.heap.size ≤ wb0.heap.size from by have := HY.out.size; simpa using this)
        have K0_9 := Lib.hid (K0_8.out.trans' HY.out)
        have Rp0_9 := Lib.hid (row_ext Rp0_8.out HY.out)
        have Rp1_9 := Lib.hid (row_ext Rp1_8.out HY.out)
        have Rx0_9 := Lib.hid (row_ext Rx0_8.out HY.out)
        have Rx1_9 := Lib.hid (row_ext Rx1_8.out HY.out)
        have Ox0_9 := Lib.hid (Ox0_8.out.ext HY.out)
        have Ox1_9 := Lib.hid (Ox1_8.out.ext HY.out)
        clear HY
        obtain ⟨c230, c231, c232, c233⟩ := row4_cells Rp1_9.out
        obtain ⟨c240, c241, c242, c243⟩ := row4_cells Rx1_9.out
        go_wp2_with fail
        have Hd := Lib.hid (Ext.rfl' wb0).drew'
        go_region_held3 (fun w' => w'.cell? ⟨(w.heap.size + 1), 0, none⟩ = some (.int .i64 M1.t) ∧ w'.cell? ⟨(w.heap.size + 1), 1, none⟩ = some (.slice v1a1 M1.c.length v1c1) ∧ w'.cell? ⟨(w.heap.size + 1), 2, none⟩ = some (.int .i64 M1.u) ∧ w'.cell? ⟨(w.heap.size + 1), 3, none⟩ = some (.int .i64 M1.x) ∧ w'.cell? ⟨w4.heap.size, 0, none⟩ = some (.int .i64 M1.t) ∧ w'.cell? ⟨w4.heap.size, 1, none⟩ = some (.slice x1a1 M1.c.length x1c1) ∧ w'.cell? ⟨w4.heap.size, 2, none⟩ = some (.int .i64 M1.u) ∧ w'.cell? ⟨w4.heap.size, 3, none⟩ = some (.int .i64 M1.x) ∧ Hid (Ext wb0 w')) (first | exact ⟨c230, c231, c232, c233, c240, c241, c242, c243, Hd⟩ | exact ⟨hx.cell' (Hd.out.cell' c230), hx.cell' (Hd.out.cell' c231), hx.cell' (Hd.out.cell' c232), hx.cell' (Hd.out.cell' c233), hx.cell' (Hd.out.cell' c240), hx.cell' (Hd.out.cell' c241), hx.cell' (Hd.out.cell' c242), hx.cell' (Hd.out.cell' c243), Hd.out.trans' hx⟩ | exact ⟨hy.cell' (hx.cell' (Hd.out.cell' c230)), hy.cell' (hx.cell' (Hd.out.cell' c231)), hy.cell' (hx.cell' (Hd.out.cell' c232)), hy.cell' (hx.cell' (Hd.out.cell' c233)), hy.cell' (hx.cell' (Hd.out.cell' c240)), hy.cell' (hx.cell' (Hd.out.cell' c241)), hy.cell' (hx.cell' (Hd.out.cell' c242)), hy.cell' (hx.cell' (Hd.out.cell' c243)), (Hd.out.trans' hx).trans' hy⟩)
          (first | (go_at_call 42; (with_reducible refine (toRefusal_own (HN1.out.ext (K0_9.out.trans' Hd.out)) hs1.out).mono ?_); rintro e wa1 ⟨z, bz, rfl, hx, hoz, hfz⟩; have OZ := Lib.hid hoz.read; have HXZ := Lib.hid hx; clear hoz hfz) | (go_at_call 37; (with_reducible refine (eqRefusalR_same (Ox1_9.out.read.ext (Hd.out.trans' HXZ.out)) OZ.out).mono ?_); rintro e wb1 ⟨rfl, hy⟩))
        rename_i hh
        have HY := hh.2.2.2.2.2.2.2.2
        clear hh hx hy HXZ OZ
        clear c230 c231 c232 c233 c240 c241 c242 c243
        clear Hd
        have Z7 := Lib.hid (show wb0.heap.size ≤ wb1.heap.size from by have := HY.out.size; simpa using this)
        have K0_10 := Lib.hid (K0_9.out.trans' HY.out)
        have Rp0_10 := Lib.hid (row_ext Rp0_9.out HY.out)
        have Rp1_10 := Lib.hid (row_ext Rp1_9.out HY.out)
        have Rx0_10 := Lib.hid (row_ext Rx0_9.out HY.out)
        have Rx1_10 := Lib.hid (row_ext Rx1_9.out HY.out)
        have Ox0_10 := Lib.hid (Ox0_9.out.ext HY.out)
        have Ox1_10 := Lib.hid (Ox1_9.out.ext HY.out)
        clear HY
        go_wp2
        go_ret
        exact ⟨rfl, K0_10.out⟩
end Go.Proofs.Ytkpdbceglejbnaa
