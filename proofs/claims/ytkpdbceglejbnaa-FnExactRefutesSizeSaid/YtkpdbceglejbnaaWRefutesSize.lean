/- The walk of FnExactRefutesSize: whatever the arguments, the law answers true and changes nothing that was there. No condition but that the answer is short. -/
import Derived.Test.YtkpdbceglejbnaaTsa
import Derived.Test.YtkpdbceglejbnaaMk
import Derived.Test.YtkpdbceglejbnaaKc
namespace Go.Proofs.Ytkpdbceglejbnaa
open Go.RowKit

set_option maxHeartbeats 6400000 in
set_option maxRecDepth 100000 in
theorem walk_RefutesSize {w : World} {v0 : Value} {N0 : Net} {v1 : Value} {N1 : Net} {v2 : Value} {l2 : List Int} (h0 : NetAt w v0 N0) (h1 : NetAt w v1 N1) (h2 : IntSl w v2 l2) :
    Calls Try.prog 12 #[v0, v1, v2] w fun e w' => e = .returned (.bool true) ∧ Ext w w' := by
  have HN0 := Lib.hid h0
  obtain ⟨v00, v01, v02, rfl, hE, hI, hP⟩ := h0
  clear hE hI hP
  have HN1 := Lib.hid h1
  obtain ⟨v10, v11, v12, rfl, hE, hI, hP⟩ := h1
  clear hE hI hP
  have HN2 := Lib.hid h2
  obtain ⟨la2, _, _, lc2, rfl, -, -, lm2, -⟩ := h2
  unfold maxLen at lm2
  have K0 := Lib.hid ((boxed_ext w v00 v01 v02 28).trans' (boxed_ext (boxed w v00 v01 v02 28) v10 v11 v12 28))
  have Rp0_0 := Lib.hid (show World.rowIs (boxed (boxed w v00 v01 v02 28) v10 v11 v12 28) w.heap.size 28 3 (tri v00 v01 v02) from (boxed_row w v00 v01 v02 28).alloc _)
  have Rp1_0 := Lib.hid (show World.rowIs (boxed (boxed w v00 v01 v02 28) v10 v11 v12 28) (w.heap.size + 1) 28 3 (tri v10 v11 v12) from by simpa using boxed_row (boxed w v00 v01 v02 28) v10 v11 v12 28)
  have hmm : (dec (RsA N0 N1 l2) != dec (RsA N0 N1 l2)) = false := by simp
  have hbb : (dec (RsB N0 N1) != dec (RsB N0 N1)) = false := by simp
  by_cases hg2 : l2.length ≤ 1048576
  case neg =>
    go_enter Try.func12, Try.ntmps12
    go_wp2
    go_ret
    exact ⟨rfl, K0.out⟩
  case pos =>
    go_enter Try.func12, Try.ntmps12
    go_wp2_with fail
    (with_reducible refine (szNetwork_any _ (HN0.out.ext K0.out) (by omega) (by omega)).mono ?_)
    rintro e w1 ⟨r0, rfl, hw, hr00, hr10, hr2⟩
    have Z0 := Lib.hid (show w.heap.size + 2 ≤ w1.heap.size from by have := hw.size; simpa using this)
    have K0_1 := Lib.hid (K0.out.trans' hw)
    have Rp0_1 := Lib.hid (row_ext Rp0_0.out hw)
    have Rp1_1 := Lib.hid (row_ext Rp1_0.out hw)
    have S0 := Lib.hid hr2
    clear hw hr2
    obtain ⟨c10, c11, c12, -, -, -⟩ := row3_facts Rp0_1.out
    obtain ⟨c20, c21, c22, -, -, -⟩ := row3_facts Rp1_1.out
    by_cases hneg0 : r0 < 0
    case pos =>
      go_wp2
      go_ret
      exact ⟨rfl, K0_1.out⟩
    case neg =>
      have hs0 := Lib.hid (S0.out (by omega))
      go_wp2_with fail
      (with_reducible refine (szNetwork_any _ (HN1.out.ext K0_1.out) (by omega) (by omega)).mono ?_)
      rintro e w2 ⟨r1, rfl, hw, hr01, hr11, hr2⟩
      have Z1 := Lib.hid (show w1.heap.size ≤ w2.heap.size from by have := hw.size; simpa using this)
      have K0_2 := Lib.hid (K0_1.out.trans' hw)
      have Rp0_2 := Lib.hid (row_ext Rp0_1.out hw)
      have Rp1_2 := Lib.hid (row_ext Rp1_1.out hw)
      have S1 := Lib.hid hr2
      clear hw hr2
      clear c10 c11 c12 c20 c21 c22
      obtain ⟨c30, c31, c32, -, -, -⟩ := row3_facts Rp0_2.out
      obtain ⟨c40, c41, c42, -, -, -⟩ := row3_facts Rp1_2.out
      by_cases hneg1 : r1 < 0
      case pos =>
        go_wp2
        go_ret
        exact ⟨rfl, K0_2.out⟩
      case neg =>
        have hs1 := Lib.hid (S1.out (by omega))
        clear c30 c31 c32 c40 c41 c42
        obtain ⟨c50, c51, c52, -, -, -⟩ := row3_facts Rp0_2.out
        obtain ⟨c60, c61, c62, -, -, -⟩ := row3_facts Rp1_2.out
        clear c50 c51 c52 c60 c61 c62
        obtain ⟨c70, c71, c72, -, -, -⟩ := row3_facts Rp0_2.out
        obtain ⟨c80, c81, c82, -, -, -⟩ := row3_facts Rp1_2.out
        have mkS : ∀ w' : World, Ext w2 w' → w'.cell? ⟨w.heap.size, 0, none⟩ = some v00 ∧ w'.cell? ⟨w.heap.size, 1, none⟩ = some v01 ∧ w'.cell? ⟨w.heap.size, 2, none⟩ = some v02 ∧ w'.cell? ⟨(w.heap.size + 1), 0, none⟩ = some v10 ∧ w'.cell? ⟨(w.heap.size + 1), 1, none⟩ = some v11 ∧ w'.cell? ⟨(w.heap.size + 1), 2, none⟩ = some v12 ∧ Hid (Ext w2 w') := fun w' h => ⟨h.cell' c70, h.cell' c71, h.cell' c72, h.cell' c80, h.cell' c81, h.cell' c82, h⟩
        go_wp2_with fail
        go_cut [8, 9] from 29 to 38 (fun t6 t7 wx => t6 = .bool (dec (RsA N0 N1 l2)) ∧ t7 = .bool (dec (RsB N0 N1)) ∧ Hid (Ext w2 wx))
        case first =>
          go_region_held3 (fun w' => w'.cell? ⟨w.heap.size, 0, none⟩ = some v00 ∧ w'.cell? ⟨w.heap.size, 1, none⟩ = some v01 ∧ w'.cell? ⟨w.heap.size, 2, none⟩ = some v02 ∧ w'.cell? ⟨(w.heap.size + 1), 0, none⟩ = some v10 ∧ w'.cell? ⟨(w.heap.size + 1), 1, none⟩ = some v11 ∧ w'.cell? ⟨(w.heap.size + 1), 2, none⟩ = some v12 ∧ Hid (Ext w2 w')) (first | exact mkS _ (Ext.rfl' w2).drew' | exact mkS _ XA.out | exact mkS _ XB.out | exact mkS _ XC.out | exact mkS _ XZ.out | fail)
            (first | (go_at_call_of 19 (Value.agg #[v00, v01, v02]); (with_reducible refine (toNetwork_own (HN0.out.ext (K0_2.out.trans' ((‹_ ∧ _ ∧ _ ∧ _ ∧ _ ∧ _ ∧ Hid (Ext w2 _)›).2.2.2.2.2.2.out))) hs0.out).mono ?_); rintro e wqA ⟨yA, bA, rfl, hx, ho, hf⟩; have XA := Lib.hid (Ext.trans' ((‹_ ∧ _ ∧ _ ∧ _ ∧ _ ∧ _ ∧ Hid (Ext w2 _)›).2.2.2.2.2.2.out) hx); have OA0 := Lib.hid ho.read; clear ho hf) | (go_at_call_of 19 (Value.agg #[v10, v11, v12]); (with_reducible refine (toNetwork_own (HN1.out.ext (K0_2.out.trans' ((‹_ ∧ _ ∧ _ ∧ _ ∧ _ ∧ _ ∧ Hid (Ext w2 _)›).2.2.2.2.2.2.out))) hs1.out).mono ?_); rintro e wqB ⟨yB, bB, rfl, hx, ho, hf⟩; have XB := Lib.hid (Ext.trans' ((‹_ ∧ _ ∧ _ ∧ _ ∧ _ ∧ _ ∧ Hid (Ext w2 _)›).2.2.2.2.2.2.out) hx); have OA1 := Lib.hid (OA0.out.ext hx); have OB1 := Lib.hid ho.read; clear ho hf) | (go_at_call 20; (with_reducible refine (toIntS_own (HN2.out.ext (K0_2.out.trans' ((‹_ ∧ _ ∧ _ ∧ _ ∧ _ ∧ _ ∧ Hid (Ext w2 _)›).2.2.2.2.2.2.out))) hg2).mono ?_); rintro e wqC ⟨yCa, yCc, bC, rfl, hx, ho, hf⟩; have XC := Lib.hid (Ext.trans' ((‹_ ∧ _ ∧ _ ∧ _ ∧ _ ∧ _ ∧ Hid (Ext w2 _)›).2.2.2.2.2.2.out) hx); have OA2 := Lib.hid (OA1.out.ext hx); have OB2 := Lib.hid (OB1.out.ext hx); have OC2 := Lib.hid ho.read; clear ho hf) | (go_at_call 47; (with_reducible refine (specRefutesSize_any OA2.out OB2.out OC2.out hg2).mono ?_); rintro e wz ⟨rfl, hx⟩; have XZ := Lib.hid (Ext.trans' ((‹_ ∧ _ ∧ _ ∧ _ ∧ _ ∧ _ ∧ Hid (Ext w2 _)›).2.2.2.2.2.2.out) hx)))
          all_goals go_wp2_with fail
          all_goals go_meet
          all_goals exact ⟨rfl, rfl, XZ.out⟩
        case rest =>
          obtain ⟨rfl, rfl, XC⟩ := hcut
          clear mkS
          obtain ⟨w9, h9⟩ : ∃ w9 : World, w9 = wc := ⟨_, rfl⟩
          subst h9
          clear c70 c71 c72 c80 c81 c82
          have Z2 := Lib.hid (show w2.heap.size ≤ w9.heap.size from by have := XC.out.size; simpa using this)
          have K0_3 := Lib.hid (K0_2.out.trans' XC.out)
          have Rp0_3 := Lib.hid (row_ext Rp0_2.out XC.out)
          have Rp1_3 := Lib.hid (row_ext Rp1_2.out XC.out)
          obtain ⟨c90, c91, c92, -, -, -⟩ := row3_facts Rp0_3.out
          obtain ⟨c100, c101, c102, -, -, -⟩ := row3_facts Rp1_3.out
          go_wp2_with fail
          (with_reducible refine (toNetwork_own (HN0.out.ext K0_3.out) hs0.out).mono ?_)
          rintro e w3 ⟨xx0, bx0, rfl, hw, ho, hf⟩
          have Z3 := Lib.hid (show w9.heap.size ≤ w3.heap.size from by have := hw.size; simpa using this)
          have LOx0 := Lib.hid (show ∀ b ∈ bx0, w9.heap.size ≤ b from fun b hb => by have := hf.2 b hb; simpa using this)
          have HIx0 := Lib.hid (show ∀ b ∈ bx0, b < w3.heap.size from ho.lt)
          have NDx0 : Hid bx0.Nodup := hf.1
          obtain ⟨x0a0, x0c0, x0a1, x0c1, x0a2, x0c2, rfl⟩ := ho.agg
          have K0_4 := Lib.hid (K0_3.out.trans' hw)
          have Rp0_4 := Lib.hid (row_ext Rp0_3.out hw)
          have Rp1_4 := Lib.hid (row_ext Rp1_3.out hw)
          have Ox0_4 := Lib.hid ho
          clear hw ho hf
          clear c90 c91 c92 c100 c101 c102
          obtain ⟨c110, c111, c112, -, -, -⟩ := row3_facts Rp0_4.out
          obtain ⟨c120, c121, c122, -, -, -⟩ := row3_facts Rp1_4.out
          have hA := (Ext.rfl' w3).alloc' (.cells #[.slice x0a0 N0.ends.length x0c0, .slice x0a1 N0.ids.length x0c1, .slice x0a2 N0.inputs.length x0c2] 34)
          have K0_5 := Lib.hid (K0_4.out.trans' hA)
          have Rp0_5 := Lib.hid (row_ext Rp0_4.out hA)
          have Rp1_5 := Lib.hid (row_ext Rp1_4.out hA)
          have Ox0_5 := Lib.hid (Ox0_4.out.ext hA)
          have Rx0_5 := Lib.hid (row3_made w3 (.slice x0a0 N0.ends.length x0c0) (.slice x0a1 N0.ids.length x0c1) (.slice x0a2 N0.inputs.length x0c2) 34)
          clear hA
          clear c110 c111 c112 c120 c121 c122
          obtain ⟨c130, c131, c132, -, -, -⟩ := row3_facts Rp0_5.out
          obtain ⟨c140, c141, c142, -, -, -⟩ := row3_facts Rp1_5.out
          go_wp2_with fail
          (with_reducible refine (toNetwork_own (HN1.out.ext K0_5.out) hs1.out).mono ?_)
          rintro e w4 ⟨xx1, bx1, rfl, hw, ho, hf⟩
          have Z4 := Lib.hid (show w3.heap.size + 1 ≤ w4.heap.size from by have := hw.size; simpa using this)
          have LOx1 := Lib.hid (show ∀ b ∈ bx1, w3.heap.size + 1 ≤ b from fun b hb => by have := hf.2 b hb; simpa using this)
          have HIx1 := Lib.hid (show ∀ b ∈ bx1, b < w4.heap.size from ho.lt)
          have NDx1 : Hid bx1.Nodup := hf.1
          obtain ⟨x1a0, x1c0, x1a1, x1c1, x1a2, x1c2, rfl⟩ := ho.agg
          have K0_6 := Lib.hid (K0_5.out.trans' hw)
          have Rp0_6 := Lib.hid (row_ext Rp0_5.out hw)
          have Rp1_6 := Lib.hid (row_ext Rp1_5.out hw)
          have Rx0_6 := Lib.hid (row_ext Rx0_5.out hw)
          have Ox0_6 := Lib.hid (Ox0_5.out.ext hw)
          have Ox1_6 := Lib.hid ho
          clear hw ho hf
          clear c130 c131 c132 c140 c141 c142
          obtain ⟨c150, c151, c152, -, -, -⟩ := row3_facts Rp0_6.out
          obtain ⟨c160, c161, c162, -, -, -⟩ := row3_facts Rp1_6.out
          have hA := (Ext.rfl' w4).alloc' (.cells #[.slice x1a0 N1.ends.length x1c0, .slice x1a1 N1.ids.length x1c1, .slice x1a2 N1.inputs.length x1c2] 34)
          have K0_7 := Lib.hid (K0_6.out.trans' hA)
          have Rp0_7 := Lib.hid (row_ext Rp0_6.out hA)
          have Rp1_7 := Lib.hid (row_ext Rp1_6.out hA)
          have Rx0_7 := Lib.hid (row_ext Rx0_6.out hA)
          have Ox0_7 := Lib.hid (Ox0_6.out.ext hA)
          have Ox1_7 := Lib.hid (Ox1_6.out.ext hA)
          have Rx1_7 := Lib.hid (row3_made w4 (.slice x1a0 N1.ends.length x1c0) (.slice x1a1 N1.ids.length x1c1) (.slice x1a2 N1.inputs.length x1c2) 34)
          clear hA
          clear c150 c151 c152 c160 c161 c162
          obtain ⟨c170, c171, c172, -, -, -⟩ := row3_facts Rp0_7.out
          obtain ⟨c180, c181, c182, -, -, -⟩ := row3_facts Rp1_7.out
          go_wp2_with fail
          (with_reducible refine (toIntS_own (HN2.out.ext K0_7.out) hg2).mono ?_)
          rintro e w5 ⟨x2a, x2c, bx2, rfl, hw, ho, hf⟩
          have Z5 := Lib.hid (show w4.heap.size + 1 ≤ w5.heap.size from by have := hw.size; simpa using this)
          have LOx2 := Lib.hid (show ∀ b ∈ bx2, w4.heap.size + 1 ≤ b from fun b hb => by have := hf.2 b hb; simpa using this)
          have HIx2 := Lib.hid (show ∀ b ∈ bx2, b < w5.heap.size from ho.1.lt)
          have NDx2 : Hid bx2.Nodup := hf.1
          have K0_8 := Lib.hid (K0_7.out.trans' hw)
          have Rp0_8 := Lib.hid (row_ext Rp0_7.out hw)
          have Rp1_8 := Lib.hid (row_ext Rp1_7.out hw)
          have Rx0_8 := Lib.hid (row_ext Rx0_7.out hw)
          have Rx1_8 := Lib.hid (row_ext Rx1_7.out hw)
          have Ox0_8 := Lib.hid (Ox0_7.out.ext hw)
          have Ox1_8 := Lib.hid (Ox1_7.out.ext hw)
          have Ox2_8 := Lib.hid ho
          clear hw ho hf
          clear c170 c171 c172 c180 c181 c182
          obtain ⟨c190, c191, c192, -, -, -⟩ := row3_facts Rp0_8.out
          obtain ⟨c200, c201, c202, -, -, -⟩ := row3_facts Rp1_8.out
          clear c190 c191 c192 c200 c201 c202
          obtain ⟨c210, c211, c212, -, -, -⟩ := row3_facts Rx0_8.out
          obtain ⟨c220, c221, c222, -, -, -⟩ := row3_facts Rx1_8.out
          go_wp2_with fail
          (with_reducible refine (refutesSize_any Ox0_8.out.read Ox1_8.out.read Ox2_8.out.read hg2).mono ?_)
          rintro e w6 ⟨rfl, hw⟩
          have Z6 := Lib.hid (show w5.heap.size ≤ w6.heap.size from by have := hw.size; simpa using this)
          have K0_9 := Lib.hid (K0_8.out.trans' hw)
          have Rp0_9 := Lib.hid (row_ext Rp0_8.out hw)
          have Rp1_9 := Lib.hid (row_ext Rp1_8.out hw)
          have Rx0_9 := Lib.hid (row_ext Rx0_8.out hw)
          have Rx1_9 := Lib.hid (row_ext Rx1_8.out hw)
          have Ox0_9 := Lib.hid (Ox0_8.out.ext hw)
          have Ox1_9 := Lib.hid (Ox1_8.out.ext hw)
          have Ox2_9 := Lib.hid (Ox2_8.out.ext hw)
          clear hw
          clear c210 c211 c212 c220 c221 c222
          obtain ⟨c230, c231, c232, -, -, -⟩ := row3_facts Rp0_9.out
          obtain ⟨c240, c241, c242, -, -, -⟩ := row3_facts Rx0_9.out
          go_wp2_with fail
          have Hd := Lib.hid (Ext.rfl' w6).drew'
          go_region_held3 (fun w' => w'.cell? ⟨w.heap.size, 0, none⟩ = some v00 ∧ w'.cell? ⟨w.heap.size, 1, none⟩ = some v01 ∧ w'.cell? ⟨w.heap.size, 2, none⟩ = some v02 ∧ w'.cell? ⟨w3.heap.size, 0, none⟩ = some (.slice x0a0 N0.ends.length x0c0) ∧ w'.cell? ⟨w3.heap.size, 1, none⟩ = some (.slice x0a1 N0.ids.length x0c1) ∧ w'.cell? ⟨w3.heap.size, 2, none⟩ = some (.slice x0a2 N0.inputs.length x0c2) ∧ Hid (Ext w6 w')) (first | exact ⟨c230, c231, c232, c240, c241, c242, Hd⟩ | exact ⟨hx.cell' (Hd.out.cell' c230), hx.cell' (Hd.out.cell' c231), hx.cell' (Hd.out.cell' c232), hx.cell' (Hd.out.cell' c240), hx.cell' (Hd.out.cell' c241), hx.cell' (Hd.out.cell' c242), Hd.out.trans' hx⟩ | exact ⟨hy.cell' (hx.cell' (Hd.out.cell' c230)), hy.cell' (hx.cell' (Hd.out.cell' c231)), hy.cell' (hx.cell' (Hd.out.cell' c232)), hy.cell' (hx.cell' (Hd.out.cell' c240)), hy.cell' (hx.cell' (Hd.out.cell' c241)), hy.cell' (hx.cell' (Hd.out.cell' c242)), (Hd.out.trans' hx).trans' hy⟩)
            (first | (go_at_call 19; (with_reducible refine (toNetwork_own (HN0.out.ext (K0_9.out.trans' Hd.out)) hs0.out).mono ?_); rintro e wa0 ⟨z, bz, rfl, hx, hoz, hfz⟩; have OZ := Lib.hid hoz.read; have HXZ := Lib.hid hx; clear hoz hfz) | (go_at_call 22; (with_reducible refine (eqNetwork_same (Ox0_9.out.read.ext (Hd.out.trans' HXZ.out)) OZ.out).mono ?_); rintro e wb0 ⟨rfl, hy⟩))
          rename_i hh
          have HY := hh.2.2.2.2.2.2
          clear hh hx hy HXZ OZ
          clear c230 c231 c232 c240 c241 c242
          clear Hd
          have Z7 := Lib.hid (show w6.heap.size ≤ wb0.heap.size from by have := HY.out.size; simpa using this)
          have K0_10 := Lib.hid (K0_9.out.trans' HY.out)
          have Rp0_10 := Lib.hid (row_ext Rp0_9.out HY.out)
          have Rp1_10 := Lib.hid (row_ext Rp1_9.out HY.out)
          have Rx0_10 := Lib.hid (row_ext Rx0_9.out HY.out)
          have Rx1_10 := Lib.hid (row_ext Rx1_9.out HY.out)
          have Ox0_10 := Lib.hid (Ox0_9.out.ext HY.out)
          have Ox1_10 := Lib.hid (Ox1_9.out.ext HY.out)
          have Ox2_10 := Lib.hid (Ox2_9.out.ext HY.out)
          clear HY
          obtain ⟨c250, c251, c252, -, -, -⟩ := row3_facts Rp1_10.out
          obtain ⟨c260, c261, c262, -, -, -⟩ := row3_facts Rx1_10.out
          go_wp2_with fail
          have Hd := Lib.hid (Ext.rfl' wb0).drew'
          go_region_held3 (fun w' => w'.cell? ⟨(w.heap.size + 1), 0, none⟩ = some v10 ∧ w'.cell? ⟨(w.heap.size + 1), 1, none⟩ = some v11 ∧ w'.cell? ⟨(w.heap.size + 1), 2, none⟩ = some v12 ∧ w'.cell? ⟨w4.heap.size, 0, none⟩ = some (.slice x1a0 N1.ends.length x1c0) ∧ w'.cell? ⟨w4.heap.size, 1, none⟩ = some (.slice x1a1 N1.ids.length x1c1) ∧ w'.cell? ⟨w4.heap.size, 2, none⟩ = some (.slice x1a2 N1.inputs.length x1c2) ∧ Hid (Ext wb0 w')) (first | exact ⟨c250, c251, c252, c260, c261, c262, Hd⟩ | exact ⟨hx.cell' (Hd.out.cell' c250), hx.cell' (Hd.out.cell' c251), hx.cell' (Hd.out.cell' c252), hx.cell' (Hd.out.cell' c260), hx.cell' (Hd.out.cell' c261), hx.cell' (Hd.out.cell' c262), Hd.out.trans' hx⟩ | exact ⟨hy.cell' (hx.cell' (Hd.out.cell' c250)), hy.cell' (hx.cell' (Hd.out.cell' c251)), hy.cell' (hx.cell' (Hd.out.cell' c252)), hy.cell' (hx.cell' (Hd.out.cell' c260)), hy.cell' (hx.cell' (Hd.out.cell' c261)), hy.cell' (hx.cell' (Hd.out.cell' c262)), (Hd.out.trans' hx).trans' hy⟩)
            (first | (go_at_call 19; (with_reducible refine (toNetwork_own (HN1.out.ext (K0_10.out.trans' Hd.out)) hs1.out).mono ?_); rintro e wa1 ⟨z, bz, rfl, hx, hoz, hfz⟩; have OZ := Lib.hid hoz.read; have HXZ := Lib.hid hx; clear hoz hfz) | (go_at_call 22; (with_reducible refine (eqNetwork_same (Ox1_10.out.read.ext (Hd.out.trans' HXZ.out)) OZ.out).mono ?_); rintro e wb1 ⟨rfl, hy⟩))
          rename_i hh
          have HY := hh.2.2.2.2.2.2
          clear hh hx hy HXZ OZ
          clear c250 c251 c252 c260 c261 c262
          clear Hd
          have Z8 := Lib.hid (show wb0.heap.size ≤ wb1.heap.size from by have := HY.out.size; simpa using this)
          have K0_11 := Lib.hid (K0_10.out.trans' HY.out)
          have Rp0_11 := Lib.hid (row_ext Rp0_10.out HY.out)
          have Rp1_11 := Lib.hid (row_ext Rp1_10.out HY.out)
          have Rx0_11 := Lib.hid (row_ext Rx0_10.out HY.out)
          have Rx1_11 := Lib.hid (row_ext Rx1_10.out HY.out)
          have Ox0_11 := Lib.hid (Ox0_10.out.ext HY.out)
          have Ox1_11 := Lib.hid (Ox1_10.out.ext HY.out)
          have Ox2_11 := Lib.hid (Ox2_10.out.ext HY.out)
          clear HY
          go_wp2_with fail
          (with_reducible refine (toIntS_own (HN2.out.ext K0_11.out) hg2).mono ?_)
          rintro e w7 ⟨z2a, z2c, bz2, rfl, hw, ho, hf⟩
          have Z9 := Lib.hid (show wb1.heap.size ≤ w7.heap.size from by have := hw.size; simpa using this)
          have K0_12 := Lib.hid (K0_11.out.trans' hw)
          have Rp0_12 := Lib.hid (row_ext Rp0_11.out hw)
          have Rp1_12 := Lib.hid (row_ext Rp1_11.out hw)
          have Rx0_12 := Lib.hid (row_ext Rx0_11.out hw)
          have Rx1_12 := Lib.hid (row_ext Rx1_11.out hw)
          have Ox0_12 := Lib.hid (Ox0_11.out.ext hw)
          have Ox1_12 := Lib.hid (Ox1_11.out.ext hw)
          have Ox2_12 := Lib.hid (Ox2_11.out.ext hw)
          have Oz2_12 := Lib.hid ho.read
          clear hw ho hf
          obtain ⟨c270, c271, c272, -, -, -⟩ := row3_facts Rp0_12.out
          obtain ⟨c280, c281, c282, -, -, -⟩ := row3_facts Rp1_12.out
          clear c270 c271 c272 c280 c281 c282
          go_wp2_with fail
          (with_reducible refine (eqIntS_same Ox2_12.out.read Oz2_12.out).mono ?_)
          rintro e w8 ⟨rfl, hw⟩
          have Z10 := Lib.hid (show w7.heap.size ≤ w8.heap.size from by have := hw.size; simpa using this)
          have K0_13 := Lib.hid (K0_12.out.trans' hw)
          have Rp0_13 := Lib.hid (row_ext Rp0_12.out hw)
          have Rp1_13 := Lib.hid (row_ext Rp1_12.out hw)
          have Rx0_13 := Lib.hid (row_ext Rx0_12.out hw)
          have Rx1_13 := Lib.hid (row_ext Rx1_12.out hw)
          have Ox0_13 := Lib.hid (Ox0_12.out.ext hw)
          have Ox1_13 := Lib.hid (Ox1_12.out.ext hw)
          have Ox2_13 := Lib.hid (Ox2_12.out.ext hw)
          have Oz2_13 := Lib.hid (Oz2_12.out.ext hw)
          clear hw
          go_wp2
          go_ret
          exact ⟨rfl, K0_13.out⟩
end Go.Proofs.Ytkpdbceglejbnaa
