/- The walk of FnExactComposeMaps: whatever the arguments, the law answers true and changes nothing that was there. No condition but that the answer is short. -/
import Derived.Test.YtgacbfblpkikkaaQn
import Derived.Test.YtgacbfblpkikkaaMk
import Derived.Test.YtgacbfblpkikkaaKc
namespace Go.Proofs.Ytgacbfblpkikkaa
open Go.RowKit

set_option maxHeartbeats 6400000 in
set_option maxRecDepth 100000 in
theorem walk_ComposeMaps_of {w : World} {v0 : Value} {N0 : Net} {v1 : Value} {N1 : Net} {v2 : Value} {N2 : Net} {v3 : Value} {l3 : List Int} {v4 : Value} {l4 : List Int} (h0 : NetAt w v0 N0) (h1 : NetAt w v1 N1) (h2 : NetAt w v2 N2) (h3 : IntSl w v3 l3) (h4 : IntSl w v4 l4) (hll : (cmpAns N0 N1 N2 l3 l4).length ≤ 1048576) :
    Calls Try.prog 10 #[v0, v1, v2, v3, v4] w fun e w' => e = .returned (.bool true) ∧ Ext w w' := by
  have HLL := Lib.hid hll
  have HN0 := Lib.hid h0
  obtain ⟨v00, v01, v02, rfl, hE, hI, hP⟩ := h0
  clear hE hI hP
  have HN1 := Lib.hid h1
  obtain ⟨v10, v11, v12, rfl, hE, hI, hP⟩ := h1
  clear hE hI hP
  have HN2 := Lib.hid h2
  obtain ⟨v20, v21, v22, rfl, hE, hI, hP⟩ := h2
  clear hE hI hP
  have HN3 := Lib.hid h3
  obtain ⟨la3, _, _, lc3, rfl, -, -, lm3, -⟩ := h3
  unfold maxLen at lm3
  have HN4 := Lib.hid h4
  obtain ⟨la4, _, _, lc4, rfl, -, -, lm4, -⟩ := h4
  unfold maxLen at lm4
  have K0 := Lib.hid (((boxed_ext w v00 v01 v02 25).trans' (boxed_ext (boxed w v00 v01 v02 25) v10 v11 v12 25)).trans' (boxed_ext (boxed (boxed w v00 v01 v02 25) v10 v11 v12 25) v20 v21 v22 25))
  have Rp0_0 := Lib.hid (show World.rowIs (boxed (boxed (boxed w v00 v01 v02 25) v10 v11 v12 25) v20 v21 v22 25) w.heap.size 25 3 (tri v00 v01 v02) from ((boxed_row w v00 v01 v02 25).alloc _).alloc _)
  have Rp1_0 := Lib.hid (show World.rowIs (boxed (boxed (boxed w v00 v01 v02 25) v10 v11 v12 25) v20 v21 v22 25) (w.heap.size + 1) 25 3 (tri v10 v11 v12) from by simpa using (boxed_row (boxed w v00 v01 v02 25) v10 v11 v12 25).alloc _)
  have Rp2_0 := Lib.hid (show World.rowIs (boxed (boxed (boxed w v00 v01 v02 25) v10 v11 v12 25) v20 v21 v22 25) (w.heap.size + 2) 25 3 (tri v20 v21 v22) from by simpa using boxed_row (boxed (boxed w v00 v01 v02 25) v10 v11 v12 25) v20 v21 v22 25)
  have hmm : (1 + ((cmpAns N0 N1 N2 l3 l4).length : Int) != 1 + ((cmpAns N0 N1 N2 l3 l4).length : Int)) = false := by simp
  have hbb : (dec (CmpB N0 N1 N2 l3 l4) != dec (CmpB N0 N1 N2 l3 l4)) = false := by simp
  by_cases hg3 : l3.length ≤ 1048576
  case neg =>
    go_enter Try.func10, Try.ntmps10
    go_wp2
    go_ret
    exact ⟨rfl, K0.out⟩
  case pos =>
    by_cases hg4 : l4.length ≤ 1048576
    case neg =>
      go_enter Try.func10, Try.ntmps10
      go_wp2
      go_ret
      exact ⟨rfl, K0.out⟩
    case pos =>
      go_enter Try.func10, Try.ntmps10
      go_wp2_with fail
      (with_reducible refine (szNetwork_any _ (HN0.out.ext K0.out) (by omega) (by omega)).mono ?_)
      rintro e w1 ⟨r0, rfl, hw, hr00, hr10, hr2⟩
      have Z0 := Lib.hid (show w.heap.size + 3 ≤ w1.heap.size from by have := hw.size; simpa using this)
      have K0_1 := Lib.hid (K0.out.trans' hw)
      have Rp0_1 := Lib.hid (row_ext Rp0_0.out hw)
      have Rp1_1 := Lib.hid (row_ext Rp1_0.out hw)
      have Rp2_1 := Lib.hid (row_ext Rp2_0.out hw)
      have S0 := Lib.hid hr2
      clear hw hr2
      obtain ⟨c10, c11, c12, -, -, -⟩ := row3_facts Rp0_1.out
      obtain ⟨c20, c21, c22, -, -, -⟩ := row3_facts Rp1_1.out
      obtain ⟨c30, c31, c32, -, -, -⟩ := row3_facts Rp2_1.out
      by_cases hneg0 : r0 < 0
      case pos =>
        go_wp2
        go_ret
        exact ⟨rfl, K0_1.out⟩
      case neg =>
        have hs0 := Lib.hid (S0.out (by omega))
        go_wp2_with fail
        (with_reducible refine (szNetwork_any _ (HN1.out.ext K0_1.out) (by omega) (by omega)).mono ?_)
        rintro e w2 ⟨r1, rfl, hw, hr01, hr11, hr2⟩
        have Z1 := Lib.hid (show w1.heap.size ≤ w2.heap.size from by have := hw.size; simpa using this)
        have K0_2 := Lib.hid (K0_1.out.trans' hw)
        have Rp0_2 := Lib.hid (row_ext Rp0_1.out hw)
        have Rp1_2 := Lib.hid (row_ext Rp1_1.out hw)
        have Rp2_2 := Lib.hid (row_ext Rp2_1.out hw)
        have S1 := Lib.hid hr2
        clear hw hr2
        clear c10 c11 c12 c20 c21 c22 c30 c31 c32
        obtain ⟨c40, c41, c42, -, -, -⟩ := row3_facts Rp0_2.out
        obtain ⟨c50, c51, c52, -, -, -⟩ := row3_facts Rp1_2.out
        obtain ⟨c60, c61, c62, -, -, -⟩ := row3_facts Rp2_2.out
        by_cases hneg1 : r1 < 0
        case pos =>
          go_wp2
          go_ret
          exact ⟨rfl, K0_2.out⟩
        case neg =>
          have hs1 := Lib.hid (S1.out (by omega))
          go_wp2_with fail
          (with_reducible refine (szNetwork_any _ (HN2.out.ext K0_2.out) (by omega) (by omega)).mono ?_)
          rintro e w3 ⟨r2, rfl, hw, hr02, hr12, hr2⟩
          have Z2 := Lib.hid (show w2.heap.size ≤ w3.heap.size from by have := hw.size; simpa using this)
          have K0_3 := Lib.hid (K0_2.out.trans' hw)
          have Rp0_3 := Lib.hid (row_ext Rp0_2.out hw)
          have Rp1_3 := Lib.hid (row_ext Rp1_2.out hw)
          have Rp2_3 := Lib.hid (row_ext Rp2_2.out hw)
          have S2 := Lib.hid hr2
          clear hw hr2
          clear c40 c41 c42 c50 c51 c52 c60 c61 c62
          obtain ⟨c70, c71, c72, -, -, -⟩ := row3_facts Rp0_3.out
          obtain ⟨c80, c81, c82, -, -, -⟩ := row3_facts Rp1_3.out
          obtain ⟨c90, c91, c92, -, -, -⟩ := row3_facts Rp2_3.out
          by_cases hneg2 : r2 < 0
          case pos =>
            go_wp2
            go_ret
            exact ⟨rfl, K0_3.out⟩
          case neg =>
            have hs2 := Lib.hid (S2.out (by omega))
            clear c70 c71 c72 c80 c81 c82 c90 c91 c92
            obtain ⟨c100, c101, c102, -, -, -⟩ := row3_facts Rp0_3.out
            obtain ⟨c110, c111, c112, -, -, -⟩ := row3_facts Rp1_3.out
            obtain ⟨c120, c121, c122, -, -, -⟩ := row3_facts Rp2_3.out
            clear c100 c101 c102 c110 c111 c112 c120 c121 c122
            obtain ⟨c130, c131, c132, -, -, -⟩ := row3_facts Rp0_3.out
            obtain ⟨c140, c141, c142, -, -, -⟩ := row3_facts Rp1_3.out
            obtain ⟨c150, c151, c152, -, -, -⟩ := row3_facts Rp2_3.out
            have mkS : ∀ w' : World, Ext w3 w' → w'.cell? ⟨w.heap.size, 0, none⟩ = some v00 ∧ w'.cell? ⟨w.heap.size, 1, none⟩ = some v01 ∧ w'.cell? ⟨w.heap.size, 2, none⟩ = some v02 ∧ w'.cell? ⟨(w.heap.size + 1), 0, none⟩ = some v10 ∧ w'.cell? ⟨(w.heap.size + 1), 1, none⟩ = some v11 ∧ w'.cell? ⟨(w.heap.size + 1), 2, none⟩ = some v12 ∧ w'.cell? ⟨(w.heap.size + 2), 0, none⟩ = some v20 ∧ w'.cell? ⟨(w.heap.size + 2), 1, none⟩ = some v21 ∧ w'.cell? ⟨(w.heap.size + 2), 2, none⟩ = some v22 ∧ Hid (Ext w3 w') := fun w' h => ⟨h.cell' c130, h.cell' c131, h.cell' c132, h.cell' c140, h.cell' c141, h.cell' c142, h.cell' c150, h.cell' c151, h.cell' c152, h⟩
            go_wp2_with fail
            go_cut [12, 13] from 48 to 61 (fun t6 t7 wx => ∃ (v : Value) (bs : List Nat), t6 = v ∧ t7 = .bool (dec (CmpB N0 N1 N2 l3 l4)) ∧ Hid (Ext w3 wx ∧ OwnI wx v (cmpAns N0 N1 N2 l3 l4) bs ∧ bs.Nodup ∧ ∀ b ∈ bs, w3.heap.size ≤ b))
            case first =>
              go_region_held3 (fun w' => w'.cell? ⟨w.heap.size, 0, none⟩ = some v00 ∧ w'.cell? ⟨w.heap.size, 1, none⟩ = some v01 ∧ w'.cell? ⟨w.heap.size, 2, none⟩ = some v02 ∧ w'.cell? ⟨(w.heap.size + 1), 0, none⟩ = some v10 ∧ w'.cell? ⟨(w.heap.size + 1), 1, none⟩ = some v11 ∧ w'.cell? ⟨(w.heap.size + 1), 2, none⟩ = some v12 ∧ w'.cell? ⟨(w.heap.size + 2), 0, none⟩ = some v20 ∧ w'.cell? ⟨(w.heap.size + 2), 1, none⟩ = some v21 ∧ w'.cell? ⟨(w.heap.size + 2), 2, none⟩ = some v22 ∧ Hid (Ext w3 w')) (first | exact mkS _ (Ext.rfl' w3).drew' | exact mkS _ XA.out | exact mkS _ XB.out | exact mkS _ XC.out | exact mkS _ XD.out | exact mkS _ XF.out | exact mkS _ XZ.out | fail)
                (first | (go_at_call_of 20 (Value.agg #[v00, v01, v02]); (with_reducible refine (toNetwork_own (HN0.out.ext (K0_3.out.trans' ((‹_ ∧ _ ∧ _ ∧ _ ∧ _ ∧ _ ∧ _ ∧ _ ∧ _ ∧ Hid (Ext w3 _)›).2.2.2.2.2.2.2.2.2.out))) hs0.out).mono ?_); rintro e wqA ⟨yA, bA, rfl, hx, ho, hf⟩; have XA := Lib.hid (Ext.trans' ((‹_ ∧ _ ∧ _ ∧ _ ∧ _ ∧ _ ∧ _ ∧ _ ∧ _ ∧ Hid (Ext w3 _)›).2.2.2.2.2.2.2.2.2.out) hx); have OA0 := Lib.hid ho.read; clear ho hf) | (go_at_call_of 20 (Value.agg #[v10, v11, v12]); (with_reducible refine (toNetwork_own (HN1.out.ext (K0_3.out.trans' ((‹_ ∧ _ ∧ _ ∧ _ ∧ _ ∧ _ ∧ _ ∧ _ ∧ _ ∧ Hid (Ext w3 _)›).2.2.2.2.2.2.2.2.2.out))) hs1.out).mono ?_); rintro e wqB ⟨yB, bB, rfl, hx, ho, hf⟩; have XB := Lib.hid (Ext.trans' ((‹_ ∧ _ ∧ _ ∧ _ ∧ _ ∧ _ ∧ _ ∧ _ ∧ _ ∧ Hid (Ext w3 _)›).2.2.2.2.2.2.2.2.2.out) hx); have OA1 := Lib.hid (OA0.out.ext hx); have OB1 := Lib.hid ho.read; clear ho hf) | (go_at_call_of 20 (Value.agg #[v20, v21, v22]); (with_reducible refine (toNetwork_own (HN2.out.ext (K0_3.out.trans' ((‹_ ∧ _ ∧ _ ∧ _ ∧ _ ∧ _ ∧ _ ∧ _ ∧ _ ∧ Hid (Ext w3 _)›).2.2.2.2.2.2.2.2.2.out))) hs2.out).mono ?_); rintro e wqC ⟨yC, bC, rfl, hx, ho, hf⟩; have XC := Lib.hid (Ext.trans' ((‹_ ∧ _ ∧ _ ∧ _ ∧ _ ∧ _ ∧ _ ∧ _ ∧ _ ∧ Hid (Ext w3 _)›).2.2.2.2.2.2.2.2.2.out) hx); have OA2 := Lib.hid (OA1.out.ext hx); have OB2 := Lib.hid (OB1.out.ext hx); have OC2 := Lib.hid ho.read; clear ho hf) | (go_at_call 26; (with_reducible refine (toIntS_own (HN3.out.ext (K0_3.out.trans' ((‹_ ∧ _ ∧ _ ∧ _ ∧ _ ∧ _ ∧ _ ∧ _ ∧ _ ∧ Hid (Ext w3 _)›).2.2.2.2.2.2.2.2.2.out))) hg3).mono ?_); rintro e wqD ⟨yDa, yDc, bD, rfl, hx, ho, hf⟩; have XD := Lib.hid (Ext.trans' ((‹_ ∧ _ ∧ _ ∧ _ ∧ _ ∧ _ ∧ _ ∧ _ ∧ _ ∧ Hid (Ext w3 _)›).2.2.2.2.2.2.2.2.2.out) hx); have OA3 := Lib.hid (OA2.out.ext hx); have OB3 := Lib.hid (OB2.out.ext hx); have OC3 := Lib.hid (OC2.out.ext hx); have OD3 := Lib.hid ho.read; clear ho hf) | (go_at_call 26; (with_reducible refine (toIntS_own (HN4.out.ext (K0_3.out.trans' ((‹_ ∧ _ ∧ _ ∧ _ ∧ _ ∧ _ ∧ _ ∧ _ ∧ _ ∧ Hid (Ext w3 _)›).2.2.2.2.2.2.2.2.2.out))) hg4).mono ?_); rintro e wqF ⟨yFa, yFc, bF, rfl, hx, ho, hf⟩; have XF := Lib.hid (Ext.trans' ((‹_ ∧ _ ∧ _ ∧ _ ∧ _ ∧ _ ∧ _ ∧ _ ∧ _ ∧ Hid (Ext w3 _)›).2.2.2.2.2.2.2.2.2.out) hx); have OA4 := Lib.hid (OA3.out.ext hx); have OB4 := Lib.hid (OB3.out.ext hx); have OC4 := Lib.hid (OC3.out.ext hx); have OD4 := Lib.hid (OD3.out.ext hx); have OF4 := Lib.hid ho.read; clear ho hf) | (go_at_call 44; (with_reducible refine (specComposeMapsL_any OA4.out OB4.out OC4.out OD4.out hg3 OF4.out hg4).mono ?_); rintro e wz ⟨xz, bz, rfl, hx, ho, hf⟩; have XZ := Lib.hid (Ext.trans' ((‹_ ∧ _ ∧ _ ∧ _ ∧ _ ∧ _ ∧ _ ∧ _ ∧ _ ∧ Hid (Ext w3 _)›).2.2.2.2.2.2.2.2.2.out) hx); have FZ : Hid (bz.Nodup ∧ ∀ b ∈ bz, w3.heap.size ≤ b) := ⟨hf.1, fun b hb => Nat.le_trans ((‹_ ∧ _ ∧ _ ∧ _ ∧ _ ∧ _ ∧ _ ∧ _ ∧ _ ∧ Hid (Ext w3 _)›).2.2.2.2.2.2.2.2.2.out).size (hf.2 b hb)⟩; have OZ := Lib.hid ho; clear ho hf))
              all_goals go_wp2_with fail
              all_goals go_meet
              all_goals exact ⟨_, _, rfl, rfl, XZ.out, OZ.out, FZ.out⟩
            case rest =>
              obtain ⟨xw, bw, rfl, rfl, XC⟩ := hcut
              clear mkS
              obtain ⟨w9w, h9⟩ : ∃ w9 : World, w9 = wc := ⟨_, rfl⟩
              subst h9
              clear c130 c131 c132 c140 c141 c142 c150 c151 c152
              have LOw := Lib.hid XC.out.2.2.2
              have HIw := Lib.hid (show ∀ b ∈ bw, b < w9w.heap.size from XC.out.2.1.1.lt)
              have NDw := Lib.hid XC.out.2.2.1
              have Z3 := Lib.hid (show w3.heap.size ≤ w9w.heap.size from by have := XC.out.1.size; simpa using this)
              have K0_4 := Lib.hid (K0_3.out.trans' XC.out.1)
              have Rp0_4 := Lib.hid (row_ext Rp0_3.out XC.out.1)
              have Rp1_4 := Lib.hid (row_ext Rp1_3.out XC.out.1)
              have Rp2_4 := Lib.hid (row_ext Rp2_3.out XC.out.1)
              have Ow_4 := Lib.hid XC.out.2.1
              obtain ⟨c160, c161, c162, -, -, -⟩ := row3_facts Rp0_4.out
              obtain ⟨c170, c171, c172, -, -, -⟩ := row3_facts Rp1_4.out
              obtain ⟨c180, c181, c182, -, -, -⟩ := row3_facts Rp2_4.out
              go_wp2_with fail
              (with_reducible refine (toNetwork_own (HN0.out.ext K0_4.out) hs0.out).mono ?_)
              rintro e w4 ⟨xx0, bx0, rfl, hw, ho, hf⟩
              have Z4 := Lib.hid (show w9w.heap.size ≤ w4.heap.size from by have := hw.size; simpa using this)
              have LOx0 := Lib.hid (show ∀ b ∈ bx0, w9w.heap.size ≤ b from fun b hb => by have := hf.2 b hb; simpa using this)
              have HIx0 := Lib.hid (show ∀ b ∈ bx0, b < w4.heap.size from ho.lt)
              have NDx0 : Hid bx0.Nodup := hf.1
              obtain ⟨x0a0, x0c0, x0a1, x0c1, x0a2, x0c2, rfl⟩ := ho.agg
              have K0_5 := Lib.hid (K0_4.out.trans' hw)
              have Rp0_5 := Lib.hid (row_ext Rp0_4.out hw)
              have Rp1_5 := Lib.hid (row_ext Rp1_4.out hw)
              have Rp2_5 := Lib.hid (row_ext Rp2_4.out hw)
              have Ow_5 := Lib.hid (Ow_4.out.ext hw)
              have Ox0_5 := Lib.hid ho
              clear hw ho hf
              clear c160 c161 c162 c170 c171 c172 c180 c181 c182
              obtain ⟨c190, c191, c192, -, -, -⟩ := row3_facts Rp0_5.out
              obtain ⟨c200, c201, c202, -, -, -⟩ := row3_facts Rp1_5.out
              obtain ⟨c210, c211, c212, -, -, -⟩ := row3_facts Rp2_5.out
              have hA := (Ext.rfl' w4).alloc' (.cells #[.slice x0a0 N0.ends.length x0c0, .slice x0a1 N0.ids.length x0c1, .slice x0a2 N0.inputs.length x0c2] 29)
              have K0_6 := Lib.hid (K0_5.out.trans' hA)
              have Rp0_6 := Lib.hid (row_ext Rp0_5.out hA)
              have Rp1_6 := Lib.hid (row_ext Rp1_5.out hA)
              have Rp2_6 := Lib.hid (row_ext Rp2_5.out hA)
              have Ow_6 := Lib.hid (Ow_5.out.ext hA)
              have Ox0_6 := Lib.hid (Ox0_5.out.ext hA)
              have Rx0_6 := Lib.hid (row3_made w4 (.slice x0a0 N0.ends.length x0c0) (.slice x0a1 N0.ids.length x0c1) (.slice x0a2 N0.inputs.length x0c2) 29)
              clear hA
              clear c190 c191 c192 c200 c201 c202 c210 c211 c212
              obtain ⟨c220, c221, c222, -, -, -⟩ := row3_facts Rp0_6.out
              obtain ⟨c230, c231, c232, -, -, -⟩ := row3_facts Rp1_6.out
              obtain ⟨c240, c241, c242, -, -, -⟩ := row3_facts Rp2_6.out
              go_wp2_with fail
              (with_reducible refine (toNetwork_own (HN1.out.ext K0_6.out) hs1.out).mono ?_)
              rintro e w5 ⟨xx1, bx1, rfl, hw, ho, hf⟩
              have Z5 := Lib.hid (show w4.heap.size + 1 ≤ w5.heap.size from by have := hw.size; simpa using this)
              have LOx1 := Lib.hid (show ∀ b ∈ bx1, w4.heap.size + 1 ≤ b from fun b hb => by have := hf.2 b hb; simpa using this)
              have HIx1 := Lib.hid (show ∀ b ∈ bx1, b < w5.heap.size from ho.lt)
              have NDx1 : Hid bx1.Nodup := hf.1
              obtain ⟨x1a0, x1c0, x1a1, x1c1, x1a2, x1c2, rfl⟩ := ho.agg
              have K0_7 := Lib.hid (K0_6.out.trans' hw)
              have Rp0_7 := Lib.hid (row_ext Rp0_6.out hw)
              have Rp1_7 := Lib.hid (row_ext Rp1_6.out hw)
              have Rp2_7 := Lib.hid (row_ext Rp2_6.out hw)
              have Rx0_7 := Lib.hid (row_ext Rx0_6.out hw)
              have Ow_7 := Lib.hid (Ow_6.out.ext hw)
              have Ox0_7 := Lib.hid (Ox0_6.out.ext hw)
              have Ox1_7 := Lib.hid ho
              clear hw ho hf
              clear c220 c221 c222 c230 c231 c232 c240 c241 c242
              obtain ⟨c250, c251, c252, -, -, -⟩ := row3_facts Rp0_7.out
              obtain ⟨c260, c261, c262, -, -, -⟩ := row3_facts Rp1_7.out
              obtain ⟨c270, c271, c272, -, -, -⟩ := row3_facts Rp2_7.out
              have hA := (Ext.rfl' w5).alloc' (.cells #[.slice x1a0 N1.ends.length x1c0, .slice x1a1 N1.ids.length x1c1, .slice x1a2 N1.inputs.length x1c2] 29)
              have K0_8 := Lib.hid (K0_7.out.trans' hA)
              have Rp0_8 := Lib.hid (row_ext Rp0_7.out hA)
              have Rp1_8 := Lib.hid (row_ext Rp1_7.out hA)
              have Rp2_8 := Lib.hid (row_ext Rp2_7.out hA)
              have Rx0_8 := Lib.hid (row_ext Rx0_7.out hA)
              have Ow_8 := Lib.hid (Ow_7.out.ext hA)
              have Ox0_8 := Lib.hid (Ox0_7.out.ext hA)
              have Ox1_8 := Lib.hid (Ox1_7.out.ext hA)
              have Rx1_8 := Lib.hid (row3_made w5 (.slice x1a0 N1.ends.length x1c0) (.slice x1a1 N1.ids.length x1c1) (.slice x1a2 N1.inputs.length x1c2) 29)
              clear hA
              clear c250 c251 c252 c260 c261 c262 c270 c271 c272
              obtain ⟨c280, c281, c282, -, -, -⟩ := row3_facts Rp0_8.out
              obtain ⟨c290, c291, c292, -, -, -⟩ := row3_facts Rp1_8.out
              obtain ⟨c300, c301, c302, -, -, -⟩ := row3_facts Rp2_8.out
              go_wp2_with fail
              (with_reducible refine (toNetwork_own (HN2.out.ext K0_8.out) hs2.out).mono ?_)
              rintro e w6 ⟨xx2, bx2, rfl, hw, ho, hf⟩
              have Z6 := Lib.hid (show w5.heap.size + 1 ≤ w6.heap.size from by have := hw.size; simpa using this)
              have LOx2 := Lib.hid (show ∀ b ∈ bx2, w5.heap.size + 1 ≤ b from fun b hb => by have := hf.2 b hb; simpa using this)
              have HIx2 := Lib.hid (show ∀ b ∈ bx2, b < w6.heap.size from ho.lt)
              have NDx2 : Hid bx2.Nodup := hf.1
              obtain ⟨x2a0, x2c0, x2a1, x2c1, x2a2, x2c2, rfl⟩ := ho.agg
              have K0_9 := Lib.hid (K0_8.out.trans' hw)
              have Rp0_9 := Lib.hid (row_ext Rp0_8.out hw)
              have Rp1_9 := Lib.hid (row_ext Rp1_8.out hw)
              have Rp2_9 := Lib.hid (row_ext Rp2_8.out hw)
              have Rx0_9 := Lib.hid (row_ext Rx0_8.out hw)
              have Rx1_9 := Lib.hid (row_ext Rx1_8.out hw)
              have Ow_9 := Lib.hid (Ow_8.out.ext hw)
              have Ox0_9 := Lib.hid (Ox0_8.out.ext hw)
              have Ox1_9 := Lib.hid (Ox1_8.out.ext hw)
              have Ox2_9 := Lib.hid ho
              clear hw ho hf
              clear c280 c281 c282 c290 c291 c292 c300 c301 c302
              obtain ⟨c310, c311, c312, -, -, -⟩ := row3_facts Rp0_9.out
              obtain ⟨c320, c321, c322, -, -, -⟩ := row3_facts Rp1_9.out
              obtain ⟨c330, c331, c332, -, -, -⟩ := row3_facts Rp2_9.out
              have hA := (Ext.rfl' w6).alloc' (.cells #[.slice x2a0 N2.ends.length x2c0, .slice x2a1 N2.ids.length x2c1, .slice x2a2 N2.inputs.length x2c2] 29)
              have K0_10 := Lib.hid (K0_9.out.trans' hA)
              have Rp0_10 := Lib.hid (row_ext Rp0_9.out hA)
              have Rp1_10 := Lib.hid (row_ext Rp1_9.out hA)
              have Rp2_10 := Lib.hid (row_ext Rp2_9.out hA)
              have Rx0_10 := Lib.hid (row_ext Rx0_9.out hA)
              have Rx1_10 := Lib.hid (row_ext Rx1_9.out hA)
              have Ow_10 := Lib.hid (Ow_9.out.ext hA)
              have Ox0_10 := Lib.hid (Ox0_9.out.ext hA)
              have Ox1_10 := Lib.hid (Ox1_9.out.ext hA)
              have Ox2_10 := Lib.hid (Ox2_9.out.ext hA)
              have Rx2_10 := Lib.hid (row3_made w6 (.slice x2a0 N2.ends.length x2c0) (.slice x2a1 N2.ids.length x2c1) (.slice x2a2 N2.inputs.length x2c2) 29)
              clear hA
              clear c310 c311 c312 c320 c321 c322 c330 c331 c332
              obtain ⟨c340, c341, c342, -, -, -⟩ := row3_facts Rp0_10.out
              obtain ⟨c350, c351, c352, -, -, -⟩ := row3_facts Rp1_10.out
              obtain ⟨c360, c361, c362, -, -, -⟩ := row3_facts Rp2_10.out
              go_wp2_with fail
              (with_reducible refine (toIntS_own (HN3.out.ext K0_10.out) hg3).mono ?_)
              rintro e w7 ⟨x3a, x3c, bx3, rfl, hw, ho, hf⟩
              have Z7 := Lib.hid (show w6.heap.size + 1 ≤ w7.heap.size from by have := hw.size; simpa using this)
              have LOx3 := Lib.hid (show ∀ b ∈ bx3, w6.heap.size + 1 ≤ b from fun b hb => by have := hf.2 b hb; simpa using this)
              have HIx3 := Lib.hid (show ∀ b ∈ bx3, b < w7.heap.size from ho.1.lt)
              have NDx3 : Hid bx3.Nodup := hf.1
              have K0_11 := Lib.hid (K0_10.out.trans' hw)
              have Rp0_11 := Lib.hid (row_ext Rp0_10.out hw)
              have Rp1_11 := Lib.hid (row_ext Rp1_10.out hw)
              have Rp2_11 := Lib.hid (row_ext Rp2_10.out hw)
              have Rx0_11 := Lib.hid (row_ext Rx0_10.out hw)
              have Rx1_11 := Lib.hid (row_ext Rx1_10.out hw)
              have Rx2_11 := Lib.hid (row_ext Rx2_10.out hw)
              have Ow_11 := Lib.hid (Ow_10.out.ext hw)
              have Ox0_11 := Lib.hid (Ox0_10.out.ext hw)
              have Ox1_11 := Lib.hid (Ox1_10.out.ext hw)
              have Ox2_11 := Lib.hid (Ox2_10.out.ext hw)
              have Ox3_11 := Lib.hid ho
              clear hw ho hf
              clear c340 c341 c342 c350 c351 c352 c360 c361 c362
              obtain ⟨c370, c371, c372, -, -, -⟩ := row3_facts Rp0_11.out
              obtain ⟨c380, c381, c382, -, -, -⟩ := row3_facts Rp1_11.out
              obtain ⟨c390, c391, c392, -, -, -⟩ := row3_facts Rp2_11.out
              go_wp2_with fail
              (with_reducible refine (toIntS_own (HN4.out.ext K0_11.out) hg4).mono ?_)
              rintro e w8 ⟨x4a, x4c, bx4, rfl, hw, ho, hf⟩
              have Z8 := Lib.hid (show w7.heap.size ≤ w8.heap.size from by have := hw.size; simpa using this)
              have LOx4 := Lib.hid (show ∀ b ∈ bx4, w7.heap.size ≤ b from fun b hb => by have := hf.2 b hb; simpa using this)
              have HIx4 := Lib.hid (show ∀ b ∈ bx4, b < w8.heap.size from ho.1.lt)
              have NDx4 : Hid bx4.Nodup := hf.1
              have K0_12 := Lib.hid (K0_11.out.trans' hw)
              have Rp0_12 := Lib.hid (row_ext Rp0_11.out hw)
              have Rp1_12 := Lib.hid (row_ext Rp1_11.out hw)
              have Rp2_12 := Lib.hid (row_ext Rp2_11.out hw)
              have Rx0_12 := Lib.hid (row_ext Rx0_11.out hw)
              have Rx1_12 := Lib.hid (row_ext Rx1_11.out hw)
              have Rx2_12 := Lib.hid (row_ext Rx2_11.out hw)
              have Ow_12 := Lib.hid (Ow_11.out.ext hw)
              have Ox0_12 := Lib.hid (Ox0_11.out.ext hw)
              have Ox1_12 := Lib.hid (Ox1_11.out.ext hw)
              have Ox2_12 := Lib.hid (Ox2_11.out.ext hw)
              have Ox3_12 := Lib.hid (Ox3_11.out.ext hw)
              have Ox4_12 := Lib.hid ho
              clear hw ho hf
              clear c370 c371 c372 c380 c381 c382 c390 c391 c392
              obtain ⟨c400, c401, c402, -, -, -⟩ := row3_facts Rp0_12.out
              obtain ⟨c410, c411, c412, -, -, -⟩ := row3_facts Rp1_12.out
              obtain ⟨c420, c421, c422, -, -, -⟩ := row3_facts Rp2_12.out
              clear c400 c401 c402 c410 c411 c412 c420 c421 c422
              obtain ⟨c430, c431, c432, -, -, -⟩ := row3_facts Rx0_12.out
              obtain ⟨c440, c441, c442, -, -, -⟩ := row3_facts Rx1_12.out
              obtain ⟨c450, c451, c452, -, -, -⟩ := row3_facts Rx2_12.out
              go_wp2_with fail
              (with_reducible refine (composeMapsL_any Ox0_12.out.read Ox1_12.out.read Ox2_12.out.read Ox3_12.out.read hg3 Ox4_12.out.read hg4).mono ?_)
              rintro e w9 ⟨xg, bg, rfl, hw, ho, hf⟩
              have Z9 := Lib.hid (show w8.heap.size ≤ w9.heap.size from by have := hw.size; simpa using this)
              have LOg := Lib.hid (show ∀ b ∈ bg, w8.heap.size ≤ b from fun b hb => by have := hf.2 b hb; simpa using this)
              have HIg := Lib.hid (show ∀ b ∈ bg, b < w9.heap.size from ho.1.lt)
              have NDg : Hid bg.Nodup := hf.1
              have K0_13 := Lib.hid (K0_12.out.trans' hw)
              have Rp0_13 := Lib.hid (row_ext Rp0_12.out hw)
              have Rp1_13 := Lib.hid (row_ext Rp1_12.out hw)
              have Rp2_13 := Lib.hid (row_ext Rp2_12.out hw)
              have Rx0_13 := Lib.hid (row_ext Rx0_12.out hw)
              have Rx1_13 := Lib.hid (row_ext Rx1_12.out hw)
              have Rx2_13 := Lib.hid (row_ext Rx2_12.out hw)
              have Ow_13 := Lib.hid (Ow_12.out.ext hw)
              have Ox0_13 := Lib.hid (Ox0_12.out.ext hw)
              have Ox1_13 := Lib.hid (Ox1_12.out.ext hw)
              have Ox2_13 := Lib.hid (Ox2_12.out.ext hw)
              have Ox3_13 := Lib.hid (Ox3_12.out.ext hw)
              have Ox4_13 := Lib.hid (Ox4_12.out.ext hw)
              have Og_13 := Lib.hid ho
              clear hw ho hf
              clear c430 c431 c432 c440 c441 c442 c450 c451 c452
              go_wp2_with fail
              (with_reducible refine (eqIntS_same Og_13.out.read Ow_13.out.read).mono ?_)
              rintro e w10 ⟨rfl, hw⟩
              have Z10 := Lib.hid (show w9.heap.size ≤ w10.heap.size from by have := hw.size; simpa using this)
              have K0_14 := Lib.hid (K0_13.out.trans' hw)
              have Rp0_14 := Lib.hid (row_ext Rp0_13.out hw)
              have Rp1_14 := Lib.hid (row_ext Rp1_13.out hw)
              have Rp2_14 := Lib.hid (row_ext Rp2_13.out hw)
              have Rx0_14 := Lib.hid (row_ext Rx0_13.out hw)
              have Rx1_14 := Lib.hid (row_ext Rx1_13.out hw)
              have Rx2_14 := Lib.hid (row_ext Rx2_13.out hw)
              have Ow_14 := Lib.hid (Ow_13.out.ext hw)
              have Ox0_14 := Lib.hid (Ox0_13.out.ext hw)
              have Ox1_14 := Lib.hid (Ox1_13.out.ext hw)
              have Ox2_14 := Lib.hid (Ox2_13.out.ext hw)
              have Ox3_14 := Lib.hid (Ox3_13.out.ext hw)
              have Ox4_14 := Lib.hid (Ox4_13.out.ext hw)
              have Og_14 := Lib.hid (Og_13.out.ext hw)
              clear hw
              obtain ⟨c460, c461, c462, -, -, -⟩ := row3_facts Rp0_14.out
              obtain ⟨c470, c471, c472, -, -, -⟩ := row3_facts Rx0_14.out
              go_wp2_with fail
              have Hd := Lib.hid (Ext.rfl' w10).drew'
              go_region_held3 (fun w' => w'.cell? ⟨w.heap.size, 0, none⟩ = some v00 ∧ w'.cell? ⟨w.heap.size, 1, none⟩ = some v01 ∧ w'.cell? ⟨w.heap.size, 2, none⟩ = some v02 ∧ w'.cell? ⟨w4.heap.size, 0, none⟩ = some (.slice x0a0 N0.ends.length x0c0) ∧ w'.cell? ⟨w4.heap.size, 1, none⟩ = some (.slice x0a1 N0.ids.length x0c1) ∧ w'.cell? ⟨w4.heap.size, 2, none⟩ = some (.slice x0a2 N0.inputs.length x0c2) ∧ Hid (Ext w10 w')) (first | exact ⟨c460, c461, c462, c470, c471, c472, Hd⟩ | exact ⟨hx.cell' (Hd.out.cell' c460), hx.cell' (Hd.out.cell' c461), hx.cell' (Hd.out.cell' c462), hx.cell' (Hd.out.cell' c470), hx.cell' (Hd.out.cell' c471), hx.cell' (Hd.out.cell' c472), Hd.out.trans' hx⟩ | exact ⟨hy.cell' (hx.cell' (Hd.out.cell' c460)), hy.cell' (hx.cell' (Hd.out.cell' c461)), hy.cell' (hx.cell' (Hd.out.cell' c462)), hy.cell' (hx.cell' (Hd.out.cell' c470)), hy.cell' (hx.cell' (Hd.out.cell' c471)), hy.cell' (hx.cell' (Hd.out.cell' c472)), (Hd.out.trans' hx).trans' hy⟩)
                (first | (go_at_call 20; (with_reducible refine (toNetwork_own (HN0.out.ext (K0_14.out.trans' Hd.out)) hs0.out).mono ?_); rintro e wa0 ⟨z, bz, rfl, hx, hoz, hfz⟩; have OZ := Lib.hid hoz.read; have HXZ := Lib.hid hx; clear hoz hfz) | (go_at_call 22; (with_reducible refine (eqNetwork_same (Ox0_14.out.read.ext (Hd.out.trans' HXZ.out)) OZ.out).mono ?_); rintro e wb0 ⟨rfl, hy⟩))
              rename_i hh
              have HY := hh.2.2.2.2.2.2
              clear hh hx hy HXZ OZ
              clear c460 c461 c462 c470 c471 c472
              clear Hd
              have Z11 := Lib.hid (show w10.heap.size ≤ wb0.heap.size from by have := HY.out.size; simpa using this)
              have K0_15 := Lib.hid (K0_14.out.trans' HY.out)
              have Rp0_15 := Lib.hid (row_ext Rp0_14.out HY.out)
              have Rp1_15 := Lib.hid (row_ext Rp1_14.out HY.out)
              have Rp2_15 := Lib.hid (row_ext Rp2_14.out HY.out)
              have Rx0_15 := Lib.hid (row_ext Rx0_14.out HY.out)
              have Rx1_15 := Lib.hid (row_ext Rx1_14.out HY.out)
              have Rx2_15 := Lib.hid (row_ext Rx2_14.out HY.out)
              have Ow_15 := Lib.hid (Ow_14.out.ext HY.out)
              have Ox0_15 := Lib.hid (Ox0_14.out.ext HY.out)
              have Ox1_15 := Lib.hid (Ox1_14.out.ext HY.out)
              have Ox2_15 := Lib.hid (Ox2_14.out.ext HY.out)
              have Ox3_15 := Lib.hid (Ox3_14.out.ext HY.out)
              have Ox4_15 := Lib.hid (Ox4_14.out.ext HY.out)
              have Og_15 := Lib.hid (Og_14.out.ext HY.out)
              clear HY
              obtain ⟨c480, c481, c482, -, -, -⟩ := row3_facts Rp1_15.out
              obtain ⟨c490, c491, c492, -, -, -⟩ := row3_facts Rx1_15.out
              go_wp2_with fail
              have Hd := Lib.hid (Ext.rfl' wb0).drew'
              go_region_held3 (fun w' => w'.cell? ⟨(w.heap.size + 1), 0, none⟩ = some v10 ∧ w'.cell? ⟨(w.heap.size + 1), 1, none⟩ = some v11 ∧ w'.cell? ⟨(w.heap.size + 1), 2, none⟩ = some v12 ∧ w'.cell? ⟨w5.heap.size, 0, none⟩ = some (.slice x1a0 N1.ends.length x1c0) ∧ w'.cell? ⟨w5.heap.size, 1, none⟩ = some (.slice x1a1 N1.ids.length x1c1) ∧ w'.cell? ⟨w5.heap.size, 2, none⟩ = some (.slice x1a2 N1.inputs.length x1c2) ∧ Hid (Ext wb0 w')) (first | exact ⟨c480, c481, c482, c490, c491, c492, Hd⟩ | exact ⟨hx.cell' (Hd.out.cell' c480), hx.cell' (Hd.out.cell' c481), hx.cell' (Hd.out.cell' c482), hx.cell' (Hd.out.cell' c490), hx.cell' (Hd.out.cell' c491), hx.cell' (Hd.out.cell' c492), Hd.out.trans' hx⟩ | exact ⟨hy.cell' (hx.cell' (Hd.out.cell' c480)), hy.cell' (hx.cell' (Hd.out.cell' c481)), hy.cell' (hx.cell' (Hd.out.cell' c482)), hy.cell' (hx.cell' (Hd.out.cell' c490)), hy.cell' (hx.cell' (Hd.out.cell' c491)), hy.cell' (hx.cell' (Hd.out.cell' c492)), (Hd.out.trans' hx).trans' hy⟩)
                (first | (go_at_call 20; (with_reducible refine (toNetwork_own (HN1.out.ext (K0_15.out.trans' Hd.out)) hs1.out).mono ?_); rintro e wa1 ⟨z, bz, rfl, hx, hoz, hfz⟩; have OZ := Lib.hid hoz.read; have HXZ := Lib.hid hx; clear hoz hfz) | (go_at_call 22; (with_reducible refine (eqNetwork_same (Ox1_15.out.read.ext (Hd.out.trans' HXZ.out)) OZ.out).mono ?_); rintro e wb1 ⟨rfl, hy⟩))
              rename_i hh
              have HY := hh.2.2.2.2.2.2
              clear hh hx hy HXZ OZ
              clear c480 c481 c482 c490 c491 c492
              clear Hd
              have Z12 := Lib.hid (show wb0.heap.size ≤ wb1.heap.size from by have := HY.out.size; simpa using this)
              have K0_16 := Lib.hid (K0_15.out.trans' HY.out)
              have Rp0_16 := Lib.hid (row_ext Rp0_15.out HY.out)
              have Rp1_16 := Lib.hid (row_ext Rp1_15.out HY.out)
              have Rp2_16 := Lib.hid (row_ext Rp2_15.out HY.out)
              have Rx0_16 := Lib.hid (row_ext Rx0_15.out HY.out)
              have Rx1_16 := Lib.hid (row_ext Rx1_15.out HY.out)
              have Rx2_16 := Lib.hid (row_ext Rx2_15.out HY.out)
              have Ow_16 := Lib.hid (Ow_15.out.ext HY.out)
              have Ox0_16 := Lib.hid (Ox0_15.out.ext HY.out)
              have Ox1_16 := Lib.hid (Ox1_15.out.ext HY.out)
              have Ox2_16 := Lib.hid (Ox2_15.out.ext HY.out)
              have Ox3_16 := Lib.hid (Ox3_15.out.ext HY.out)
              have Ox4_16 := Lib.hid (Ox4_15.out.ext HY.out)
              have Og_16 := Lib.hid (Og_15.out.ext HY.out)
              clear HY
              obtain ⟨c500, c501, c502, -, -, -⟩ := row3_facts Rp2_16.out
              obtain ⟨c510, c511, c512, -, -, -⟩ := row3_facts Rx2_16.out
              go_wp2_with fail
              have Hd := Lib.hid (Ext.rfl' wb1).drew'
              go_region_held3 (fun w' => w'.cell? ⟨(w.heap.size + 2), 0, none⟩ = some v20 ∧ w'.cell? ⟨(w.heap.size + 2), 1, none⟩ = some v21 ∧ w'.cell? ⟨(w.heap.size + 2), 2, none⟩ = some v22 ∧ w'.cell? ⟨w6.heap.size, 0, none⟩ = some (.slice x2a0 N2.ends.length x2c0) ∧ w'.cell? ⟨w6.heap.size, 1, none⟩ = some (.slice x2a1 N2.ids.length x2c1) ∧ w'.cell? ⟨w6.heap.size, 2, none⟩ = some (.slice x2a2 N2.inputs.length x2c2) ∧ Hid (Ext wb1 w')) (first | exact ⟨c500, c501, c502, c510, c511, c512, Hd⟩ | exact ⟨hx.cell' (Hd.out.cell' c500), hx.cell' (Hd.out.cell' c501), hx.cell' (Hd.out.cell' c502), hx.cell' (Hd.out.cell' c510), hx.cell' (Hd.out.cell' c511), hx.cell' (Hd.out.cell' c512), Hd.out.trans' hx⟩ | exact ⟨hy.cell' (hx.cell' (Hd.out.cell' c500)), hy.cell' (hx.cell' (Hd.out.cell' c501)), hy.cell' (hx.cell' (Hd.out.cell' c502)), hy.cell' (hx.cell' (Hd.out.cell' c510)), hy.cell' (hx.cell' (Hd.out.cell' c511)), hy.cell' (hx.cell' (Hd.out.cell' c512)), (Hd.out.trans' hx).trans' hy⟩)
                (first | (go_at_call 20; (with_reducible refine (toNetwork_own (HN2.out.ext (K0_16.out.trans' Hd.out)) hs2.out).mono ?_); rintro e wa2 ⟨z, bz, rfl, hx, hoz, hfz⟩; have OZ := Lib.hid hoz.read; have HXZ := Lib.hid hx; clear hoz hfz) | (go_at_call 22; (with_reducible refine (eqNetwork_same (Ox2_16.out.read.ext (Hd.out.trans' HXZ.out)) OZ.out).mono ?_); rintro e wb2 ⟨rfl, hy⟩))
              rename_i hh
              have HY := hh.2.2.2.2.2.2
              clear hh hx hy HXZ OZ
              clear c500 c501 c502 c510 c511 c512
              clear Hd
              have Z13 := Lib.hid (show wb1.heap.size ≤ wb2.heap.size from by have := HY.out.size; simpa using this)
              have K0_17 := Lib.hid (K0_16.out.trans' HY.out)
              have Rp0_17 := Lib.hid (row_ext Rp0_16.out HY.out)
              have Rp1_17 := Lib.hid (row_ext Rp1_16.out HY.out)
              have Rp2_17 := Lib.hid (row_ext Rp2_16.out HY.out)
              have Rx0_17 := Lib.hid (row_ext Rx0_16.out HY.out)
              have Rx1_17 := Lib.hid (row_ext Rx1_16.out HY.out)
              have Rx2_17 := Lib.hid (row_ext Rx2_16.out HY.out)
              have Ow_17 := Lib.hid (Ow_16.out.ext HY.out)
              have Ox0_17 := Lib.hid (Ox0_16.out.ext HY.out)
              have Ox1_17 := Lib.hid (Ox1_16.out.ext HY.out)
              have Ox2_17 := Lib.hid (Ox2_16.out.ext HY.out)
              have Ox3_17 := Lib.hid (Ox3_16.out.ext HY.out)
              have Ox4_17 := Lib.hid (Ox4_16.out.ext HY.out)
              have Og_17 := Lib.hid (Og_16.out.ext HY.out)
              clear HY
              go_wp2_with fail
              (with_reducible refine (toIntS_own (HN3.out.ext K0_17.out) hg3).mono ?_)
              rintro e w11 ⟨z3a, z3c, bz3, rfl, hw, ho, hf⟩
              have Z14 := Lib.hid (show wb2.heap.size ≤ w11.heap.size from by have := hw.size; simpa using this)
              have K0_18 := Lib.hid (K0_17.out.trans' hw)
              have Rp0_18 := Lib.hid (row_ext Rp0_17.out hw)
              have Rp1_18 := Lib.hid (row_ext Rp1_17.out hw)
              have Rp2_18 := Lib.hid (row_ext Rp2_17.out hw)
              have Rx0_18 := Lib.hid (row_ext Rx0_17.out hw)
              have Rx1_18 := Lib.hid (row_ext Rx1_17.out hw)
              have Rx2_18 := Lib.hid (row_ext Rx2_17.out hw)
              have Ow_18 := Lib.hid (Ow_17.out.ext hw)
              have Ox0_18 := Lib.hid (Ox0_17.out.ext hw)
              have Ox1_18 := Lib.hid (Ox1_17.out.ext hw)
              have Ox2_18 := Lib.hid (Ox2_17.out.ext hw)
              have Ox3_18 := Lib.hid (Ox3_17.out.ext hw)
              have Ox4_18 := Lib.hid (Ox4_17.out.ext hw)
              have Og_18 := Lib.hid (Og_17.out.ext hw)
              have Oz3_18 := Lib.hid ho.read
              clear hw ho hf
              obtain ⟨c520, c521, c522, -, -, -⟩ := row3_facts Rp0_18.out
              obtain ⟨c530, c531, c532, -, -, -⟩ := row3_facts Rp1_18.out
              obtain ⟨c540, c541, c542, -, -, -⟩ := row3_facts Rp2_18.out
              clear c520 c521 c522 c530 c531 c532 c540 c541 c542
              go_wp2_with fail
              (with_reducible refine (eqIntS_same Ox3_18.out.read Oz3_18.out).mono ?_)
              rintro e w12 ⟨rfl, hw⟩
              have Z15 := Lib.hid (show w11.heap.size ≤ w12.heap.size from by have := hw.size; simpa using this)
              have K0_19 := Lib.hid (K0_18.out.trans' hw)
              have Rp0_19 := Lib.hid (row_ext Rp0_18.out hw)
              have Rp1_19 := Lib.hid (row_ext Rp1_18.out hw)
              have Rp2_19 := Lib.hid (row_ext Rp2_18.out hw)
              have Rx0_19 := Lib.hid (row_ext Rx0_18.out hw)
              have Rx1_19 := Lib.hid (row_ext Rx1_18.out hw)
              have Rx2_19 := Lib.hid (row_ext Rx2_18.out hw)
              have Ow_19 := Lib.hid (Ow_18.out.ext hw)
              have Ox0_19 := Lib.hid (Ox0_18.out.ext hw)
              have Ox1_19 := Lib.hid (Ox1_18.out.ext hw)
              have Ox2_19 := Lib.hid (Ox2_18.out.ext hw)
              have Ox3_19 := Lib.hid (Ox3_18.out.ext hw)
              have Ox4_19 := Lib.hid (Ox4_18.out.ext hw)
              have Og_19 := Lib.hid (Og_18.out.ext hw)
              have Oz3_19 := Lib.hid (Oz3_18.out.ext hw)
              clear hw
              go_wp2_with fail
              (with_reducible refine (toIntS_own (HN4.out.ext K0_19.out) hg4).mono ?_)
              rintro e w13 ⟨z4a, z4c, bz4, rfl, hw, ho, hf⟩
              have Z16 := Lib.hid (show w12.heap.size ≤ w13.heap.size from by have := hw.size; simpa using this)
              have K0_20 := Lib.hid (K0_19.out.trans' hw)
              have Rp0_20 := Lib.hid (row_ext Rp0_19.out hw)
              have Rp1_20 := Lib.hid (row_ext Rp1_19.out hw)
              have Rp2_20 := Lib.hid (row_ext Rp2_19.out hw)
              have Rx0_20 := Lib.hid (row_ext Rx0_19.out hw)
              have Rx1_20 := Lib.hid (row_ext Rx1_19.out hw)
              have Rx2_20 := Lib.hid (row_ext Rx2_19.out hw)
              have Ow_20 := Lib.hid (Ow_19.out.ext hw)
              have Ox0_20 := Lib.hid (Ox0_19.out.ext hw)
              have Ox1_20 := Lib.hid (Ox1_19.out.ext hw)
              have Ox2_20 := Lib.hid (Ox2_19.out.ext hw)
              have Ox3_20 := Lib.hid (Ox3_19.out.ext hw)
              have Ox4_20 := Lib.hid (Ox4_19.out.ext hw)
              have Og_20 := Lib.hid (Og_19.out.ext hw)
              have Oz4_20 := Lib.hid ho.read
              clear hw ho hf
              obtain ⟨c550, c551, c552, -, -, -⟩ := row3_facts Rp0_20.out
              obtain ⟨c560, c561, c562, -, -, -⟩ := row3_facts Rp1_20.out
              obtain ⟨c570, c571, c572, -, -, -⟩ := row3_facts Rp2_20.out
              clear c550 c551 c552 c560 c561 c562 c570 c571 c572
              go_wp2_with fail
              (with_reducible refine (eqIntS_same Ox4_20.out.read Oz4_20.out).mono ?_)
              rintro e w14 ⟨rfl, hw⟩
              have Z17 := Lib.hid (show w13.heap.size ≤ w14.heap.size from by have := hw.size; simpa using this)
              have K0_21 := Lib.hid (K0_20.out.trans' hw)
              have Rp0_21 := Lib.hid (row_ext Rp0_20.out hw)
              have Rp1_21 := Lib.hid (row_ext Rp1_20.out hw)
              have Rp2_21 := Lib.hid (row_ext Rp2_20.out hw)
              have Rx0_21 := Lib.hid (row_ext Rx0_20.out hw)
              have Rx1_21 := Lib.hid (row_ext Rx1_20.out hw)
              have Rx2_21 := Lib.hid (row_ext Rx2_20.out hw)
              have Ow_21 := Lib.hid (Ow_20.out.ext hw)
              have Ox0_21 := Lib.hid (Ox0_20.out.ext hw)
              have Ox1_21 := Lib.hid (Ox1_20.out.ext hw)
              have Ox2_21 := Lib.hid (Ox2_20.out.ext hw)
              have Ox3_21 := Lib.hid (Ox3_20.out.ext hw)
              have Ox4_21 := Lib.hid (Ox4_20.out.ext hw)
              have Og_21 := Lib.hid (Og_20.out.ext hw)
              have Oz4_21 := Lib.hid (Oz4_20.out.ext hw)
              clear hw
              obtain ⟨c580, c581, c582, -, -, -⟩ := row3_facts Rx0_21.out
              go_wp2_with fail
              (with_reducible refine (markNetwork_own Ox0_21.out NDx0.out hs0.out).mono ?_)
              obtain ⟨hq00, hq01⟩ := netLast_bound hs0.out
              rintro e w15 ⟨rfl, hc, hm⟩
              have Z18 := Lib.hid (show w14.heap.size ≤ w15.heap.size from by have := hc.size; simpa using this)
              have K0_22 := Lib.hid (Chg.ext K0_21.out hc fun b hb => by have := LOx0.out b hb; have := Z0.out; have := Z1.out; have := Z2.out; have := Z3.out; have := Z4.out; have := Z5.out; have := Z6.out; have := Z7.out; have := Z8.out; have := Z9.out; have := Z10.out; have := Z11.out; have := Z12.out; have := Z13.out; have := Z14.out; have := Z15.out; have := Z16.out; have := Z17.out; have := Z18.out; omega)
              have Rp0_22 := Lib.hid (Rp0_21.out.of_block (hc.block _ Rp0_21.out.lt fun hb => by have := LOx0.out _ hb; have := HIx0.out _ hb; have := Z0.out; have := Z1.out; have := Z2.out; have := Z3.out; have := Z4.out; have := Z5.out; have := Z6.out; have := Z7.out; have := Z8.out; have := Z9.out; have := Z10.out; have := Z11.out; have := Z12.out; have := Z13.out; have := Z14.out; have := Z15.out; have := Z16.out; have := Z17.out; have := Z18.out; omega))
              have Rp1_22 := Lib.hid (Rp1_21.out.of_block (hc.block _ Rp1_21.out.lt fun hb => by have := LOx0.out _ hb; have := HIx0.out _ hb; have := Z0.out; have := Z1.out; have := Z2.out; have := Z3.out; have := Z4.out; have := Z5.out; have := Z6.out; have := Z7.out; have := Z8.out; have := Z9.out; have := Z10.out; have := Z11.out; have := Z12.out; have := Z13.out; have := Z14.out; have := Z15.out; have := Z16.out; have := Z17.out; have := Z18.out; omega))
              have Rp2_22 := Lib.hid (Rp2_21.out.of_block (hc.block _ Rp2_21.out.lt fun hb => by have := LOx0.out _ hb; have := HIx0.out _ hb; have := Z0.out; have := Z1.out; have := Z2.out; have := Z3.out; have := Z4.out; have := Z5.out; have := Z6.out; have := Z7.out; have := Z8.out; have := Z9.out; have := Z10.out; have := Z11.out; have := Z12.out; have := Z13.out; have := Z14.out; have := Z15.out; have := Z16.out; have := Z17.out; have := Z18.out; omega))
              have Rx0_22 := Lib.hid (Rx0_21.out.of_block (hc.block _ Rx0_21.out.lt fun hb => by have := LOx0.out _ hb; have := HIx0.out _ hb; have := Z0.out; have := Z1.out; have := Z2.out; have := Z3.out; have := Z4.out; have := Z5.out; have := Z6.out; have := Z7.out; have := Z8.out; have := Z9.out; have := Z10.out; have := Z11.out; have := Z12.out; have := Z13.out; have := Z14.out; have := Z15.out; have := Z16.out; have := Z17.out; have := Z18.out; omega))
              have Rx1_22 := Lib.hid (Rx1_21.out.of_block (hc.block _ Rx1_21.out.lt fun hb => by have := LOx0.out _ hb; have := HIx0.out _ hb; have := Z0.out; have := Z1.out; have := Z2.out; have := Z3.out; have := Z4.out; have := Z5.out; have := Z6.out; have := Z7.out; have := Z8.out; have := Z9.out; have := Z10.out; have := Z11.out; have := Z12.out; have := Z13.out; have := Z14.out; have := Z15.out; have := Z16.out; have := Z17.out; have := Z18.out; omega))
              have Rx2_22 := Lib.hid (Rx2_21.out.of_block (hc.block _ Rx2_21.out.lt fun hb => by have := LOx0.out _ hb; have := HIx0.out _ hb; have := Z0.out; have := Z1.out; have := Z2.out; have := Z3.out; have := Z4.out; have := Z5.out; have := Z6.out; have := Z7.out; have := Z8.out; have := Z9.out; have := Z10.out; have := Z11.out; have := Z12.out; have := Z13.out; have := Z14.out; have := Z15.out; have := Z16.out; have := Z17.out; have := Z18.out; omega))
              have Ow_22 := Lib.hid (Ow_21.out.keep fun b hb => hc.block b (Ow_21.out.1.lt b hb) fun hb' => by have := LOx0.out b hb'; have := HIx0.out b hb'; have := LOw.out b hb; have := HIw.out b hb; have := Z0.out; have := Z1.out; have := Z2.out; have := Z3.out; have := Z4.out; have := Z5.out; have := Z6.out; have := Z7.out; have := Z8.out; have := Z9.out; have := Z10.out; have := Z11.out; have := Z12.out; have := Z13.out; have := Z14.out; have := Z15.out; have := Z16.out; have := Z17.out; have := Z18.out; omega)
              have Ox1_22 := Lib.hid (Ox1_21.out.keep fun b hb => hc.block b (Ox1_21.out.lt b hb) fun hb' => by have := LOx0.out b hb'; have := HIx0.out b hb'; have := LOx1.out b hb; have := HIx1.out b hb; have := Z0.out; have := Z1.out; have := Z2.out; have := Z3.out; have := Z4.out; have := Z5.out; have := Z6.out; have := Z7.out; have := Z8.out; have := Z9.out; have := Z10.out; have := Z11.out; have := Z12.out; have := Z13.out; have := Z14.out; have := Z15.out; have := Z16.out; have := Z17.out; have := Z18.out; omega)
              have Ox2_22 := Lib.hid (Ox2_21.out.keep fun b hb => hc.block b (Ox2_21.out.lt b hb) fun hb' => by have := LOx0.out b hb'; have := HIx0.out b hb'; have := LOx2.out b hb; have := HIx2.out b hb; have := Z0.out; have := Z1.out; have := Z2.out; have := Z3.out; have := Z4.out; have := Z5.out; have := Z6.out; have := Z7.out; have := Z8.out; have := Z9.out; have := Z10.out; have := Z11.out; have := Z12.out; have := Z13.out; have := Z14.out; have := Z15.out; have := Z16.out; have := Z17.out; have := Z18.out; omega)
              have Ox3_22 := Lib.hid (Ox3_21.out.keep fun b hb => hc.block b (Ox3_21.out.1.lt b hb) fun hb' => by have := LOx0.out b hb'; have := HIx0.out b hb'; have := LOx3.out b hb; have := HIx3.out b hb; have := Z0.out; have := Z1.out; have := Z2.out; have := Z3.out; have := Z4.out; have := Z5.out; have := Z6.out; have := Z7.out; have := Z8.out; have := Z9.out; have := Z10.out; have := Z11.out; have := Z12.out; have := Z13.out; have := Z14.out; have := Z15.out; have := Z16.out; have := Z17.out; have := Z18.out; omega)
              have Ox4_22 := Lib.hid (Ox4_21.out.keep fun b hb => hc.block b (Ox4_21.out.1.lt b hb) fun hb' => by have := LOx0.out b hb'; have := HIx0.out b hb'; have := LOx4.out b hb; have := HIx4.out b hb; have := Z0.out; have := Z1.out; have := Z2.out; have := Z3.out; have := Z4.out; have := Z5.out; have := Z6.out; have := Z7.out; have := Z8.out; have := Z9.out; have := Z10.out; have := Z11.out; have := Z12.out; have := Z13.out; have := Z14.out; have := Z15.out; have := Z16.out; have := Z17.out; have := Z18.out; omega)
              have Og_22 := Lib.hid (Og_21.out.keep fun b hb => hc.block b (Og_21.out.1.lt b hb) fun hb' => by have := LOx0.out b hb'; have := HIx0.out b hb'; have := LOg.out b hb; have := HIg.out b hb; have := Z0.out; have := Z1.out; have := Z2.out; have := Z3.out; have := Z4.out; have := Z5.out; have := Z6.out; have := Z7.out; have := Z8.out; have := Z9.out; have := Z10.out; have := Z11.out; have := Z12.out; have := Z13.out; have := Z14.out; have := Z15.out; have := Z16.out; have := Z17.out; have := Z18.out; omega)
              clear hc hm
              clear c580 c581 c582
              obtain ⟨c590, c591, c592, -, -, -⟩ := row3_facts Rx1_22.out
              go_wp2_with fail
              (with_reducible refine (markNetwork_at _ Ox1_22.out NDx1.out hs1.out (by omega) (by omega)).mono ?_)
              obtain ⟨hq10, hq11⟩ := netLast_bound hs1.out
              rintro e w16 ⟨rm1, rfl, hrm0, hrm1, hc⟩
              have Z19 := Lib.hid (show w15.heap.size ≤ w16.heap.size from by have := hc.size; simpa using this)
              have K0_23 := Lib.hid (Chg.ext K0_22.out hc fun b hb => by have := LOx1.out b hb; have := Z0.out; have := Z1.out; have := Z2.out; have := Z3.out; have := Z4.out; have := Z5.out; have := Z6.out; have := Z7.out; have := Z8.out; have := Z9.out; have := Z10.out; have := Z11.out; have := Z12.out; have := Z13.out; have := Z14.out; have := Z15.out; have := Z16.out; have := Z17.out; have := Z18.out; have := Z19.out; omega)
              have Rp0_23 := Lib.hid (Rp0_22.out.of_block (hc.block _ Rp0_22.out.lt fun hb => by have := LOx1.out _ hb; have := HIx1.out _ hb; have := Z0.out; have := Z1.out; have := Z2.out; have := Z3.out; have := Z4.out; have := Z5.out; have := Z6.out; have := Z7.out; have := Z8.out; have := Z9.out; have := Z10.out; have := Z11.out; have := Z12.out; have := Z13.out; have := Z14.out; have := Z15.out; have := Z16.out; have := Z17.out; have := Z18.out; have := Z19.out; omega))
              have Rp1_23 := Lib.hid (Rp1_22.out.of_block (hc.block _ Rp1_22.out.lt fun hb => by have := LOx1.out _ hb; have := HIx1.out _ hb; have := Z0.out; have := Z1.out; have := Z2.out; have := Z3.out; have := Z4.out; have := Z5.out; have := Z6.out; have := Z7.out; have := Z8.out; have := Z9.out; have := Z10.out; have := Z11.out; have := Z12.out; have := Z13.out; have := Z14.out; have := Z15.out; have := Z16.out; have := Z17.out; have := Z18.out; have := Z19.out; omega))
              have Rp2_23 := Lib.hid (Rp2_22.out.of_block (hc.block _ Rp2_22.out.lt fun hb => by have := LOx1.out _ hb; have := HIx1.out _ hb; have := Z0.out; have := Z1.out; have := Z2.out; have := Z3.out; have := Z4.out; have := Z5.out; have := Z6.out; have := Z7.out; have := Z8.out; have := Z9.out; have := Z10.out; have := Z11.out; have := Z12.out; have := Z13.out; have := Z14.out; have := Z15.out; have := Z16.out; have := Z17.out; have := Z18.out; have := Z19.out; omega))
              have Rx1_23 := Lib.hid (Rx1_22.out.of_block (hc.block _ Rx1_22.out.lt fun hb => by have := LOx1.out _ hb; have := HIx1.out _ hb; have := Z0.out; have := Z1.out; have := Z2.out; have := Z3.out; have := Z4.out; have := Z5.out; have := Z6.out; have := Z7.out; have := Z8.out; have := Z9.out; have := Z10.out; have := Z11.out; have := Z12.out; have := Z13.out; have := Z14.out; have := Z15.out; have := Z16.out; have := Z17.out; have := Z18.out; have := Z19.out; omega))
              have Rx2_23 := Lib.hid (Rx2_22.out.of_block (hc.block _ Rx2_22.out.lt fun hb => by have := LOx1.out _ hb; have := HIx1.out _ hb; have := Z0.out; have := Z1.out; have := Z2.out; have := Z3.out; have := Z4.out; have := Z5.out; have := Z6.out; have := Z7.out; have := Z8.out; have := Z9.out; have := Z10.out; have := Z11.out; have := Z12.out; have := Z13.out; have := Z14.out; have := Z15.out; have := Z16.out; have := Z17.out; have := Z18.out; have := Z19.out; omega))
              have Ow_23 := Lib.hid (Ow_22.out.keep fun b hb => hc.block b (Ow_22.out.1.lt b hb) fun hb' => by have := LOx1.out b hb'; have := HIx1.out b hb'; have := LOw.out b hb; have := HIw.out b hb; have := Z0.out; have := Z1.out; have := Z2.out; have := Z3.out; have := Z4.out; have := Z5.out; have := Z6.out; have := Z7.out; have := Z8.out; have := Z9.out; have := Z10.out; have := Z11.out; have := Z12.out; have := Z13.out; have := Z14.out; have := Z15.out; have := Z16.out; have := Z17.out; have := Z18.out; have := Z19.out; omega)
              have Ox2_23 := Lib.hid (Ox2_22.out.keep fun b hb => hc.block b (Ox2_22.out.lt b hb) fun hb' => by have := LOx1.out b hb'; have := HIx1.out b hb'; have := LOx2.out b hb; have := HIx2.out b hb; have := Z0.out; have := Z1.out; have := Z2.out; have := Z3.out; have := Z4.out; have := Z5.out; have := Z6.out; have := Z7.out; have := Z8.out; have := Z9.out; have := Z10.out; have := Z11.out; have := Z12.out; have := Z13.out; have := Z14.out; have := Z15.out; have := Z16.out; have := Z17.out; have := Z18.out; have := Z19.out; omega)
              have Ox3_23 := Lib.hid (Ox3_22.out.keep fun b hb => hc.block b (Ox3_22.out.1.lt b hb) fun hb' => by have := LOx1.out b hb'; have := HIx1.out b hb'; have := LOx3.out b hb; have := HIx3.out b hb; have := Z0.out; have := Z1.out; have := Z2.out; have := Z3.out; have := Z4.out; have := Z5.out; have := Z6.out; have := Z7.out; have := Z8.out; have := Z9.out; have := Z10.out; have := Z11.out; have := Z12.out; have := Z13.out; have := Z14.out; have := Z15.out; have := Z16.out; have := Z17.out; have := Z18.out; have := Z19.out; omega)
              have Ox4_23 := Lib.hid (Ox4_22.out.keep fun b hb => hc.block b (Ox4_22.out.1.lt b hb) fun hb' => by have := LOx1.out b hb'; have := HIx1.out b hb'; have := LOx4.out b hb; have := HIx4.out b hb; have := Z0.out; have := Z1.out; have := Z2.out; have := Z3.out; have := Z4.out; have := Z5.out; have := Z6.out; have := Z7.out; have := Z8.out; have := Z9.out; have := Z10.out; have := Z11.out; have := Z12.out; have := Z13.out; have := Z14.out; have := Z15.out; have := Z16.out; have := Z17.out; have := Z18.out; have := Z19.out; omega)
              have Og_23 := Lib.hid (Og_22.out.keep fun b hb => hc.block b (Og_22.out.1.lt b hb) fun hb' => by have := LOx1.out b hb'; have := HIx1.out b hb'; have := LOg.out b hb; have := HIg.out b hb; have := Z0.out; have := Z1.out; have := Z2.out; have := Z3.out; have := Z4.out; have := Z5.out; have := Z6.out; have := Z7.out; have := Z8.out; have := Z9.out; have := Z10.out; have := Z11.out; have := Z12.out; have := Z13.out; have := Z14.out; have := Z15.out; have := Z16.out; have := Z17.out; have := Z18.out; have := Z19.out; omega)
              clear hc
              clear c590 c591 c592
              obtain ⟨c600, c601, c602, -, -, -⟩ := row3_facts Rx2_23.out
              go_wp2_with fail
              (with_reducible refine (markNetwork_at _ Ox2_23.out NDx2.out hs2.out (by omega) (by omega)).mono ?_)
              obtain ⟨hq20, hq21⟩ := netLast_bound hs2.out
              rintro e w17 ⟨rm2, rfl, hrm0, hrm1, hc⟩
              have Z20 := Lib.hid (show w16.heap.size ≤ w17.heap.size from by have := hc.size; simpa using this)
              have K0_24 := Lib.hid (Chg.ext K0_23.out hc fun b hb => by have := LOx2.out b hb; have := Z0.out; have := Z1.out; have := Z2.out; have := Z3.out; have := Z4.out; have := Z5.out; have := Z6.out; have := Z7.out; have := Z8.out; have := Z9.out; have := Z10.out; have := Z11.out; have := Z12.out; have := Z13.out; have := Z14.out; have := Z15.out; have := Z16.out; have := Z17.out; have := Z18.out; have := Z19.out; have := Z20.out; omega)
              have Rp0_24 := Lib.hid (Rp0_23.out.of_block (hc.block _ Rp0_23.out.lt fun hb => by have := LOx2.out _ hb; have := HIx2.out _ hb; have := Z0.out; have := Z1.out; have := Z2.out; have := Z3.out; have := Z4.out; have := Z5.out; have := Z6.out; have := Z7.out; have := Z8.out; have := Z9.out; have := Z10.out; have := Z11.out; have := Z12.out; have := Z13.out; have := Z14.out; have := Z15.out; have := Z16.out; have := Z17.out; have := Z18.out; have := Z19.out; have := Z20.out; omega))
              have Rp1_24 := Lib.hid (Rp1_23.out.of_block (hc.block _ Rp1_23.out.lt fun hb => by have := LOx2.out _ hb; have := HIx2.out _ hb; have := Z0.out; have := Z1.out; have := Z2.out; have := Z3.out; have := Z4.out; have := Z5.out; have := Z6.out; have := Z7.out; have := Z8.out; have := Z9.out; have := Z10.out; have := Z11.out; have := Z12.out; have := Z13.out; have := Z14.out; have := Z15.out; have := Z16.out; have := Z17.out; have := Z18.out; have := Z19.out; have := Z20.out; omega))
              have Rp2_24 := Lib.hid (Rp2_23.out.of_block (hc.block _ Rp2_23.out.lt fun hb => by have := LOx2.out _ hb; have := HIx2.out _ hb; have := Z0.out; have := Z1.out; have := Z2.out; have := Z3.out; have := Z4.out; have := Z5.out; have := Z6.out; have := Z7.out; have := Z8.out; have := Z9.out; have := Z10.out; have := Z11.out; have := Z12.out; have := Z13.out; have := Z14.out; have := Z15.out; have := Z16.out; have := Z17.out; have := Z18.out; have := Z19.out; have := Z20.out; omega))
              have Rx2_24 := Lib.hid (Rx2_23.out.of_block (hc.block _ Rx2_23.out.lt fun hb => by have := LOx2.out _ hb; have := HIx2.out _ hb; have := Z0.out; have := Z1.out; have := Z2.out; have := Z3.out; have := Z4.out; have := Z5.out; have := Z6.out; have := Z7.out; have := Z8.out; have := Z9.out; have := Z10.out; have := Z11.out; have := Z12.out; have := Z13.out; have := Z14.out; have := Z15.out; have := Z16.out; have := Z17.out; have := Z18.out; have := Z19.out; have := Z20.out; omega))
              have Ow_24 := Lib.hid (Ow_23.out.keep fun b hb => hc.block b (Ow_23.out.1.lt b hb) fun hb' => by have := LOx2.out b hb'; have := HIx2.out b hb'; have := LOw.out b hb; have := HIw.out b hb; have := Z0.out; have := Z1.out; have := Z2.out; have := Z3.out; have := Z4.out; have := Z5.out; have := Z6.out; have := Z7.out; have := Z8.out; have := Z9.out; have := Z10.out; have := Z11.out; have := Z12.out; have := Z13.out; have := Z14.out; have := Z15.out; have := Z16.out; have := Z17.out; have := Z18.out; have := Z19.out; have := Z20.out; omega)
              have Ox3_24 := Lib.hid (Ox3_23.out.keep fun b hb => hc.block b (Ox3_23.out.1.lt b hb) fun hb' => by have := LOx2.out b hb'; have := HIx2.out b hb'; have := LOx3.out b hb; have := HIx3.out b hb; have := Z0.out; have := Z1.out; have := Z2.out; have := Z3.out; have := Z4.out; have := Z5.out; have := Z6.out; have := Z7.out; have := Z8.out; have := Z9.out; have := Z10.out; have := Z11.out; have := Z12.out; have := Z13.out; have := Z14.out; have := Z15.out; have := Z16.out; have := Z17.out; have := Z18.out; have := Z19.out; have := Z20.out; omega)
              have Ox4_24 := Lib.hid (Ox4_23.out.keep fun b hb => hc.block b (Ox4_23.out.1.lt b hb) fun hb' => by have := LOx2.out b hb'; have := HIx2.out b hb'; have := LOx4.out b hb; have := HIx4.out b hb; have := Z0.out; have := Z1.out; have := Z2.out; have := Z3.out; have := Z4.out; have := Z5.out; have := Z6.out; have := Z7.out; have := Z8.out; have := Z9.out; have := Z10.out; have := Z11.out; have := Z12.out; have := Z13.out; have := Z14.out; have := Z15.out; have := Z16.out; have := Z17.out; have := Z18.out; have := Z19.out; have := Z20.out; omega)
              have Og_24 := Lib.hid (Og_23.out.keep fun b hb => hc.block b (Og_23.out.1.lt b hb) fun hb' => by have := LOx2.out b hb'; have := HIx2.out b hb'; have := LOg.out b hb; have := HIg.out b hb; have := Z0.out; have := Z1.out; have := Z2.out; have := Z3.out; have := Z4.out; have := Z5.out; have := Z6.out; have := Z7.out; have := Z8.out; have := Z9.out; have := Z10.out; have := Z11.out; have := Z12.out; have := Z13.out; have := Z14.out; have := Z15.out; have := Z16.out; have := Z17.out; have := Z18.out; have := Z19.out; have := Z20.out; omega)
              clear hc
              clear c600 c601 c602
              go_wp2_with fail
              (with_reducible refine (markIntS_any _ Ox3_24.out hg3 (by omega) (by omega)).mono ?_)
              rintro e w18 ⟨rfl, hc, hm⟩
              have Z21 := Lib.hid (show w17.heap.size ≤ w18.heap.size from by have := hc.size; simpa using this)
              have K0_25 := Lib.hid (Chg.ext K0_24.out hc fun b hb => by have := LOx3.out b hb; have := Z0.out; have := Z1.out; have := Z2.out; have := Z3.out; have := Z4.out; have := Z5.out; have := Z6.out; have := Z7.out; have := Z8.out; have := Z9.out; have := Z10.out; have := Z11.out; have := Z12.out; have := Z13.out; have := Z14.out; have := Z15.out; have := Z16.out; have := Z17.out; have := Z18.out; have := Z19.out; have := Z20.out; have := Z21.out; omega)
              have Rp0_25 := Lib.hid (Rp0_24.out.of_block (hc.block _ Rp0_24.out.lt fun hb => by have := LOx3.out _ hb; have := HIx3.out _ hb; have := Z0.out; have := Z1.out; have := Z2.out; have := Z3.out; have := Z4.out; have := Z5.out; have := Z6.out; have := Z7.out; have := Z8.out; have := Z9.out; have := Z10.out; have := Z11.out; have := Z12.out; have := Z13.out; have := Z14.out; have := Z15.out; have := Z16.out; have := Z17.out; have := Z18.out; have := Z19.out; have := Z20.out; have := Z21.out; omega))
              have Rp1_25 := Lib.hid (Rp1_24.out.of_block (hc.block _ Rp1_24.out.lt fun hb => by have := LOx3.out _ hb; have := HIx3.out _ hb; have := Z0.out; have := Z1.out; have := Z2.out; have := Z3.out; have := Z4.out; have := Z5.out; have := Z6.out; have := Z7.out; have := Z8.out; have := Z9.out; have := Z10.out; have := Z11.out; have := Z12.out; have := Z13.out; have := Z14.out; have := Z15.out; have := Z16.out; have := Z17.out; have := Z18.out; have := Z19.out; have := Z20.out; have := Z21.out; omega))
              have Rp2_25 := Lib.hid (Rp2_24.out.of_block (hc.block _ Rp2_24.out.lt fun hb => by have := LOx3.out _ hb; have := HIx3.out _ hb; have := Z0.out; have := Z1.out; have := Z2.out; have := Z3.out; have := Z4.out; have := Z5.out; have := Z6.out; have := Z7.out; have := Z8.out; have := Z9.out; have := Z10.out; have := Z11.out; have := Z12.out; have := Z13.out; have := Z14.out; have := Z15.out; have := Z16.out; have := Z17.out; have := Z18.out; have := Z19.out; have := Z20.out; have := Z21.out; omega))
              have Ow_25 := Lib.hid (Ow_24.out.keep fun b hb => hc.block b (Ow_24.out.1.lt b hb) fun hb' => by have := LOx3.out b hb'; have := HIx3.out b hb'; have := LOw.out b hb; have := HIw.out b hb; have := Z0.out; have := Z1.out; have := Z2.out; have := Z3.out; have := Z4.out; have := Z5.out; have := Z6.out; have := Z7.out; have := Z8.out; have := Z9.out; have := Z10.out; have := Z11.out; have := Z12.out; have := Z13.out; have := Z14.out; have := Z15.out; have := Z16.out; have := Z17.out; have := Z18.out; have := Z19.out; have := Z20.out; have := Z21.out; omega)
              have Ox4_25 := Lib.hid (Ox4_24.out.keep fun b hb => hc.block b (Ox4_24.out.1.lt b hb) fun hb' => by have := LOx3.out b hb'; have := HIx3.out b hb'; have := LOx4.out b hb; have := HIx4.out b hb; have := Z0.out; have := Z1.out; have := Z2.out; have := Z3.out; have := Z4.out; have := Z5.out; have := Z6.out; have := Z7.out; have := Z8.out; have := Z9.out; have := Z10.out; have := Z11.out; have := Z12.out; have := Z13.out; have := Z14.out; have := Z15.out; have := Z16.out; have := Z17.out; have := Z18.out; have := Z19.out; have := Z20.out; have := Z21.out; omega)
              have Og_25 := Lib.hid (Og_24.out.keep fun b hb => hc.block b (Og_24.out.1.lt b hb) fun hb' => by have := LOx3.out b hb'; have := HIx3.out b hb'; have := LOg.out b hb; have := HIg.out b hb; have := Z0.out; have := Z1.out; have := Z2.out; have := Z3.out; have := Z4.out; have := Z5.out; have := Z6.out; have := Z7.out; have := Z8.out; have := Z9.out; have := Z10.out; have := Z11.out; have := Z12.out; have := Z13.out; have := Z14.out; have := Z15.out; have := Z16.out; have := Z17.out; have := Z18.out; have := Z19.out; have := Z20.out; have := Z21.out; omega)
              clear hc hm
              go_wp2_with fail
              (with_reducible refine (markIntS_any _ Ox4_25.out hg4 (by omega) (by omega)).mono ?_)
              rintro e w19 ⟨rfl, hc, hm⟩
              have Z22 := Lib.hid (show w18.heap.size ≤ w19.heap.size from by have := hc.size; simpa using this)
              have K0_26 := Lib.hid (Chg.ext K0_25.out hc fun b hb => by have := LOx4.out b hb; have := Z0.out; have := Z1.out; have := Z2.out; have := Z3.out; have := Z4.out; have := Z5.out; have := Z6.out; have := Z7.out; have := Z8.out; have := Z9.out; have := Z10.out; have := Z11.out; have := Z12.out; have := Z13.out; have := Z14.out; have := Z15.out; have := Z16.out; have := Z17.out; have := Z18.out; have := Z19.out; have := Z20.out; have := Z21.out; have := Z22.out; omega)
              have Rp0_26 := Lib.hid (Rp0_25.out.of_block (hc.block _ Rp0_25.out.lt fun hb => by have := LOx4.out _ hb; have := HIx4.out _ hb; have := Z0.out; have := Z1.out; have := Z2.out; have := Z3.out; have := Z4.out; have := Z5.out; have := Z6.out; have := Z7.out; have := Z8.out; have := Z9.out; have := Z10.out; have := Z11.out; have := Z12.out; have := Z13.out; have := Z14.out; have := Z15.out; have := Z16.out; have := Z17.out; have := Z18.out; have := Z19.out; have := Z20.out; have := Z21.out; have := Z22.out; omega))
              have Rp1_26 := Lib.hid (Rp1_25.out.of_block (hc.block _ Rp1_25.out.lt fun hb => by have := LOx4.out _ hb; have := HIx4.out _ hb; have := Z0.out; have := Z1.out; have := Z2.out; have := Z3.out; have := Z4.out; have := Z5.out; have := Z6.out; have := Z7.out; have := Z8.out; have := Z9.out; have := Z10.out; have := Z11.out; have := Z12.out; have := Z13.out; have := Z14.out; have := Z15.out; have := Z16.out; have := Z17.out; have := Z18.out; have := Z19.out; have := Z20.out; have := Z21.out; have := Z22.out; omega))
              have Rp2_26 := Lib.hid (Rp2_25.out.of_block (hc.block _ Rp2_25.out.lt fun hb => by have := LOx4.out _ hb; have := HIx4.out _ hb; have := Z0.out; have := Z1.out; have := Z2.out; have := Z3.out; have := Z4.out; have := Z5.out; have := Z6.out; have := Z7.out; have := Z8.out; have := Z9.out; have := Z10.out; have := Z11.out; have := Z12.out; have := Z13.out; have := Z14.out; have := Z15.out; have := Z16.out; have := Z17.out; have := Z18.out; have := Z19.out; have := Z20.out; have := Z21.out; have := Z22.out; omega))
              have Ow_26 := Lib.hid (Ow_25.out.keep fun b hb => hc.block b (Ow_25.out.1.lt b hb) fun hb' => by have := LOx4.out b hb'; have := HIx4.out b hb'; have := LOw.out b hb; have := HIw.out b hb; have := Z0.out; have := Z1.out; have := Z2.out; have := Z3.out; have := Z4.out; have := Z5.out; have := Z6.out; have := Z7.out; have := Z8.out; have := Z9.out; have := Z10.out; have := Z11.out; have := Z12.out; have := Z13.out; have := Z14.out; have := Z15.out; have := Z16.out; have := Z17.out; have := Z18.out; have := Z19.out; have := Z20.out; have := Z21.out; have := Z22.out; omega)
              have Og_26 := Lib.hid (Og_25.out.keep fun b hb => hc.block b (Og_25.out.1.lt b hb) fun hb' => by have := LOx4.out b hb'; have := HIx4.out b hb'; have := LOg.out b hb; have := HIg.out b hb; have := Z0.out; have := Z1.out; have := Z2.out; have := Z3.out; have := Z4.out; have := Z5.out; have := Z6.out; have := Z7.out; have := Z8.out; have := Z9.out; have := Z10.out; have := Z11.out; have := Z12.out; have := Z13.out; have := Z14.out; have := Z15.out; have := Z16.out; have := Z17.out; have := Z18.out; have := Z19.out; have := Z20.out; have := Z21.out; have := Z22.out; omega)
              clear hc hm
              go_wp2_with fail
              (with_reducible refine (eqIntS_same Og_26.out.read Ow_26.out.read).mono ?_)
              rintro e w20 ⟨rfl, hw⟩
              have Z23 := Lib.hid (show w19.heap.size ≤ w20.heap.size from by have := hw.size; simpa using this)
              have K0_27 := Lib.hid (K0_26.out.trans' hw)
              have Rp0_27 := Lib.hid (row_ext Rp0_26.out hw)
              have Rp1_27 := Lib.hid (row_ext Rp1_26.out hw)
              have Rp2_27 := Lib.hid (row_ext Rp2_26.out hw)
              have Ow_27 := Lib.hid (Ow_26.out.ext hw)
              have Og_27 := Lib.hid (Og_26.out.ext hw)
              clear hw
              go_wp2_with fail
              (with_reducible refine (markIntS_any _ Og_27.out hll (by omega) (by omega)).mono ?_)
              rintro e w21 ⟨rfl, hc, hm⟩
              have Z24 := Lib.hid (show w20.heap.size ≤ w21.heap.size from by have := hc.size; simpa using this)
              have K0_28 := Lib.hid (Chg.ext K0_27.out hc fun b hb => by have := LOg.out b hb; have := Z0.out; have := Z1.out; have := Z2.out; have := Z3.out; have := Z4.out; have := Z5.out; have := Z6.out; have := Z7.out; have := Z8.out; have := Z9.out; have := Z10.out; have := Z11.out; have := Z12.out; have := Z13.out; have := Z14.out; have := Z15.out; have := Z16.out; have := Z17.out; have := Z18.out; have := Z19.out; have := Z20.out; have := Z21.out; have := Z22.out; have := Z23.out; have := Z24.out; omega)
              have Rp0_28 := Lib.hid (Rp0_27.out.of_block (hc.block _ Rp0_27.out.lt fun hb => by have := LOg.out _ hb; have := HIg.out _ hb; have := Z0.out; have := Z1.out; have := Z2.out; have := Z3.out; have := Z4.out; have := Z5.out; have := Z6.out; have := Z7.out; have := Z8.out; have := Z9.out; have := Z10.out; have := Z11.out; have := Z12.out; have := Z13.out; have := Z14.out; have := Z15.out; have := Z16.out; have := Z17.out; have := Z18.out; have := Z19.out; have := Z20.out; have := Z21.out; have := Z22.out; have := Z23.out; have := Z24.out; omega))
              have Rp1_28 := Lib.hid (Rp1_27.out.of_block (hc.block _ Rp1_27.out.lt fun hb => by have := LOg.out _ hb; have := HIg.out _ hb; have := Z0.out; have := Z1.out; have := Z2.out; have := Z3.out; have := Z4.out; have := Z5.out; have := Z6.out; have := Z7.out; have := Z8.out; have := Z9.out; have := Z10.out; have := Z11.out; have := Z12.out; have := Z13.out; have := Z14.out; have := Z15.out; have := Z16.out; have := Z17.out; have := Z18.out; have := Z19.out; have := Z20.out; have := Z21.out; have := Z22.out; have := Z23.out; have := Z24.out; omega))
              have Rp2_28 := Lib.hid (Rp2_27.out.of_block (hc.block _ Rp2_27.out.lt fun hb => by have := LOg.out _ hb; have := HIg.out _ hb; have := Z0.out; have := Z1.out; have := Z2.out; have := Z3.out; have := Z4.out; have := Z5.out; have := Z6.out; have := Z7.out; have := Z8.out; have := Z9.out; have := Z10.out; have := Z11.out; have := Z12.out; have := Z13.out; have := Z14.out; have := Z15.out; have := Z16.out; have := Z17.out; have := Z18.out; have := Z19.out; have := Z20.out; have := Z21.out; have := Z22.out; have := Z23.out; have := Z24.out; omega))
              have Ow_28 := Lib.hid (Ow_27.out.keep fun b hb => hc.block b (Ow_27.out.1.lt b hb) fun hb' => by have := LOg.out b hb'; have := HIg.out b hb'; have := LOw.out b hb; have := HIw.out b hb; have := Z0.out; have := Z1.out; have := Z2.out; have := Z3.out; have := Z4.out; have := Z5.out; have := Z6.out; have := Z7.out; have := Z8.out; have := Z9.out; have := Z10.out; have := Z11.out; have := Z12.out; have := Z13.out; have := Z14.out; have := Z15.out; have := Z16.out; have := Z17.out; have := Z18.out; have := Z19.out; have := Z20.out; have := Z21.out; have := Z22.out; have := Z23.out; have := Z24.out; omega)
              have Og_28 := Lib.hid hm
              clear hc hm
              go_wp2_with fail
              (with_reducible refine (heldIntS_any _ _ Og_28.out.read hll (by omega) (by omega)).mono ?_)
              rintro e w22 ⟨rfl, rfl⟩
              obtain ⟨c610, c611, c612, -, -, -⟩ := row3_facts Rp0_28.out
              obtain ⟨c620, c621, c622, -, -, -⟩ := row3_facts Rp1_28.out
              obtain ⟨c630, c631, c632, -, -, -⟩ := row3_facts Rp2_28.out
              clear c610 c611 c612 c620 c621 c622 c630 c631 c632
              obtain ⟨c640, c641, c642, -, -, -⟩ := row3_facts Rp0_28.out
              obtain ⟨c650, c651, c652, -, -, -⟩ := row3_facts Rp1_28.out
              obtain ⟨c660, c661, c662, -, -, -⟩ := row3_facts Rp2_28.out
              have mkS : ∀ w' : World, Ext w21 w' → w'.cell? ⟨w.heap.size, 0, none⟩ = some v00 ∧ w'.cell? ⟨w.heap.size, 1, none⟩ = some v01 ∧ w'.cell? ⟨w.heap.size, 2, none⟩ = some v02 ∧ w'.cell? ⟨(w.heap.size + 1), 0, none⟩ = some v10 ∧ w'.cell? ⟨(w.heap.size + 1), 1, none⟩ = some v11 ∧ w'.cell? ⟨(w.heap.size + 1), 2, none⟩ = some v12 ∧ w'.cell? ⟨(w.heap.size + 2), 0, none⟩ = some v20 ∧ w'.cell? ⟨(w.heap.size + 2), 1, none⟩ = some v21 ∧ w'.cell? ⟨(w.heap.size + 2), 2, none⟩ = some v22 ∧ Hid (Ext w21 w') := fun w' h => ⟨h.cell' c640, h.cell' c641, h.cell' c642, h.cell' c650, h.cell' c651, h.cell' c652, h.cell' c660, h.cell' c661, h.cell' c662, h⟩
              go_wp2_with fail
              go_cut [24, 25] from 154 to 167 (fun t6 t7 wx => ∃ (v : Value) (bs : List Nat), t6 = v ∧ t7 = .bool (dec (CmpB N0 N1 N2 l3 l4)) ∧ Hid (Ext w21 wx ∧ OwnI wx v (cmpAns N0 N1 N2 l3 l4) bs ∧ bs.Nodup ∧ ∀ b ∈ bs, w21.heap.size ≤ b))
              case first =>
                go_region_held3 (fun w' => w'.cell? ⟨w.heap.size, 0, none⟩ = some v00 ∧ w'.cell? ⟨w.heap.size, 1, none⟩ = some v01 ∧ w'.cell? ⟨w.heap.size, 2, none⟩ = some v02 ∧ w'.cell? ⟨(w.heap.size + 1), 0, none⟩ = some v10 ∧ w'.cell? ⟨(w.heap.size + 1), 1, none⟩ = some v11 ∧ w'.cell? ⟨(w.heap.size + 1), 2, none⟩ = some v12 ∧ w'.cell? ⟨(w.heap.size + 2), 0, none⟩ = some v20 ∧ w'.cell? ⟨(w.heap.size + 2), 1, none⟩ = some v21 ∧ w'.cell? ⟨(w.heap.size + 2), 2, none⟩ = some v22 ∧ Hid (Ext w21 w')) (first | exact mkS _ (Ext.rfl' w21).drew' | exact mkS _ XA.out | exact mkS _ XB.out | exact mkS _ XC.out | exact mkS _ XD.out | exact mkS _ XF.out | exact mkS _ XZ.out | fail)
                  (first | (go_at_call_of 20 (Value.agg #[v00, v01, v02]); (with_reducible refine (toNetwork_own (HN0.out.ext (K0_28.out.trans' ((‹_ ∧ _ ∧ _ ∧ _ ∧ _ ∧ _ ∧ _ ∧ _ ∧ _ ∧ Hid (Ext w21 _)›).2.2.2.2.2.2.2.2.2.out))) hs0.out).mono ?_); rintro e wqA ⟨yA, bA, rfl, hx, ho, hf⟩; have XA := Lib.hid (Ext.trans' ((‹_ ∧ _ ∧ _ ∧ _ ∧ _ ∧ _ ∧ _ ∧ _ ∧ _ ∧ Hid (Ext w21 _)›).2.2.2.2.2.2.2.2.2.out) hx); have OA0 := Lib.hid ho.read; clear ho hf) | (go_at_call_of 20 (Value.agg #[v10, v11, v12]); (with_reducible refine (toNetwork_own (HN1.out.ext (K0_28.out.trans' ((‹_ ∧ _ ∧ _ ∧ _ ∧ _ ∧ _ ∧ _ ∧ _ ∧ _ ∧ Hid (Ext w21 _)›).2.2.2.2.2.2.2.2.2.out))) hs1.out).mono ?_); rintro e wqB ⟨yB, bB, rfl, hx, ho, hf⟩; have XB := Lib.hid (Ext.trans' ((‹_ ∧ _ ∧ _ ∧ _ ∧ _ ∧ _ ∧ _ ∧ _ ∧ _ ∧ Hid (Ext w21 _)›).2.2.2.2.2.2.2.2.2.out) hx); have OA1 := Lib.hid (OA0.out.ext hx); have OB1 := Lib.hid ho.read; clear ho hf) | (go_at_call_of 20 (Value.agg #[v20, v21, v22]); (with_reducible refine (toNetwork_own (HN2.out.ext (K0_28.out.trans' ((‹_ ∧ _ ∧ _ ∧ _ ∧ _ ∧ _ ∧ _ ∧ _ ∧ _ ∧ Hid (Ext w21 _)›).2.2.2.2.2.2.2.2.2.out))) hs2.out).mono ?_); rintro e wqC ⟨yC, bC, rfl, hx, ho, hf⟩; have XC := Lib.hid (Ext.trans' ((‹_ ∧ _ ∧ _ ∧ _ ∧ _ ∧ _ ∧ _ ∧ _ ∧ _ ∧ Hid (Ext w21 _)›).2.2.2.2.2.2.2.2.2.out) hx); have OA2 := Lib.hid (OA1.out.ext hx); have OB2 := Lib.hid (OB1.out.ext hx); have OC2 := Lib.hid ho.read; clear ho hf) | (go_at_call 26; (with_reducible refine (toIntS_own (HN3.out.ext (K0_28.out.trans' ((‹_ ∧ _ ∧ _ ∧ _ ∧ _ ∧ _ ∧ _ ∧ _ ∧ _ ∧ Hid (Ext w21 _)›).2.2.2.2.2.2.2.2.2.out))) hg3).mono ?_); rintro e wqD ⟨yDa, yDc, bD, rfl, hx, ho, hf⟩; have XD := Lib.hid (Ext.trans' ((‹_ ∧ _ ∧ _ ∧ _ ∧ _ ∧ _ ∧ _ ∧ _ ∧ _ ∧ Hid (Ext w21 _)›).2.2.2.2.2.2.2.2.2.out) hx); have OA3 := Lib.hid (OA2.out.ext hx); have OB3 := Lib.hid (OB2.out.ext hx); have OC3 := Lib.hid (OC2.out.ext hx); have OD3 := Lib.hid ho.read; clear ho hf) | (go_at_call 26; (with_reducible refine (toIntS_own (HN4.out.ext (K0_28.out.trans' ((‹_ ∧ _ ∧ _ ∧ _ ∧ _ ∧ _ ∧ _ ∧ _ ∧ _ ∧ Hid (Ext w21 _)›).2.2.2.2.2.2.2.2.2.out))) hg4).mono ?_); rintro e wqF ⟨yFa, yFc, bF, rfl, hx, ho, hf⟩; have XF := Lib.hid (Ext.trans' ((‹_ ∧ _ ∧ _ ∧ _ ∧ _ ∧ _ ∧ _ ∧ _ ∧ _ ∧ Hid (Ext w21 _)›).2.2.2.2.2.2.2.2.2.out) hx); have OA4 := Lib.hid (OA3.out.ext hx); have OB4 := Lib.hid (OB3.out.ext hx); have OC4 := Lib.hid (OC3.out.ext hx); have OD4 := Lib.hid (OD3.out.ext hx); have OF4 := Lib.hid ho.read; clear ho hf) | (go_at_call 45; (with_reducible refine (composeMapsL_any OA4.out OB4.out OC4.out OD4.out hg3 OF4.out hg4).mono ?_); rintro e wz ⟨xz, bz, rfl, hx, ho, hf⟩; have XZ := Lib.hid (Ext.trans' ((‹_ ∧ _ ∧ _ ∧ _ ∧ _ ∧ _ ∧ _ ∧ _ ∧ _ ∧ Hid (Ext w21 _)›).2.2.2.2.2.2.2.2.2.out) hx); have FZ : Hid (bz.Nodup ∧ ∀ b ∈ bz, w21.heap.size ≤ b) := ⟨hf.1, fun b hb => Nat.le_trans ((‹_ ∧ _ ∧ _ ∧ _ ∧ _ ∧ _ ∧ _ ∧ _ ∧ _ ∧ Hid (Ext w21 _)›).2.2.2.2.2.2.2.2.2.out).size (hf.2 b hb)⟩; have OZ := Lib.hid ho; clear ho hf))
                all_goals go_wp2_with fail
                all_goals go_meet
                all_goals exact ⟨_, _, rfl, rfl, XZ.out, OZ.out, FZ.out⟩
              case rest =>
                obtain ⟨xh, bh, rfl, rfl, XC⟩ := hcut
                clear mkS
                obtain ⟨w9h, h9⟩ : ∃ w9 : World, w9 = wc := ⟨_, rfl⟩
                subst h9
                clear c640 c641 c642 c650 c651 c652 c660 c661 c662
                have LOh := Lib.hid XC.out.2.2.2
                have HIh := Lib.hid (show ∀ b ∈ bh, b < w9h.heap.size from XC.out.2.1.1.lt)
                have NDh := Lib.hid XC.out.2.2.1
                have Z25 := Lib.hid (show w21.heap.size ≤ w9h.heap.size from by have := XC.out.1.size; simpa using this)
                have K0_29 := Lib.hid (K0_28.out.trans' XC.out.1)
                have Rp0_29 := Lib.hid (row_ext Rp0_28.out XC.out.1)
                have Rp1_29 := Lib.hid (row_ext Rp1_28.out XC.out.1)
                have Rp2_29 := Lib.hid (row_ext Rp2_28.out XC.out.1)
                have Ow_29 := Lib.hid (Ow_28.out.ext XC.out.1)
                have Og_29 := Lib.hid (Og_28.out.ext XC.out.1)
                have Oh_29 := Lib.hid XC.out.2.1
                go_wp2_with fail
                (with_reducible refine (eqIntS_same Oh_29.out.read Ow_29.out.read).mono ?_)
                rintro e w23 ⟨rfl, hw⟩
                have Z26 := Lib.hid (show w9h.heap.size ≤ w23.heap.size from by have := hw.size; simpa using this)
                have K0_30 := Lib.hid (K0_29.out.trans' hw)
                have Rp0_30 := Lib.hid (row_ext Rp0_29.out hw)
                have Rp1_30 := Lib.hid (row_ext Rp1_29.out hw)
                have Rp2_30 := Lib.hid (row_ext Rp2_29.out hw)
                have Ow_30 := Lib.hid (Ow_29.out.ext hw)
                have Og_30 := Lib.hid (Og_29.out.ext hw)
                have Oh_30 := Lib.hid (Oh_29.out.ext hw)
                clear hw
                go_wp2_with fail
                (with_reducible refine (heldIntS_any _ _ Og_30.out.read hll (by omega) (by omega)).mono ?_)
                rintro e w24 ⟨rfl, rfl⟩
                go_wp2
                go_ret
                exact ⟨rfl, K0_30.out⟩
theorem walk_ComposeMaps {w : World} {v0 : Value} {N0 : Net} {v1 : Value} {N1 : Net} {v2 : Value} {N2 : Net} {v3 : Value} {l3 : List Int} {v4 : Value} {l4 : List Int} (h0 : NetAt w v0 N0) (h1 : NetAt w v1 N1) (h2 : NetAt w v2 N2) (h3 : IntSl w v3 l3) (h4 : IntSl w v4 l4) :
    Calls Try.prog 10 #[v0, v1, v2, v3, v4] w fun e w' => e = .returned (.bool true) ∧ Ext w w' := walk_ComposeMaps_of  h0 h1 h2 h3 h4 (cmpAns_len _ _ _ _ _)
end Go.Proofs.Ytgacbfblpkikkaa
