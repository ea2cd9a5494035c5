/- The walk of FnExactPullPorts: whatever the arguments, the law answers true and changes nothing that was there. No condition but that the answer is short. -/
import Derived.Test.YtgacbfblpkikkaaQw
import Derived.Test.YtgacbfblpkikkaaIu
import Derived.Test.YtgacbfblpkikkaaKc
namespace Go.Proofs.Ytgacbfblpkikkaa
open Go.RowKit

set_option maxHeartbeats 6400000 in
set_option maxRecDepth 100000 in
theorem walk_PullPorts_of {w : World} {v0 : Value} {N0 : Net} {v1 : Value} {N1 : Net} {v2 : Value} {l2 : List Int} {v3 : Value} {l3 : List (List Int)} (h0 : NetAt w v0 N0) (h1 : NetAt w v1 N1) (h2 : IntSl w v2 l2) (h3 : IntSS w v3 l3) (hll : IISmall (ppAns N0 N1 l2 l3)) :
    Calls Try.prog 16 #[v0, v1, v2, v3] w fun e w' => e = .returned (.bool true) ∧ Ext w w' := by
  have HLL := Lib.hid hll
  have HQ := Lib.hid (iLast_bound hll)
  have HN0 := Lib.hid h0
  obtain ⟨v00, v01, v02, rfl, hE, hI, hP⟩ := h0
  clear hE hI hP
  have HN1 := Lib.hid h1
  obtain ⟨v10, v11, v12, rfl, hE, hI, hP⟩ := h1
  clear hE hI hP
  have HN2 := Lib.hid h2
  obtain ⟨la2, _, _, lc2, rfl, -, -, lm2, -⟩ := h2
  unfold maxLen at lm2
  have HN3 := Lib.hid h3
  obtain ⟨la3, _, _, lc3, rfl, -, -, lm3, -⟩ := h3
  unfold maxLen at lm3
  have K0 := Lib.hid ((boxed_ext w v00 v01 v02 25).trans' (boxed_ext (boxed w v00 v01 v02 25) v10 v11 v12 25))
  have Rp0_0 := Lib.hid (show World.rowIs (boxed (boxed w v00 v01 v02 25) v10 v11 v12 25) w.heap.size 25 3 (tri v00 v01 v02) from (boxed_row w v00 v01 v02 25).alloc _)
  have Rp1_0 := Lib.hid (show World.rowIs (boxed (boxed w v00 v01 v02 25) v10 v11 v12 25) (w.heap.size + 1) 25 3 (tri v10 v11 v12) from by simpa using boxed_row (boxed w v00 v01 v02 25) v10 v11 v12 25)
  have hbb : (dec (PpB N0 N1 l2 l3) != dec (PpB N0 N1 l2 l3)) = false := by simp
  by_cases hg2 : l2.length ≤ 1048576
  case neg =>
    go_enter Try.func16, Try.ntmps16
    go_wp2
    go_ret
    exact ⟨rfl, K0.out⟩
  case pos =>
    go_enter Try.func16, Try.ntmps16
    go_wp2_with fail
    (with_reducible refine (szNetwork_any _ (HN0.out.ext K0.out) (by omega) (by omega)).mono ?_)
    rintro e w1 ⟨r0, rfl, hw, hr00, hr10, hr2⟩
    have Z0 := Lib.hid (show w.heap.size + 2 ≤ w1.heap.size from by have := hw.size; simpa using this)
    have K0_1 := Lib.hid (K0.out.trans' hw)
    have Rp0_1 := Lib.hid (row_ext Rp0_0.out hw)
    have Rp1_1 := Lib.hid (row_ext Rp1_0.out hw)
    have S0 := Lib.hid hr2
    clear hw hr2
    obtain ⟨c10, c11, c12, -, -, -⟩ := row3_facts Rp0_1.out
    obtain ⟨c20, c21, c22, -, -, -⟩ := row3_facts Rp1_1.out
    by_cases hneg0 : r0 < 0
    case pos =>
      go_wp2
      go_ret
      exact ⟨rfl, K0_1.out⟩
    case neg =>
      have hs0 := Lib.hid (S0.out (by omega))
      go_wp2_with fail
      (with_reducible refine (szNetwork_any _ (HN1.out.ext K0_1.out) (by omega) (by omega)).mono ?_)
      rintro e w2 ⟨r1, rfl, hw, hr01, hr11, hr2⟩
      have Z1 := Lib.hid (show w1.heap.size ≤ w2.heap.size from by have := hw.size; simpa using this)
      have K0_2 := Lib.hid (K0_1.out.trans' hw)
      have Rp0_2 := Lib.hid (row_ext Rp0_1.out hw)
      have Rp1_2 := Lib.hid (row_ext Rp1_1.out hw)
      have S1 := Lib.hid hr2
      clear hw hr2
      clear c10 c11 c12 c20 c21 c22
      obtain ⟨c30, c31, c32, -, -, -⟩ := row3_facts Rp0_2.out
      obtain ⟨c40, c41, c42, -, -, -⟩ := row3_facts Rp1_2.out
      by_cases hneg1 : r1 < 0
      case pos =>
        go_wp2
        go_ret
        exact ⟨rfl, K0_2.out⟩
      case neg =>
        have hs1 := Lib.hid (S1.out (by omega))
        clear c30 c31 c32 c40 c41 c42
        obtain ⟨c50, c51, c52, -, -, -⟩ := row3_facts Rp0_2.out
        obtain ⟨c60, c61, c62, -, -, -⟩ := row3_facts Rp1_2.out
        go_wp2_with fail
        (with_reducible refine (szIntSS_any _ (HN3.out.ext K0_2.out) (by omega) (by omega)).mono ?_)
        rintro e _ ⟨r3, rfl, rfl, hr13, hr03, hr2⟩
        have S3 := Lib.hid hr2
        clear hr2
        by_cases hneg3 : r3 < 0
        case pos =>
          go_wp2
          go_ret
          exact ⟨rfl, K0_2.out⟩
        case neg =>
          have hs3 := Lib.hid (show IISmall l3 from ⟨by have := (S3.out (by omega)).1; omega, fun i => by
            by_cases hi : i < l3.length
            · have := (S3.out (by omega)).2 i hi; omega
            · rw [gr_out _ _ (by omega)]; simp⟩)
          obtain ⟨hs3a, hs3b⟩ : l3.length ≤ 1048576 ∧ ∀ i, (gr l3 i).length ≤ 1048576 := hs3.out
          clear c50 c51 c52 c60 c61 c62
          obtain ⟨c70, c71, c72, -, -, -⟩ := row3_facts Rp0_2.out
          obtain ⟨c80, c81, c82, -, -, -⟩ := row3_facts Rp1_2.out
          clear c70 c71 c72 c80 c81 c82
          obtain ⟨c90, c91, c92, -, -, -⟩ := row3_facts Rp0_2.out
          obtain ⟨c100, c101, c102, -, -, -⟩ := row3_facts Rp1_2.out
          have mkS : ∀ w' : World, Ext w2 w' → w'.cell? ⟨w.heap.size, 0, none⟩ = some v00 ∧ w'.cell? ⟨w.heap.size, 1, none⟩ = some v01 ∧ w'.cell? ⟨w.heap.size, 2, none⟩ = some v02 ∧ w'.cell? ⟨(w.heap.size + 1), 0, none⟩ = some v10 ∧ w'.cell? ⟨(w.heap.size + 1), 1, none⟩ = some v11 ∧ w'.cell? ⟨(w.heap.size + 1), 2, none⟩ = some v12 ∧ Hid (Ext w2 w') := fun w' h => ⟨h.cell' c90, h.cell' c91, h.cell' c92, h.cell' c100, h.cell' c101, h.cell' c102, h⟩
          go_wp2_with fail
          go_cut [10, 11] from 42 to 53 (fun t6 t7 wx => ∃ (v : Value) (bs : List Nat), t6 = v ∧ t7 = .bool (dec (PpB N0 N1 l2 l3)) ∧ Hid (Ext w2 wx ∧ OwnII wx v (ppAns N0 N1 l2 l3) bs ∧ bs.Nodup ∧ ∀ b ∈ bs, w2.heap.size ≤ b))
          case first =>
            go_region_held3 (fun w' => w'.cell? ⟨w.heap.size, 0, none⟩ = some v00 ∧ w'.cell? ⟨w.heap.size, 1, none⟩ = some v01 ∧ w'.cell? ⟨w.heap.size, 2, none⟩ = some v02 ∧ w'.cell? ⟨(w.heap.size + 1), 0, none⟩ = some v10 ∧ w'.cell? ⟨(w.heap.size + 1), 1, none⟩ = some v11 ∧ w'.cell? ⟨(w.heap.size + 1), 2, none⟩ = some v12 ∧ Hid (Ext w2 w')) (first | exact mkS _ (Ext.rfl' w2).drew' | exact mkS _ XA.out | exact mkS _ XB.out | exact mkS _ XC.out | exact mkS _ XD.out | exact mkS _ XZ.out | fail)
              (first | (go_at_call_of 20 (Value.agg #[v00, v01, v02]); (with_reducible refine (toNetwork_own (HN0.out.ext (K0_2.out.trans' ((‹_ ∧ _ ∧ _ ∧ _ ∧ _ ∧ _ ∧ Hid (Ext w2 _)›).2.2.2.2.2.2.out))) hs0.out).mono ?_); rintro e wqA ⟨yA, bA, rfl, hx, ho, hf⟩; have XA := Lib.hid (Ext.trans' ((‹_ ∧ _ ∧ _ ∧ _ ∧ _ ∧ _ ∧ Hid (Ext w2 _)›).2.2.2.2.2.2.out) hx); have OA0 := Lib.hid ho.read; clear ho hf) | (go_at_call_of 20 (Value.agg #[v10, v11, v12]); (with_reducible refine (toNetwork_own (HN1.out.ext (K0_2.out.trans' ((‹_ ∧ _ ∧ _ ∧ _ ∧ _ ∧ _ ∧ Hid (Ext w2 _)›).2.2.2.2.2.2.out))) hs1.out).mono ?_); rintro e wqB ⟨yB, bB, rfl, hx, ho, hf⟩; have XB := Lib.hid (Ext.trans' ((‹_ ∧ _ ∧ _ ∧ _ ∧ _ ∧ _ ∧ Hid (Ext w2 _)›).2.2.2.2.2.2.out) hx); have OA1 := Lib.hid (OA0.out.ext hx); have OB1 := Lib.hid ho.read; clear ho hf) | (go_at_call 26; (with_reducible refine (toIntS_own (HN2.out.ext (K0_2.out.trans' ((‹_ ∧ _ ∧ _ ∧ _ ∧ _ ∧ _ ∧ Hid (Ext w2 _)›).2.2.2.2.2.2.out))) hg2).mono ?_); rintro e wqC ⟨yCa, yCc, bC, rfl, hx, ho, hf⟩; have XC := Lib.hid (Ext.trans' ((‹_ ∧ _ ∧ _ ∧ _ ∧ _ ∧ _ ∧ Hid (Ext w2 _)›).2.2.2.2.2.2.out) hx); have OA2 := Lib.hid (OA1.out.ext hx); have OB2 := Lib.hid (OB1.out.ext hx); have OC2 := Lib.hid ho.read; clear ho hf) | (go_at_call 52; (with_reducible refine (toIntSS_own (HN3.out.ext (K0_2.out.trans' ((‹_ ∧ _ ∧ _ ∧ _ ∧ _ ∧ _ ∧ Hid (Ext w2 _)›).2.2.2.2.2.2.out))) hs3a hs3b).mono ?_); rintro e wqD ⟨yDa, yDc, bD, rfl, hx, ho, hf⟩; have XD := Lib.hid (Ext.trans' ((‹_ ∧ _ ∧ _ ∧ _ ∧ _ ∧ _ ∧ Hid (Ext w2 _)›).2.2.2.2.2.2.out) hx); have OA3 := Lib.hid (OA2.out.ext hx); have OB3 := Lib.hid (OB2.out.ext hx); have OC3 := Lib.hid (OC2.out.ext hx); have OD3 := Lib.hid ho.read; clear ho hf) | (go_at_call 58; (with_reducible refine (specPullPortsL_any OA3.out OB3.out OC3.out hg2 OD3.out hs3.out).mono ?_); rintro e wz ⟨xz, bz, rfl, hx, ho, hf⟩; have XZ := Lib.hid (Ext.trans' ((‹_ ∧ _ ∧ _ ∧ _ ∧ _ ∧ _ ∧ Hid (Ext w2 _)›).2.2.2.2.2.2.out) hx); have FZ : Hid (bz.Nodup ∧ ∀ b ∈ bz, w2.heap.size ≤ b) := ⟨hf.1, fun b hb => Nat.le_trans ((‹_ ∧ _ ∧ _ ∧ _ ∧ _ ∧ _ ∧ Hid (Ext w2 _)›).2.2.2.2.2.2.out).size (hf.2 b hb)⟩; have OZ := Lib.hid ho; clear ho hf))
            all_goals go_wp2_with fail
            all_goals go_meet
            all_goals exact ⟨_, _, rfl, rfl, XZ.out, OZ.out, FZ.out⟩
          case rest =>
            obtain ⟨xw, bw, rfl, rfl, XC⟩ := hcut
            clear mkS
            obtain ⟨w9w, h9⟩ : ∃ w9 : World, w9 = wc := ⟨_, rfl⟩
            subst h9
            clear c90 c91 c92 c100 c101 c102
            have LOw := Lib.hid XC.out.2.2.2
            have HIw := Lib.hid (show ∀ b ∈ bw, b < w9w.heap.size from XC.out.2.1.lt)
            have NDw := Lib.hid XC.out.2.2.1
            have Z2 := Lib.hid (show w2.heap.size ≤ w9w.heap.size from by have := XC.out.1.size; simpa using this)
            have K0_3 := Lib.hid (K0_2.out.trans' XC.out.1)
            have Rp0_3 := Lib.hid (row_ext Rp0_2.out XC.out.1)
            have Rp1_3 := Lib.hid (row_ext Rp1_2.out XC.out.1)
            have Ow_3 := Lib.hid XC.out.2.1
            obtain ⟨c110, c111, c112, -, -, -⟩ := row3_facts Rp0_3.out
            obtain ⟨c120, c121, c122, -, -, -⟩ := row3_facts Rp1_3.out
            go_wp2_with fail
            (with_reducible refine (toNetwork_own (HN0.out.ext K0_3.out) hs0.out).mono ?_)
            rintro e w3 ⟨xx0, bx0, rfl, hw, ho, hf⟩
            have Z3 := Lib.hid (show w9w.heap.size ≤ w3.heap.size from by have := hw.size; simpa using this)
            have LOx0 := Lib.hid (show ∀ b ∈ bx0, w9w.heap.size ≤ b from fun b hb => by have := hf.2 b hb; simpa using this)
            have HIx0 := Lib.hid (show ∀ b ∈ bx0, b < w3.heap.size from ho.lt)
            have NDx0 : Hid bx0.Nodup := hf.1
            obtain ⟨x0a0, x0c0, x0a1, x0c1, x0a2, x0c2, rfl⟩ := ho.agg
            have K0_4 := Lib.hid (K0_3.out.trans' hw)
            have Rp0_4 := Lib.hid (row_ext Rp0_3.out hw)
            have Rp1_4 := Lib.hid (row_ext Rp1_3.out hw)
            have Ow_4 := Lib.hid (Ow_3.out.ext hw)
            have Ox0_4 := Lib.hid ho
            clear hw ho hf
            clear c110 c111 c112 c120 c121 c122
            obtain ⟨c130, c131, c132, -, -, -⟩ := row3_facts Rp0_4.out
            obtain ⟨c140, c141, c142, -, -, -⟩ := row3_facts Rp1_4.out
            have hA := (Ext.rfl' w3).alloc' (.cells #[.slice x0a0 N0.ends.length x0c0, .slice x0a1 N0.ids.length x0c1, .slice x0a2 N0.inputs.length x0c2] 29)
            have K0_5 := Lib.hid (K0_4.out.trans' hA)
            have Rp0_5 := Lib.hid (row_ext Rp0_4.out hA)
            have Rp1_5 := Lib.hid (row_ext Rp1_4.out hA)
            have Ow_5 := Lib.hid (Ow_4.out.ext hA)
            have Ox0_5 := Lib.hid (Ox0_4.out.ext hA)
            have Rx0_5 := Lib.hid (row3_made w3 (.slice x0a0 N0.ends.length x0c0) (.slice x0a1 N0.ids.length x0c1) (.slice x0a2 N0.inputs.length x0c2) 29)
            clear hA
            clear c130 c131 c132 c140 c141 c142
            obtain ⟨c150, c151, c152, -, -, -⟩ := row3_facts Rp0_5.out
            obtain ⟨c160, c161, c162, -, -, -⟩ := row3_facts Rp1_5.out
            go_wp2_with fail
            (with_reducible refine (toNetwork_own (HN1.out.ext K0_5.out) hs1.out).mono ?_)
            rintro e w4 ⟨xx1, bx1, rfl, hw, ho, hf⟩
            have Z4 := Lib.hid (show w3.heap.size + 1 ≤ w4.heap.size from by have := hw.size; simpa using this)
            have LOx1 := Lib.hid (show ∀ b ∈ bx1, w3.heap.size + 1 ≤ b from fun b hb => by have := hf.2 b hb; simpa using this)
            have HIx1 := Lib.hid (show ∀ b ∈ bx1, b < w4.heap.size from ho.lt)
            have NDx1 : Hid bx1.Nodup := hf.1
            obtain ⟨x1a0, x1c0, x1a1, x1c1, x1a2, x1c2, rfl⟩ := ho.agg
            have K0_6 := Lib.hid (K0_5.out.trans' hw)
            have Rp0_6 := Lib.hid (row_ext Rp0_5.out hw)
            have Rp1_6 := Lib.hid (row_ext Rp1_5.out hw)
            have Rx0_6 := Lib.hid (row_ext Rx0_5.out hw)
            have Ow_6 := Lib.hid (Ow_5.out.ext hw)
            have Ox0_6 := Lib.hid (Ox0_5.out.ext hw)
            have Ox1_6 := Lib.hid ho
            clear hw ho hf
            clear c150 c151 c152 c160 c161 c162
            obtain ⟨c170, c171, c172, -, -, -⟩ := row3_facts Rp0_6.out
            obtain ⟨c180, c181, c182, -, -, -⟩ := row3_facts Rp1_6.out
            have hA := (Ext.rfl' w4).alloc' (.cells #[.slice x1a0 N1.ends.length x1c0, .slice x1a1 N1.ids.length x1c1, .slice x1a2 N1.inputs.length x1c2] 29)
            have K0_7 := Lib.hid (K0_6.out.trans' hA)
            have Rp0_7 := Lib.hid (row_ext Rp0_6.out hA)
            have Rp1_7 := Lib.hid (row_ext Rp1_6.out hA)
            have Rx0_7 := Lib.hid (row_ext Rx0_6.out hA)
            have Ow_7 := Lib.hid (Ow_6.out.ext hA)
            have Ox0_7 := Lib.hid (Ox0_6.out.ext hA)
            have Ox1_7 := Lib.hid (Ox1_6.out.ext hA)
            have Rx1_7 := Lib.hid (row3_made w4 (.slice x1a0 N1.ends.length x1c0) (.slice x1a1 N1.ids.length x1c1) (.slice x1a2 N1.inputs.length x1c2) 29)
            clear hA
            clear c170 c171 c172 c180 c181 c182
            obtain ⟨c190, c191, c192, -, -, -⟩ := row3_facts Rp0_7.out
            obtain ⟨c200, c201, c202, -, -, -⟩ := row3_facts Rp1_7.out
            go_wp2_with fail
            (with_reducible refine (toIntS_own (HN2.out.ext K0_7.out) hg2).mono ?_)
            rintro e w5 ⟨x2a, x2c, bx2, rfl, hw, ho, hf⟩
            have Z5 := Lib.hid (show w4.heap.size + 1 ≤ w5.heap.size from by have := hw.size; simpa using this)
            have LOx2 := Lib.hid (show ∀ b ∈ bx2, w4.heap.size + 1 ≤ b from fun b hb => by have := hf.2 b hb; simpa using this)
            have HIx2 := Lib.hid (show ∀ b ∈ bx2, b < w5.heap.size from ho.1.lt)
            have NDx2 : Hid bx2.Nodup := hf.1
            have K0_8 := Lib.hid (K0_7.out.trans' hw)
            have Rp0_8 := Lib.hid (row_ext Rp0_7.out hw)
            have Rp1_8 := Lib.hid (row_ext Rp1_7.out hw)
            have Rx0_8 := Lib.hid (row_ext Rx0_7.out hw)
            have Rx1_8 := Lib.hid (row_ext Rx1_7.out hw)
            have Ow_8 := Lib.hid (Ow_7.out.ext hw)
            have Ox0_8 := Lib.hid (Ox0_7.out.ext hw)
            have Ox1_8 := Lib.hid (Ox1_7.out.ext hw)
            have Ox2_8 := Lib.hid ho
            clear hw ho hf
            clear c190 c191 c192 c200 c201 c202
            obtain ⟨c210, c211, c212, -, -, -⟩ := row3_facts Rp0_8.out
            obtain ⟨c220, c221, c222, -, -, -⟩ := row3_facts Rp1_8.out
            go_wp2_with fail
            (with_reducible refine (toIntSS_own (HN3.out.ext K0_8.out) hs3a hs3b).mono ?_)
            rintro e w6 ⟨x3a, x3c, bx3, rfl, hw, ho, hf⟩
            have Z6 := Lib.hid (show w5.heap.size ≤ w6.heap.size from by have := hw.size; simpa using this)
            have LOx3 := Lib.hid (show ∀ b ∈ bx3, w5.heap.size ≤ b from fun b hb => by have := hf.2 b hb; simpa using this)
            have HIx3 := Lib.hid (show ∀ b ∈ bx3, b < w6.heap.size from ho.lt)
            have NDx3 : Hid bx3.Nodup := hf.1
            have K0_9 := Lib.hid (K0_8.out.trans' hw)
            have Rp0_9 := Lib.hid (row_ext Rp0_8.out hw)
            have Rp1_9 := Lib.hid (row_ext Rp1_8.out hw)
            have Rx0_9 := Lib.hid (row_ext Rx0_8.out hw)
            have Rx1_9 := Lib.hid (row_ext Rx1_8.out hw)
            have Ow_9 := Lib.hid (Ow_8.out.ext hw)
            have Ox0_9 := Lib.hid (Ox0_8.out.ext hw)
            have Ox1_9 := Lib.hid (Ox1_8.out.ext hw)
            have Ox2_9 := Lib.hid (Ox2_8.out.ext hw)
            have Ox3_9 := Lib.hid ho
            clear hw ho hf
            clear c210 c211 c212 c220 c221 c222
            obtain ⟨c230, c231, c232, -, -, -⟩ := row3_facts Rp0_9.out
            obtain ⟨c240, c241, c242, -, -, -⟩ := row3_facts Rp1_9.out
            clear c230 c231 c232 c240 c241 c242
            obtain ⟨c250, c251, c252, -, -, -⟩ := row3_facts Rx0_9.out
            obtain ⟨c260, c261, c262, -, -, -⟩ := row3_facts Rx1_9.out
            go_wp2_with fail
            (with_reducible refine (pullPortsL_any Ox0_9.out.read Ox1_9.out.read Ox2_9.out.read hg2 Ox3_9.out.read hs3.out).mono ?_)
            rintro e w7 ⟨xg, bg, rfl, hw, ho, hf⟩
            have Z7 := Lib.hid (show w6.heap.size ≤ w7.heap.size from by have := hw.size; simpa using this)
            have LOg := Lib.hid (show ∀ b ∈ bg, w6.heap.size ≤ b from fun b hb => by have := hf.2 b hb; simpa using this)
            have HIg := Lib.hid (show ∀ b ∈ bg, b < w7.heap.size from ho.lt)
            have NDg : Hid bg.Nodup := hf.1
            have K0_10 := Lib.hid (K0_9.out.trans' hw)
            have Rp0_10 := Lib.hid (row_ext Rp0_9.out hw)
            have Rp1_10 := Lib.hid (row_ext Rp1_9.out hw)
            have Rx0_10 := Lib.hid (row_ext Rx0_9.out hw)
            have Rx1_10 := Lib.hid (row_ext Rx1_9.out hw)
            have Ow_10 := Lib.hid (Ow_9.out.ext hw)
            have Ox0_10 := Lib.hid (Ox0_9.out.ext hw)
            have Ox1_10 := Lib.hid (Ox1_9.out.ext hw)
            have Ox2_10 := Lib.hid (Ox2_9.out.ext hw)
            have Ox3_10 := Lib.hid (Ox3_9.out.ext hw)
            have Og_10 := Lib.hid ho
            clear hw ho hf
            clear c250 c251 c252 c260 c261 c262
            go_wp2_with fail
            (with_reducible refine (eqIntSS_same Og_10.out.read Ow_10.out.read).mono ?_)
            rintro e w8 ⟨rfl, hw⟩
            have Z8 := Lib.hid (show w7.heap.size ≤ w8.heap.size from by have := hw.size; simpa using this)
            have K0_11 := Lib.hid (K0_10.out.trans' hw)
            have Rp0_11 := Lib.hid (row_ext Rp0_10.out hw)
            have Rp1_11 := Lib.hid (row_ext Rp1_10.out hw)
            have Rx0_11 := Lib.hid (row_ext Rx0_10.out hw)
            have Rx1_11 := Lib.hid (row_ext Rx1_10.out hw)
            have Ow_11 := Lib.hid (Ow_10.out.ext hw)
            have Ox0_11 := Lib.hid (Ox0_10.out.ext hw)
            have Ox1_11 := Lib.hid (Ox1_10.out.ext hw)
            have Ox2_11 := Lib.hid (Ox2_10.out.ext hw)
            have Ox3_11 := Lib.hid (Ox3_10.out.ext hw)
            have Og_11 := Lib.hid (Og_10.out.ext hw)
            clear hw
            obtain ⟨c270, c271, c272, -, -, -⟩ := row3_facts Rp0_11.out
            obtain ⟨c280, c281, c282, -, -, -⟩ := row3_facts Rx0_11.out
            go_wp2_with fail
            have Hd := Lib.hid (Ext.rfl' w8).drew'
            go_region_held3 (fun w' => w'.cell? ⟨w.heap.size, 0, none⟩ = some v00 ∧ w'.cell? ⟨w.heap.size, 1, none⟩ = some v01 ∧ w'.cell? ⟨w.heap.size, 2, none⟩ = some v02 ∧ w'.cell? ⟨w3.heap.size, 0, none⟩ = some (.slice x0a0 N0.ends.length x0c0) ∧ w'.cell? ⟨w3.heap.size, 1, none⟩ = some (.slice x0a1 N0.ids.length x0c1) ∧ w'.cell? ⟨w3.heap.size, 2, none⟩ = some (.slice x0a2 N0.inputs.length x0c2) ∧ Hid (Ext w8 w')) (first | exact ⟨c270, c271, c272, c280, c281, c282, Hd⟩ | exact ⟨hx.cell' (Hd.out.cell' c270), hx.cell' (Hd.out.cell' c271), hx.cell' (Hd.out.cell' c272), hx.cell' (Hd.out.cell' c280), hx.cell' (Hd.out.cell' c281), hx.cell' (Hd.out.cell' c282), Hd.out.trans' hx⟩ | exact ⟨hy.cell' (hx.cell' (Hd.out.cell' c270)), hy.cell' (hx.cell' (Hd.out.cell' c271)), hy.cell' (hx.cell' (Hd.out.cell' c272)), hy.cell' (hx.cell' (Hd.out.cell' c280)), hy.cell' (hx.cell' (Hd.out.cell' c281)), hy.cell' (hx.cell' (Hd.out.cell' c282)), (Hd.out.trans' hx).trans' hy⟩)
              (first | (go_at_call 20; (with_reducible refine (toNetwork_own (HN0.out.ext (K0_11.out.trans' Hd.out)) hs0.out).mono ?_); rintro e wa0 ⟨z, bz, rfl, hx, hoz, hfz⟩; have OZ := Lib.hid hoz.read; have HXZ := Lib.hid hx; clear hoz hfz) | (go_at_call 22; (with_reducible refine (eqNetwork_same (Ox0_11.out.read.ext (Hd.out.trans' HXZ.out)) OZ.out).mono ?_); rintro e wb0 ⟨rfl, hy⟩))
            rename_i hh
            have HY := hh.2.2.2.2.2.2
            clear hh hx hy HXZ OZ
            clear c270 c271 c272 c280 c281 c282
            clear Hd
            have Z9 := Lib.hid (show w8.heap.size ≤ wb0.heap.size from by have := HY.out.size; simpa using this)
            have K0_12 := Lib.hid (K0_11.out.trans' HY.out)
            have Rp0_12 := Lib.hid (row_ext Rp0_11.out HY.out)
            have Rp1_12 := Lib.hid (row_ext Rp1_11.out HY.out)
            have Rx0_12 := Lib.hid (row_ext Rx0_11.out HY.out)
            have Rx1_12 := Lib.hid (row_ext Rx1_11.out HY.out)
            have Ow_12 := Lib.hid (Ow_11.out.ext HY.out)
            have Ox0_12 := Lib.hid (Ox0_11.out.ext HY.out)
            have Ox1_12 := Lib.hid (Ox1_11.out.ext HY.out)
            have Ox2_12 := Lib.hid (Ox2_11.out.ext HY.out)
            have Ox3_12 := Lib.hid (Ox3_11.out.ext HY.out)
            have Og_12 := Lib.hid (Og_11.out.ext HY.out)
            clear HY
            obtain ⟨c290, c291, c292, -, -, -⟩ := row3_facts Rp1_12.out
            obtain ⟨c300, c301, c302, -, -, -⟩ := row3_facts Rx1_12.out
            go_wp2_with fail
            have Hd := Lib.hid (Ext.rfl' wb0).drew'
            go_region_held3 (fun w' => w'.cell? ⟨(w.heap.size + 1), 0, none⟩ = some v10 ∧ w'.cell? ⟨(w.heap.size + 1), 1, none⟩ = some v11 ∧ w'.cell? ⟨(w.heap.size + 1), 2, none⟩ = some v12 ∧ w'.cell? ⟨w4.heap.size, 0, none⟩ = some (.slice x1a0 N1.ends.length x1c0) ∧ w'.cell? ⟨w4.heap.size, 1, none⟩ = some (.slice x1a1 N1.ids.length x1c1) ∧ w'.cell? ⟨w4.heap.size, 2, none⟩ = some (.slice x1a2 N1.inputs.length x1c2) ∧ Hid (Ext wb0 w')) (first | exact ⟨c290, c291, c292, c300, c301, c302, Hd⟩ | exact ⟨hx.cell' (Hd.out.cell' c290), hx.cell' (Hd.out.cell' c291), hx.cell' (Hd.out.cell' c292), hx.cell' (Hd.out.cell' c300), hx.cell' (Hd.out.cell' c301), hx.cell' (Hd.out.cell' c302), Hd.out.trans' hx⟩ | exact ⟨hy.cell' (hx.cell' (Hd.out.cell' c290)), hy.cell' (hx.cell' (Hd.out.cell' c291)), hy.cell' (hx.cell' (Hd.out.cell' c292)), hy.cell' (hx.cell' (Hd.out.cell' c300)), hy.cell' (hx.cell' (Hd.out.cell' c301)), hy.cell' (hx.cell' (Hd.out.cell' c302)), (Hd.out.trans' hx).trans' hy⟩)
              (first | (go_at_call 20; (with_reducible refine (toNetwork_own (HN1.out.ext (K0_12.out.trans' Hd.out)) hs1.out).mono ?_); rintro e wa1 ⟨z, bz, rfl, hx, hoz, hfz⟩; have OZ := Lib.hid hoz.read; have HXZ := Lib.hid hx; clear hoz hfz) | (go_at_call 22; (with_reducible refine (eqNetwork_same (Ox1_12.out.read.ext (Hd.out.trans' HXZ.out)) OZ.out).mono ?_); rintro e wb1 ⟨rfl, hy⟩))
            rename_i hh
            have HY := hh.2.2.2.2.2.2
            clear hh hx hy HXZ OZ
            clear c290 c291 c292 c300 c301 c302
            clear Hd
            have Z10 := Lib.hid (show wb0.heap.size ≤ wb1.heap.size from by have := HY.out.size; simpa using this)
            have K0_13 := Lib.hid (K0_12.out.trans' HY.out)
            have Rp0_13 := Lib.hid (row_ext Rp0_12.out HY.out)
            have Rp1_13 := Lib.hid (row_ext Rp1_12.out HY.out)
            have Rx0_13 := Lib.hid (row_ext Rx0_12.out HY.out)
            have Rx1_13 := Lib.hid (row_ext Rx1_12.out HY.out)
            have Ow_13 := Lib.hid (Ow_12.out.ext HY.out)
            have Ox0_13 := Lib.hid (Ox0_12.out.ext HY.out)
            have Ox1_13 := Lib.hid (Ox1_12.out.ext HY.out)
            have Ox2_13 := Lib.hid (Ox2_12.out.ext HY.out)
            have Ox3_13 := Lib.hid (Ox3_12.out.ext HY.out)
            have Og_13 := Lib.hid (Og_12.out.ext HY.out)
            clear HY
            go_wp2_with fail
            (with_reducible refine (toIntS_own (HN2.out.ext K0_13.out) hg2).mono ?_)
            rintro e w9 ⟨z2a, z2c, bz2, rfl, hw, ho, hf⟩
            have Z11 := Lib.hid (show wb1.heap.size ≤ w9.heap.size from by have := hw.size; simpa using this)
            have K0_14 := Lib.hid (K0_13.out.trans' hw)
            have Rp0_14 := Lib.hid (row_ext Rp0_13.out hw)
            have Rp1_14 := Lib.hid (row_ext Rp1_13.out hw)
            have Rx0_14 := Lib.hid (row_ext Rx0_13.out hw)
            have Rx1_14 := Lib.hid (row_ext Rx1_13.out hw)
            have Ow_14 := Lib.hid (Ow_13.out.ext hw)
            have Ox0_14 := Lib.hid (Ox0_13.out.ext hw)
            have Ox1_14 := Lib.hid (Ox1_13.out.ext hw)
            have Ox2_14 := Lib.hid (Ox2_13.out.ext hw)
            have Ox3_14 := Lib.hid (Ox3_13.out.ext hw)
            have Og_14 := Lib.hid (Og_13.out.ext hw)
            have Oz2_14 := Lib.hid ho.read
            clear hw ho hf
            obtain ⟨c310, c311, c312, -, -, -⟩ := row3_facts Rp0_14.out
            obtain ⟨c320, c321, c322, -, -, -⟩ := row3_facts Rp1_14.out
            clear c310 c311 c312 c320 c321 c322
            go_wp2_with fail
            (with_reducible refine (eqIntS_same Ox2_14.out.read Oz2_14.out).mono ?_)
            rintro e w10 ⟨rfl, hw⟩
            have Z12 := Lib.hid (show w9.heap.size ≤ w10.heap.size from by have := hw.size; simpa using this)
            have K0_15 := Lib.hid (K0_14.out.trans' hw)
            have Rp0_15 := Lib.hid (row_ext Rp0_14.out hw)
            have Rp1_15 := Lib.hid (row_ext Rp1_14.out hw)
            have Rx0_15 := Lib.hid (row_ext Rx0_14.out hw)
            have Rx1_15 := Lib.hid (row_ext Rx1_14.out hw)
            have Ow_15 := Lib.hid (Ow_14.out.ext hw)
            have Ox0_15 := Lib.hid (Ox0_14.out.ext hw)
            have Ox1_15 := Lib.hid (Ox1_14.out.ext hw)
            have Ox2_15 := Lib.hid (Ox2_14.out.ext hw)
            have Ox3_15 := Lib.hid (Ox3_14.out.ext hw)
            have Og_15 := Lib.hid (Og_14.out.ext hw)
            have Oz2_15 := Lib.hid (Oz2_14.out.ext hw)
            clear hw
            go_wp2_with fail
            (with_reducible refine (toIntSS_own (HN3.out.ext K0_15.out) hs3a hs3b).mono ?_)
            rintro e w11 ⟨z3a, z3c, bz3, rfl, hw, ho, hf⟩
            have Z13 := Lib.hid (show w10.heap.size ≤ w11.heap.size from by have := hw.size; simpa using this)
            have K0_16 := Lib.hid (K0_15.out.trans' hw)
            have Rp0_16 := Lib.hid (row_ext Rp0_15.out hw)
            have Rp1_16 := Lib.hid (row_ext Rp1_15.out hw)
            have Rx0_16 := Lib.hid (row_ext Rx0_15.out hw)
            have Rx1_16 := Lib.hid (row_ext Rx1_15.out hw)
            have Ow_16 := Lib.hid (Ow_15.out.ext hw)
            have Ox0_16 := Lib.hid (Ox0_15.out.ext hw)
            have Ox1_16 := Lib.hid (Ox1_15.out.ext hw)
            have Ox2_16 := Lib.hid (Ox2_15.out.ext hw)
            have Ox3_16 := Lib.hid (Ox3_15.out.ext hw)
            have Og_16 := Lib.hid (Og_15.out.ext hw)
            have Oz3_16 := Lib.hid ho.read
            clear hw ho hf
            obtain ⟨c330, c331, c332, -, -, -⟩ := row3_facts Rp0_16.out
            obtain ⟨c340, c341, c342, -, -, -⟩ := row3_facts Rp1_16.out
            clear c330 c331 c332 c340 c341 c342
            go_wp2_with fail
            (with_reducible refine (eqIntSS_same Ox3_16.out.read Oz3_16.out).mono ?_)
            rintro e w12 ⟨rfl, hw⟩
            have Z14 := Lib.hid (show w11.heap.size ≤ w12.heap.size from by have := hw.size; simpa using this)
            have K0_17 := Lib.hid (K0_16.out.trans' hw)
            have Rp0_17 := Lib.hid (row_ext Rp0_16.out hw)
            have Rp1_17 := Lib.hid (row_ext Rp1_16.out hw)
            have Rx0_17 := Lib.hid (row_ext Rx0_16.out hw)
            have Rx1_17 := Lib.hid (row_ext Rx1_16.out hw)
            have Ow_17 := Lib.hid (Ow_16.out.ext hw)
            have Ox0_17 := Lib.hid (Ox0_16.out.ext hw)
            have Ox1_17 := Lib.hid (Ox1_16.out.ext hw)
            have Ox2_17 := Lib.hid (Ox2_16.out.ext hw)
            have Ox3_17 := Lib.hid (Ox3_16.out.ext hw)
            have Og_17 := Lib.hid (Og_16.out.ext hw)
            have Oz3_17 := Lib.hid (Oz3_16.out.ext hw)
            clear hw
            obtain ⟨c350, c351, c352, -, -, -⟩ := row3_facts Rx0_17.out
            go_wp2_with fail
            (with_reducible refine (markNetwork_own Ox0_17.out NDx0.out hs0.out).mono ?_)
            obtain ⟨hq00, hq01⟩ := netLast_bound hs0.out
            rintro e w13 ⟨rfl, hc, hm⟩
            have Z15 := Lib.hid (show w12.heap.size ≤ w13.heap.size from by have := hc.size; simpa using this)
            have K0_18 := Lib.hid (Chg.ext K0_17.out hc fun b hb => by have := LOx0.out b hb; have := Z0.out; have := Z1.out; have := Z2.out; have := Z3.out; have := Z4.out; have := Z5.out; have := Z6.out; have := Z7.out; have := Z8.out; have := Z9.out; have := Z10.out; have := Z11.out; have := Z12.out; have := Z13.out; have := Z14.out; have := Z15.out; omega)
            have Rp0_18 := Lib.hid (Rp0_17.out.of_block (hc.block _ Rp0_17.out.lt fun hb => by have := LOx0.out _ hb; have := HIx0.out _ hb; have := Z0.out; have := Z1.out; have := Z2.out; have := Z3.out; have := Z4.out; have := Z5.out; have := Z6.out; have := Z7.out; have := Z8.out; have := Z9.out; have := Z10.out; have := Z11.out; have := Z12.out; have := Z13.out; have := Z14.out; have := Z15.out; omega))
            have Rp1_18 := Lib.hid (Rp1_17.out.of_block (hc.block _ Rp1_17.out.lt fun hb => by have := LOx0.out _ hb; have := HIx0.out _ hb; have := Z0.out; have := Z1.out; have := Z2.out; have := Z3.out; have := Z4.out; have := Z5.out; have := Z6.out; have := Z7.out; have := Z8.out; have := Z9.out; have := Z10.out; have := Z11.out; have := Z12.out; have := Z13.out; have := Z14.out; have := Z15.out; omega))
            have Rx0_18 := Lib.hid (Rx0_17.out.of_block (hc.block _ Rx0_17.out.lt fun hb => by have := LOx0.out _ hb; have := HIx0.out _ hb; have := Z0.out; have := Z1.out; have := Z2.out; have := Z3.out; have := Z4.out; have := Z5.out; have := Z6.out; have := Z7.out; have := Z8.out; have := Z9.out; have := Z10.out; have := Z11.out; have := Z12.out; have := Z13.out; have := Z14.out; have := Z15.out; omega))
            have Rx1_18 := Lib.hid (Rx1_17.out.of_block (hc.block _ Rx1_17.out.lt fun hb => by have := LOx0.out _ hb; have := HIx0.out _ hb; have := Z0.out; have := Z1.out; have := Z2.out; have := Z3.out; have := Z4.out; have := Z5.out; have := Z6.out; have := Z7.out; have := Z8.out; have := Z9.out; have := Z10.out; have := Z11.out; have := Z12.out; have := Z13.out; have := Z14.out; have := Z15.out; omega))
            have Ow_18 := Lib.hid (Ow_17.out.keep fun b hb => hc.block b (Ow_17.out.lt b hb) fun hb' => by have := LOx0.out b hb'; have := HIx0.out b hb'; have := LOw.out b hb; have := HIw.out b hb; have := Z0.out; have := Z1.out; have := Z2.out; have := Z3.out; have := Z4.out; have := Z5.out; have := Z6.out; have := Z7.out; have := Z8.out; have := Z9.out; have := Z10.out; have := Z11.out; have := Z12.out; have := Z13.out; have := Z14.out; have := Z15.out; omega)
            have Ox1_18 := Lib.hid (Ox1_17.out.keep fun b hb => hc.block b (Ox1_17.out.lt b hb) fun hb' => by have := LOx0.out b hb'; have := HIx0.out b hb'; have := LOx1.out b hb; have := HIx1.out b hb; have := Z0.out; have := Z1.out; have := Z2.out; have := Z3.out; have := Z4.out; have := Z5.out; have := Z6.out; have := Z7.out; have := Z8.out; have := Z9.out; have := Z10.out; have := Z11.out; have := Z12.out; have := Z13.out; have := Z14.out; have := Z15.out; omega)
            have Ox2_18 := Lib.hid (Ox2_17.out.keep fun b hb => hc.block b (Ox2_17.out.1.lt b hb) fun hb' => by have := LOx0.out b hb'; have := HIx0.out b hb'; have := LOx2.out b hb; have := HIx2.out b hb; have := Z0.out; have := Z1.out; have := Z2.out; have := Z3.out; have := Z4.out; have := Z5.out; have := Z6.out; have := Z7.out; have := Z8.out; have := Z9.out; have := Z10.out; have := Z11.out; have := Z12.out; have := Z13.out; have := Z14.out; have := Z15.out; omega)
            have Ox3_18 := Lib.hid (Ox3_17.out.keep fun b hb => hc.block b (Ox3_17.out.lt b hb) fun hb' => by have := LOx0.out b hb'; have := HIx0.out b hb'; have := LOx3.out b hb; have := HIx3.out b hb; have := Z0.out; have := Z1.out; have := Z2.out; have := Z3.out; have := Z4.out; have := Z5.out; have := Z6.out; have := Z7.out; have := Z8.out; have := Z9.out; have := Z10.out; have := Z11.out; have := Z12.out; have := Z13.out; have := Z14.out; have := Z15.out; omega)
            have Og_18 := Lib.hid (Og_17.out.keep fun b hb => hc.block b (Og_17.out.lt b hb) fun hb' => by have := LOx0.out b hb'; have := HIx0.out b hb'; have := LOg.out b hb; have := HIg.out b hb; have := Z0.out; have := Z1.out; have := Z2.out; have := Z3.out; have := Z4.out; have := Z5.out; have := Z6.out; have := Z7.out; have := Z8.out; have := Z9.out; have := Z10.out; have := Z11.out; have := Z12.out; have := Z13.out; have := Z14.out; have := Z15.out; omega)
            clear hc hm
            clear c350 c351 c352
            obtain ⟨c360, c361, c362, -, -, -⟩ := row3_facts Rx1_18.out
            go_wp2_with fail
            (with_reducible refine (markNetwork_at _ Ox1_18.out NDx1.out hs1.out (by omega) (by omega)).mono ?_)
            obtain ⟨hq10, hq11⟩ := netLast_bound hs1.out
            rintro e w14 ⟨rm1, rfl, hrm0, hrm1, hc⟩
            have Z16 := Lib.hid (show w13.heap.size ≤ w14.heap.size from by have := hc.size; simpa using this)
            have K0_19 := Lib.hid (Chg.ext K0_18.out hc fun b hb => by have := LOx1.out b hb; have := Z0.out; have := Z1.out; have := Z2.out; have := Z3.out; have := Z4.out; have := Z5.out; have := Z6.out; have := Z7.out; have := Z8.out; have := Z9.out; have := Z10.out; have := Z11.out; have := Z12.out; have := Z13.out; have := Z14.out; have := Z15.out; have := Z16.out; omega)
            have Rp0_19 := Lib.hid (Rp0_18.out.of_block (hc.block _ Rp0_18.out.lt fun hb => by have := LOx1.out _ hb; have := HIx1.out _ hb; have := Z0.out; have := Z1.out; have := Z2.out; have := Z3.out; have := Z4.out; have := Z5.out; have := Z6.out; have := Z7.out; have := Z8.out; have := Z9.out; have := Z10.out; have := Z11.out; have := Z12.out; have := Z13.out; have := Z14.out; have := Z15.out; have := Z16.out; omega))
            have Rp1_19 := Lib.hid (Rp1_18.out.of_block (hc.block _ Rp1_18.out.lt fun hb => by have := LOx1.out _ hb; have := HIx1.out _ hb; have := Z0.out; have := Z1.out; have := Z2.out; have := Z3.out; have := Z4.out; have := Z5.out; have := Z6.out; have := Z7.out; have := Z8.out; have := Z9.out; have := Z10.out; have := Z11.out; have := Z12.out; have := Z13.out; have := Z14.out; have := Z15.out; have := Z16.out; omega))
            have Rx1_19 := Lib.hid (Rx1_18.out.of_block (hc.block _ Rx1_18.out.lt fun hb => by have := LOx1.out _ hb; have := HIx1.out _ hb; have := Z0.out; have := Z1.out; have := Z2.out; have := Z3.out; have := Z4.out; have := Z5.out; have := Z6.out; have := Z7.out; have := Z8.out; have := Z9.out; have := Z10.out; have := Z11.out; have := Z12.out; have := Z13.out; have := Z14.out; have := Z15.out; have := Z16.out; omega))
            have Ow_19 := Lib.hid (Ow_18.out.keep fun b hb => hc.block b (Ow_18.out.lt b hb) fun hb' => by have := LOx1.out b hb'; have := HIx1.out b hb'; have := LOw.out b hb; have := HIw.out b hb; have := Z0.out; have := Z1.out; have := Z2.out; have := Z3.out; have := Z4.out; have := Z5.out; have := Z6.out; have := Z7.out; have := Z8.out; have := Z9.out; have := Z10.out; have := Z11.out; have := Z12.out; have := Z13.out; have := Z14.out; have := Z15.out; have := Z16.out; omega)
            have Ox2_19 := Lib.hid (Ox2_18.out.keep fun b hb => hc.block b (Ox2_18.out.1.lt b hb) fun hb' => by have := LOx1.out b hb'; have := HIx1.out b hb'; have := LOx2.out b hb; have := HIx2.out b hb; have := Z0.out; have := Z1.out; have := Z2.out; have := Z3.out; have := Z4.out; have := Z5.out; have := Z6.out; have := Z7.out; have := Z8.out; have := Z9.out; have := Z10.out; have := Z11.out; have := Z12.out; have := Z13.out; have := Z14.out; have := Z15.out; have := Z16.out; omega)
            have Ox3_19 := Lib.hid (Ox3_18.out.keep fun b hb => hc.block b (Ox3_18.out.lt b hb) fun hb' => by have := LOx1.out b hb'; have := HIx1.out b hb'; have := LOx3.out b hb; have := HIx3.out b hb; have := Z0.out; have := Z1.out; have := Z2.out; have := Z3.out; have := Z4.out; have := Z5.out; have := Z6.out; have := Z7.out; have := Z8.out; have := Z9.out; have := Z10.out; have := Z11.out; have := Z12.out; have := Z13.out; have := Z14.out; have := Z15.out; have := Z16.out; omega)
            have Og_19 := Lib.hid (Og_18.out.keep fun b hb => hc.block b (Og_18.out.lt b hb) fun hb' => by have := LOx1.out b hb'; have := HIx1.out b hb'; have := LOg.out b hb; have := HIg.out b hb; have := Z0.out; have := Z1.out; have := Z2.out; have := Z3.out; have := Z4.out; have := Z5.out; have := Z6.out; have := Z7.out; have := Z8.out; have := Z9.out; have := Z10.out; have := Z11.out; have := Z12.out; have := Z13.out; have := Z14.out; have := Z15.out; have := Z16.out; omega)
            clear hc
            clear c360 c361 c362
            go_wp2_with fail
            (with_reducible refine (markIntS_any _ Ox2_19.out hg2 (by omega) (by omega)).mono ?_)
            rintro e w15 ⟨rfl, hc, hm⟩
            have Z17 := Lib.hid (show w14.heap.size ≤ w15.heap.size from by have := hc.size; simpa using this)
            have K0_20 := Lib.hid (Chg.ext K0_19.out hc fun b hb => by have := LOx2.out b hb; have := Z0.out; have := Z1.out; have := Z2.out; have := Z3.out; have := Z4.out; have := Z5.out; have := Z6.out; have := Z7.out; have := Z8.out; have := Z9.out; have := Z10.out; have := Z11.out; have := Z12.out; have := Z13.out; have := Z14.out; have := Z15.out; have := Z16.out; have := Z17.out; omega)
            have Rp0_20 := Lib.hid (Rp0_19.out.of_block (hc.block _ Rp0_19.out.lt fun hb => by have := LOx2.out _ hb; have := HIx2.out _ hb; have := Z0.out; have := Z1.out; have := Z2.out; have := Z3.out; have := Z4.out; have := Z5.out; have := Z6.out; have := Z7.out; have := Z8.out; have := Z9.out; have := Z10.out; have := Z11.out; have := Z12.out; have := Z13.out; have := Z14.out; have := Z15.out; have := Z16.out; have := Z17.out; omega))
            have Rp1_20 := Lib.hid (Rp1_19.out.of_block (hc.block _ Rp1_19.out.lt fun hb => by have := LOx2.out _ hb; have := HIx2.out _ hb; have := Z0.out; have := Z1.out; have := Z2.out; have := Z3.out; have := Z4.out; have := Z5.out; have := Z6.out; have := Z7.out; have := Z8.out; have := Z9.out; have := Z10.out; have := Z11.out; have := Z12.out; have := Z13.out; have := Z14.out; have := Z15.out; have := Z16.out; have := Z17.out; omega))
            have Ow_20 := Lib.hid (Ow_19.out.keep fun b hb => hc.block b (Ow_19.out.lt b hb) fun hb' => by have := LOx2.out b hb'; have := HIx2.out b hb'; have := LOw.out b hb; have := HIw.out b hb; have := Z0.out; have := Z1.out; have := Z2.out; have := Z3.out; have := Z4.out; have := Z5.out; have := Z6.out; have := Z7.out; have := Z8.out; have := Z9.out; have := Z10.out; have := Z11.out; have := Z12.out; have := Z13.out; have := Z14.out; have := Z15.out; have := Z16.out; have := Z17.out; omega)
            have Ox3_20 := Lib.hid (Ox3_19.out.keep fun b hb => hc.block b (Ox3_19.out.lt b hb) fun hb' => by have := LOx2.out b hb'; have := HIx2.out b hb'; have := LOx3.out b hb; have := HIx3.out b hb; have := Z0.out; have := Z1.out; have := Z2.out; have := Z3.out; have := Z4.out; have := Z5.out; have := Z6.out; have := Z7.out; have := Z8.out; have := Z9.out; have := Z10.out; have := Z11.out; have := Z12.out; have := Z13.out; have := Z14.out; have := Z15.out; have := Z16.out; have := Z17.out; omega)
            have Og_20 := Lib.hid (Og_19.out.keep fun b hb => hc.block b (Og_19.out.lt b hb) fun hb' => by have := LOx2.out b hb'; have := HIx2.out b hb'; have := LOg.out b hb; have := HIg.out b hb; have := Z0.out; have := Z1.out; have := Z2.out; have := Z3.out; have := Z4.out; have := Z5.out; have := Z6.out; have := Z7.out; have := Z8.out; have := Z9.out; have := Z10.out; have := Z11.out; have := Z12.out; have := Z13.out; have := Z14.out; have := Z15.out; have := Z16.out; have := Z17.out; omega)
            clear hc hm
            go_wp2_with fail
            (with_reducible refine (markIntSS_at _ Ox3_20.out NDx3.out hs3.out (by omega) (by omega)).mono ?_)
            rintro e w16 ⟨rm3, rfl, hrm0, hrm1, hc⟩
            have Z18 := Lib.hid (show w15.heap.size ≤ w16.heap.size from by have := hc.size; simpa using this)
            have K0_21 := Lib.hid (Chg.ext K0_20.out hc fun b hb => by have := LOx3.out b hb; have := Z0.out; have := Z1.out; have := Z2.out; have := Z3.out; have := Z4.out; have := Z5.out; have := Z6.out; have := Z7.out; have := Z8.out; have := Z9.out; have := Z10.out; have := Z11.out; have := Z12.out; have := Z13.out; have := Z14.out; have := Z15.out; have := Z16.out; have := Z17.out; have := Z18.out; omega)
            have Rp0_21 := Lib.hid (Rp0_20.out.of_block (hc.block _ Rp0_20.out.lt fun hb => by have := LOx3.out _ hb; have := HIx3.out _ hb; have := Z0.out; have := Z1.out; have := Z2.out; have := Z3.out; have := Z4.out; have := Z5.out; have := Z6.out; have := Z7.out; have := Z8.out; have := Z9.out; have := Z10.out; have := Z11.out; have := Z12.out; have := Z13.out; have := Z14.out; have := Z15.out; have := Z16.out; have := Z17.out; have := Z18.out; omega))
            have Rp1_21 := Lib.hid (Rp1_20.out.of_block (hc.block _ Rp1_20.out.lt fun hb => by have := LOx3.out _ hb; have := HIx3.out _ hb; have := Z0.out; have := Z1.out; have := Z2.out; have := Z3.out; have := Z4.out; have := Z5.out; have := Z6.out; have := Z7.out; have := Z8.out; have := Z9.out; have := Z10.out; have := Z11.out; have := Z12.out; have := Z13.out; have := Z14.out; have := Z15.out; have := Z16.out; have := Z17.out; have := Z18.out; omega))
            have Ow_21 := Lib.hid (Ow_20.out.keep fun b hb => hc.block b (Ow_20.out.lt b hb) fun hb' => by have := LOx3.out b hb'; have := HIx3.out b hb'; have := LOw.out b hb; have := HIw.out b hb; have := Z0.out; have := Z1.out; have := Z2.out; have := Z3.out; have := Z4.out; have := Z5.out; have := Z6.out; have := Z7.out; have := Z8.out; have := Z9.out; have := Z10.out; have := Z11.out; have := Z12.out; have := Z13.out; have := Z14.out; have := Z15.out; have := Z16.out; have := Z17.out; have := Z18.out; omega)
            have Og_21 := Lib.hid (Og_20.out.keep fun b hb => hc.block b (Og_20.out.lt b hb) fun hb' => by have := LOx3.out b hb'; have := HIx3.out b hb'; have := LOg.out b hb; have := HIg.out b hb; have := Z0.out; have := Z1.out; have := Z2.out; have := Z3.out; have := Z4.out; have := Z5.out; have := Z6.out; have := Z7.out; have := Z8.out; have := Z9.out; have := Z10.out; have := Z11.out; have := Z12.out; have := Z13.out; have := Z14.out; have := Z15.out; have := Z16.out; have := Z17.out; have := Z18.out; omega)
            clear hc
            go_wp2_with fail
            (with_reducible refine (eqIntSS_same Og_21.out.read Ow_21.out.read).mono ?_)
            rintro e w17 ⟨rfl, hw⟩
            have Z19 := Lib.hid (show w16.heap.size ≤ w17.heap.size from by have := hw.size; simpa using this)
            have K0_22 := Lib.hid (K0_21.out.trans' hw)
            have Rp0_22 := Lib.hid (row_ext Rp0_21.out hw)
            have Rp1_22 := Lib.hid (row_ext Rp1_21.out hw)
            have Ow_22 := Lib.hid (Ow_21.out.ext hw)
            have Og_22 := Lib.hid (Og_21.out.ext hw)
            clear hw
            go_wp2_with fail
            (with_reducible refine (markIntSS_own Og_22.out NDg.out HLL.out).mono ?_)
            rintro e w18 ⟨rfl, hc, hm⟩
            have Z20 := Lib.hid (show w17.heap.size ≤ w18.heap.size from by have := hc.size; simpa using this)
            have K0_23 := Lib.hid (Chg.ext K0_22.out hc fun b hb => by have := LOg.out b hb; have := Z0.out; have := Z1.out; have := Z2.out; have := Z3.out; have := Z4.out; have := Z5.out; have := Z6.out; have := Z7.out; have := Z8.out; have := Z9.out; have := Z10.out; have := Z11.out; have := Z12.out; have := Z13.out; have := Z14.out; have := Z15.out; have := Z16.out; have := Z17.out; have := Z18.out; have := Z19.out; have := Z20.out; omega)
            have Rp0_23 := Lib.hid (Rp0_22.out.of_block (hc.block _ Rp0_22.out.lt fun hb => by have := LOg.out _ hb; have := HIg.out _ hb; have := Z0.out; have := Z1.out; have := Z2.out; have := Z3.out; have := Z4.out; have := Z5.out; have := Z6.out; have := Z7.out; have := Z8.out; have := Z9.out; have := Z10.out; have := Z11.out; have := Z12.out; have := Z13.out; have := Z14.out; have := Z15.out; have := Z16.out; have := Z17.out; have := Z18.out; have := Z19.out; have := Z20.out; omega))
            have Rp1_23 := Lib.hid (Rp1_22.out.of_block (hc.block _ Rp1_22.out.lt fun hb => by have := LOg.out _ hb; have := HIg.out _ hb; have := Z0.out; have := Z1.out; have := Z2.out; have := Z3.out; have := Z4.out; have := Z5.out; have := Z6.out; have := Z7.out; have := Z8.out; have := Z9.out; have := Z10.out; have := Z11.out; have := Z12.out; have := Z13.out; have := Z14.out; have := Z15.out; have := Z16.out; have := Z17.out; have := Z18.out; have := Z19.out; have := Z20.out; omega))
            have Ow_23 := Lib.hid (Ow_22.out.keep fun b hb => hc.block b (Ow_22.out.lt b hb) fun hb' => by have := LOg.out b hb'; have := HIg.out b hb'; have := LOw.out b hb; have := HIw.out b hb; have := Z0.out; have := Z1.out; have := Z2.out; have := Z3.out; have := Z4.out; have := Z5.out; have := Z6.out; have := Z7.out; have := Z8.out; have := Z9.out; have := Z10.out; have := Z11.out; have := Z12.out; have := Z13.out; have := Z14.out; have := Z15.out; have := Z16.out; have := Z17.out; have := Z18.out; have := Z19.out; have := Z20.out; omega)
            have Og_23 := Lib.hid hm
            clear hc hm
            obtain ⟨hq0, _⟩ := HQ.out
            have hqq : (iLast (ppAns N0 N1 l2 l3) != iLast (ppAns N0 N1 l2 l3)) = false := by simp
            go_wp2_with fail
            (with_reducible refine (heldIntSS_any Og_23.out.read HLL.out).mono ?_)
            rintro e w19 ⟨rfl, hw⟩
            have Z21 := Lib.hid (show w18.heap.size ≤ w19.heap.size from by have := hw.size; simpa using this)
            have K0_24 := Lib.hid (K0_23.out.trans' hw)
            have Rp0_24 := Lib.hid (row_ext Rp0_23.out hw)
            have Rp1_24 := Lib.hid (row_ext Rp1_23.out hw)
            have Ow_24 := Lib.hid (Ow_23.out.ext hw)
            have Og_24 := Lib.hid (Og_23.out.ext hw)
            clear hw
            obtain ⟨c370, c371, c372, -, -, -⟩ := row3_facts Rp0_24.out
            obtain ⟨c380, c381, c382, -, -, -⟩ := row3_facts Rp1_24.out
            clear c370 c371 c372 c380 c381 c382
            obtain ⟨c390, c391, c392, -, -, -⟩ := row3_facts Rp0_24.out
            obtain ⟨c400, c401, c402, -, -, -⟩ := row3_facts Rp1_24.out
            have mkS : ∀ w' : World, Ext w19 w' → w'.cell? ⟨w.heap.size, 0, none⟩ = some v00 ∧ w'.cell? ⟨w.heap.size, 1, none⟩ = some v01 ∧ w'.cell? ⟨w.heap.size, 2, none⟩ = some v02 ∧ w'.cell? ⟨(w.heap.size + 1), 0, none⟩ = some v10 ∧ w'.cell? ⟨(w.heap.size + 1), 1, none⟩ = some v11 ∧ w'.cell? ⟨(w.heap.size + 1), 2, none⟩ = some v12 ∧ Hid (Ext w19 w') := fun w' h => ⟨h.cell' c390, h.cell' c391, h.cell' c392, h.cell' c400, h.cell' c401, h.cell' c402, h⟩
            go_wp2_with fail
            go_cut [21, 22] from 135 to 146 (fun t6 t7 wx => ∃ (v : Value) (bs : List Nat), t6 = v ∧ t7 = .bool (dec (PpB N0 N1 l2 l3)) ∧ Hid (Ext w19 wx ∧ OwnII wx v (ppAns N0 N1 l2 l3) bs ∧ bs.Nodup ∧ ∀ b ∈ bs, w19.heap.size ≤ b))
            case first =>
              go_region_held3 (fun w' => w'.cell? ⟨w.heap.size, 0, none⟩ = some v00 ∧ w'.cell? ⟨w.heap.size, 1, none⟩ = some v01 ∧ w'.cell? ⟨w.heap.size, 2, none⟩ = some v02 ∧ w'.cell? ⟨(w.heap.size + 1), 0, none⟩ = some v10 ∧ w'.cell? ⟨(w.heap.size + 1), 1, none⟩ = some v11 ∧ w'.cell? ⟨(w.heap.size + 1), 2, none⟩ = some v12 ∧ Hid (Ext w19 w')) (first | exact mkS _ (Ext.rfl' w19).drew' | exact mkS _ XA.out | exact mkS _ XB.out | exact mkS _ XC.out | exact mkS _ XD.out | exact mkS _ XZ.out | fail)
                (first | (go_at_call_of 20 (Value.agg #[v00, v01, v02]); (with_reducible refine (toNetwork_own (HN0.out.ext (K0_24.out.trans' ((‹_ ∧ _ ∧ _ ∧ _ ∧ _ ∧ _ ∧ Hid (Ext w19 _)›).2.2.2.2.2.2.out))) hs0.out).mono ?_); rintro e wqA ⟨yA, bA, rfl, hx, ho, hf⟩; have XA := Lib.hid (Ext.trans' ((‹_ ∧ _ ∧ _ ∧ _ ∧ _ ∧ _ ∧ Hid (Ext w19 _)›).2.2.2.2.2.2.out) hx); have OA0 := Lib.hid ho.read; clear ho hf) | (go_at_call_of 20 (Value.agg #[v10, v11, v12]); (with_reducible refine (toNetwork_own (HN1.out.ext (K0_24.out.trans' ((‹_ ∧ _ ∧ _ ∧ _ ∧ _ ∧ _ ∧ Hid (Ext w19 _)›).2.2.2.2.2.2.out))) hs1.out).mono ?_); rintro e wqB ⟨yB, bB, rfl, hx, ho, hf⟩; have XB := Lib.hid (Ext.trans' ((‹_ ∧ _ ∧ _ ∧ _ ∧ _ ∧ _ ∧ Hid (Ext w19 _)›).2.2.2.2.2.2.out) hx); have OA1 := Lib.hid (OA0.out.ext hx); have OB1 := Lib.hid ho.read; clear ho hf) | (go_at_call 26; (with_reducible refine (toIntS_own (HN2.out.ext (K0_24.out.trans' ((‹_ ∧ _ ∧ _ ∧ _ ∧ _ ∧ _ ∧ Hid (Ext w19 _)›).2.2.2.2.2.2.out))) hg2).mono ?_); rintro e wqC ⟨yCa, yCc, bC, rfl, hx, ho, hf⟩; have XC := Lib.hid (Ext.trans' ((‹_ ∧ _ ∧ _ ∧ _ ∧ _ ∧ _ ∧ Hid (Ext w19 _)›).2.2.2.2.2.2.out) hx); have OA2 := Lib.hid (OA1.out.ext hx); have OB2 := Lib.hid (OB1.out.ext hx); have OC2 := Lib.hid ho.read; clear ho hf) | (go_at_call 52; (with_reducible refine (toIntSS_own (HN3.out.ext (K0_24.out.trans' ((‹_ ∧ _ ∧ _ ∧ _ ∧ _ ∧ _ ∧ Hid (Ext w19 _)›).2.2.2.2.2.2.out))) hs3a hs3b).mono ?_); rintro e wqD ⟨yDa, yDc, bD, rfl, hx, ho, hf⟩; have XD := Lib.hid (Ext.trans' ((‹_ ∧ _ ∧ _ ∧ _ ∧ _ ∧ _ ∧ Hid (Ext w19 _)›).2.2.2.2.2.2.out) hx); have OA3 := Lib.hid (OA2.out.ext hx); have OB3 := Lib.hid (OB2.out.ext hx); have OC3 := Lib.hid (OC2.out.ext hx); have OD3 := Lib.hid ho.read; clear ho hf) | (go_at_call 59; (with_reducible refine (pullPortsL_any OA3.out OB3.out OC3.out hg2 OD3.out hs3.out).mono ?_); rintro e wz ⟨xz, bz, rfl, hx, ho, hf⟩; have XZ := Lib.hid (Ext.trans' ((‹_ ∧ _ ∧ _ ∧ _ ∧ _ ∧ _ ∧ Hid (Ext w19 _)›).2.2.2.2.2.2.out) hx); have FZ : Hid (bz.Nodup ∧ ∀ b ∈ bz, w19.heap.size ≤ b) := ⟨hf.1, fun b hb => Nat.le_trans ((‹_ ∧ _ ∧ _ ∧ _ ∧ _ ∧ _ ∧ Hid (Ext w19 _)›).2.2.2.2.2.2.out).size (hf.2 b hb)⟩; have OZ := Lib.hid ho; clear ho hf))
              all_goals go_wp2_with fail
              all_goals go_meet
              all_goals exact ⟨_, _, rfl, rfl, XZ.out, OZ.out, FZ.out⟩
            case rest =>
              obtain ⟨xh, bh, rfl, rfl, XC⟩ := hcut
              clear mkS
              obtain ⟨w9h, h9⟩ : ∃ w9 : World, w9 = wc := ⟨_, rfl⟩
              subst h9
              clear c390 c391 c392 c400 c401 c402
              have LOh := Lib.hid XC.out.2.2.2
              have HIh := Lib.hid (show ∀ b ∈ bh, b < w9h.heap.size from XC.out.2.1.lt)
              have NDh := Lib.hid XC.out.2.2.1
              have Z22 := Lib.hid (show w19.heap.size ≤ w9h.heap.size from by have := XC.out.1.size; simpa using this)
              have K0_25 := Lib.hid (K0_24.out.trans' XC.out.1)
              have Rp0_25 := Lib.hid (row_ext Rp0_24.out XC.out.1)
              have Rp1_25 := Lib.hid (row_ext Rp1_24.out XC.out.1)
              have Ow_25 := Lib.hid (Ow_24.out.ext XC.out.1)
              have Og_25 := Lib.hid (Og_24.out.ext XC.out.1)
              have Oh_25 := Lib.hid XC.out.2.1
              go_wp2_with fail
              (with_reducible refine (eqIntSS_same Oh_25.out.read Ow_25.out.read).mono ?_)
              rintro e w20 ⟨rfl, hw⟩
              have Z23 := Lib.hid (show w9h.heap.size ≤ w20.heap.size from by have := hw.size; simpa using this)
              have K0_26 := Lib.hid (K0_25.out.trans' hw)
              have Rp0_26 := Lib.hid (row_ext Rp0_25.out hw)
              have Rp1_26 := Lib.hid (row_ext Rp1_25.out hw)
              have Ow_26 := Lib.hid (Ow_25.out.ext hw)
              have Og_26 := Lib.hid (Og_25.out.ext hw)
              have Oh_26 := Lib.hid (Oh_25.out.ext hw)
              clear hw
              obtain ⟨hq0, _⟩ := HQ.out
              have hqq : (iLast (ppAns N0 N1 l2 l3) != iLast (ppAns N0 N1 l2 l3)) = false := by simp
              go_wp2_with fail
              (with_reducible refine (heldIntSS_any Og_26.out.read HLL.out).mono ?_)
              rintro e w21 ⟨rfl, hw⟩
              have Z24 := Lib.hid (show w20.heap.size ≤ w21.heap.size from by have := hw.size; simpa using this)
              have K0_27 := Lib.hid (K0_26.out.trans' hw)
              have Rp0_27 := Lib.hid (row_ext Rp0_26.out hw)
              have Rp1_27 := Lib.hid (row_ext Rp1_26.out hw)
              have Ow_27 := Lib.hid (Ow_26.out.ext hw)
              have Og_27 := Lib.hid (Og_26.out.ext hw)
              have Oh_27 := Lib.hid (Oh_26.out.ext hw)
              clear hw
              go_wp2
              go_ret
              exact ⟨rfl, K0_27.out⟩
theorem walk_PullPorts {w : World} {v0 : Value} {N0 : Net} {v1 : Value} {N1 : Net} {v2 : Value} {l2 : List Int} {v3 : Value} {l3 : List (List Int)} (h0 : NetAt w v0 N0) (h1 : NetAt w v1 N1) (h2 : IntSl w v2 l2) (h3 : IntSS w v3 l3) :
    Calls Try.prog 16 #[v0, v1, v2, v3] w fun e w' => e = .returned (.bool true) ∧ Ext w w' := walk_PullPorts_of  h0 h1 h2 h3 (ppAns_small _ _ _ _)
end Go.Proofs.Ytgacbfblpkikkaa
