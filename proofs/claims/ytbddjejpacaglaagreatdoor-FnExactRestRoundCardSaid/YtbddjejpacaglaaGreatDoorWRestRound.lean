/- The walk of FnExactRestRound: whatever the arguments, the law answers true and changes nothing that was there. No condition but that the answer is short. -/
import Derived.Test.YtbddjejpacaglaaGreatDoorVrn
import Derived.Test.YtbddjejpacaglaaGreatDoorVpk
import Derived.Test.YtbddjejpacaglaaGreatDoorMk
import Derived.Test.YtbddjejpacaglaaGreatDoorKc
namespace Go.Proofs.YtbddjejpacaglaaGreatDoor
open Go.RowKit

set_option maxHeartbeats 6400000 in
set_option maxRecDepth 100000 in
theorem walk_RestRound {w : World} {v0 : Value} {l0 : List (Int × Int)} {v1 : Value} {N1 : Net} {v2 : Value} {l2 : List Int} (n3 : Int) (h0 : EndSl w v0 l0) (h1 : NetAt w v1 N1) (h2 : IntSl w v2 l2) (hPrem : Pw w) :
    Calls Tryz.prog 6 #[v0, v1, v2, .int .i64 n3] w fun e w' => e = .returned (.bool true) ∧ Ext w w' := by
  have HPW := Lib.hid hPrem
  have HN0 := Lib.hid h0
  obtain ⟨la0, _, _, lc0, rfl, -, -, lm0, -⟩ := h0
  unfold maxLen at lm0
  have HN1 := Lib.hid h1
  obtain ⟨v10, v11, v12, rfl, hE, hI, hP⟩ := h1
  clear hE hI hP
  have HN2 := Lib.hid h2
  obtain ⟨la2, _, _, lc2, rfl, -, -, lm2, -⟩ := h2
  unfold maxLen at lm2
  have K0 := Lib.hid (boxed_ext w v10 v11 v12 26)
  have Rp1_0 := Lib.hid (show World.rowIs (boxed w v10 v11 v12 26) w.heap.size 26 3 (tri v10 v11 v12) from boxed_row w v10 v11 v12 26)
  have hmm : ((rrAns l0 N1 l2 n3) != (rrAns l0 N1 l2 n3)) = false := by simp
  have hbb : (dec (RestB l0 N1 l2 n3) != dec (RestB l0 N1 l2 n3)) = false := by simp
  by_cases hg2 : l2.length ≤ 1048576
  case neg =>
    go_enter Tryz.func6, Tryz.ntmps6
    go_wp2
    go_ret
    exact ⟨rfl, K0.out⟩
  case pos =>
    go_enter Tryz.func6, Tryz.ntmps6
    go_wp2_with fail
    (with_reducible refine (szValueOpS_any _ (HN0.out.ext K0.out) (by omega) (by omega)).mono ?_)
    rintro e _ ⟨r0, rfl, rfl, hr10, hr00, hr2⟩
    have S0 := Lib.hid hr2
    clear hr2
    by_cases hneg0 : r0 < 0
    case pos =>
      go_wp2
      go_ret
      exact ⟨rfl, K0.out⟩
    case neg =>
      have hs0 : l0.length ≤ 1048576 := by have := S0.out (by omega); omega
      obtain ⟨c10, c11, c12, -, -, -⟩ := row3_facts Rp1_0.out
      go_wp2_with fail
      (with_reducible refine (szNetwork_any _ (HN1.out.ext K0.out) (by omega) (by omega)).mono ?_)
      rintro e w1 ⟨r1, rfl, hw, hr01, hr11, hr2⟩
      have Z0 := Lib.hid (show w.heap.size + 1 ≤ w1.heap.size from by have := hw.size; simpa using this)
      have K0_1 := Lib.hid (K0.out.trans' hw)
      have Rp1_1 := Lib.hid (row_ext Rp1_0.out hw)
      have S1 := Lib.hid hr2
      clear hw hr2
      clear c10 c11 c12
      obtain ⟨c20, c21, c22, -, -, -⟩ := row3_facts Rp1_1.out
      by_cases hneg1 : r1 < 0
      case pos =>
        go_wp2
        go_ret
        exact ⟨rfl, K0_1.out⟩
      case neg =>
        have hs1 := Lib.hid (S1.out (by omega))
        clear c20 c21 c22
        obtain ⟨c30, c31, c32, -, -, -⟩ := row3_facts Rp1_1.out
        clear c30 c31 c32
        obtain ⟨c40, c41, c42, -, -, -⟩ := row3_facts Rp1_1.out
        have mkS : ∀ w' : World, Ext w1 w' → w'.cell? ⟨w.heap.size, 0, none⟩ = some v10 ∧ w'.cell? ⟨w.heap.size, 1, none⟩ = some v11 ∧ w'.cell? ⟨w.heap.size, 2, none⟩ = some v12 ∧ Hid (Ext w1 w') := fun w' h => ⟨h.cell' c40, h.cell' c41, h.cell' c42, h⟩
        go_wp2_with fail
        go_cut [10, 11] from 31 to 41 (fun t6 t7 wx => t6 = .int .i64 (rrAns l0 N1 l2 n3) ∧ t7 = .bool (dec (RestB l0 N1 l2 n3)) ∧ Hid (Ext w1 wx))
        case first =>
          go_region_held3 (fun w' => w'.cell? ⟨w.heap.size, 0, none⟩ = some v10 ∧ w'.cell? ⟨w.heap.size, 1, none⟩ = some v11 ∧ w'.cell? ⟨w.heap.size, 2, none⟩ = some v12 ∧ Hid (Ext w1 w')) (first | exact mkS _ (Ext.rfl' w1).drew' | exact mkS _ XA.out | exact mkS _ XB.out | exact mkS _ XC.out | exact mkS _ XZ.out | fail)
            (first | (go_at_call 10; (with_reducible refine (toValueOpS_own (HN0.out.ext (K0_1.out.trans' ((‹_ ∧ _ ∧ _ ∧ Hid (Ext w1 _)›).2.2.2.out))) hs0).mono ?_); rintro e wqA ⟨yAa, yAc, bA, rfl, hx, ho, hf⟩; have XA := Lib.hid (Ext.trans' ((‹_ ∧ _ ∧ _ ∧ Hid (Ext w1 _)›).2.2.2.out) hx); have OA0 := Lib.hid ho.read; clear ho hf) | (go_at_call_of 11 (Value.agg #[v10, v11, v12]); (with_reducible refine (toNetwork_own (HN1.out.ext (K0_1.out.trans' ((‹_ ∧ _ ∧ _ ∧ Hid (Ext w1 _)›).2.2.2.out))) hs1.out).mono ?_); rintro e wqB ⟨yB, bB, rfl, hx, ho, hf⟩; have XB := Lib.hid (Ext.trans' ((‹_ ∧ _ ∧ _ ∧ Hid (Ext w1 _)›).2.2.2.out) hx); have OA1 := Lib.hid (OA0.out.ext hx); have OB1 := Lib.hid ho.read; clear ho hf) | (go_at_call 12; (with_reducible refine (toIntS_own (HN2.out.ext (K0_1.out.trans' ((‹_ ∧ _ ∧ _ ∧ Hid (Ext w1 _)›).2.2.2.out))) hg2).mono ?_); rintro e wqC ⟨yCa, yCc, bC, rfl, hx, ho, hf⟩; have XC := Lib.hid (Ext.trans' ((‹_ ∧ _ ∧ _ ∧ Hid (Ext w1 _)›).2.2.2.out) hx); have OA2 := Lib.hid (OA1.out.ext hx); have OB2 := Lib.hid (OB1.out.ext hx); have OC2 := Lib.hid ho.read; clear ho hf) | (go_at_call 28; (with_reducible refine (specRestV n3 OA2.out OB2.out OC2.out hg2).mono ?_); rintro e wz ⟨rfl, hx⟩; have XZ := Lib.hid (Ext.trans' ((‹_ ∧ _ ∧ _ ∧ Hid (Ext w1 _)›).2.2.2.out) hx)))
          all_goals go_wp2_with fail
          all_goals go_meet
          all_goals exact ⟨rfl, rfl, XZ.out⟩
        case rest =>
          obtain ⟨rfl, rfl, XC⟩ := hcut
          clear mkS
          obtain ⟨w9, h9⟩ : ∃ w9 : World, w9 = wc := ⟨_, rfl⟩
          subst h9
          clear c40 c41 c42
          have Z1 := Lib.hid (show w1.heap.size ≤ w9.heap.size from by have := XC.out.size; simpa using this)
          have K0_2 := Lib.hid (K0_1.out.trans' XC.out)
          have Rp1_2 := Lib.hid (row_ext Rp1_1.out XC.out)
          obtain ⟨c50, c51, c52, -, -, -⟩ := row3_facts Rp1_2.out
          go_wp2_with fail
          (with_reducible refine (toValueOpS_own (HN0.out.ext K0_2.out) hs0).mono ?_)
          rintro e w2 ⟨x0a, x0c, bx0, rfl, hw, ho, hf⟩
          have Z2 := Lib.hid (show w9.heap.size ≤ w2.heap.size from by have := hw.size; simpa using this)
          have LOx0 := Lib.hid (show ∀ b ∈ bx0, w9.heap.size ≤ b from fun b hb => by have := hf.2 b hb; simpa using this)
          have HIx0 := Lib.hid (show ∀ b ∈ bx0, b < w2.heap.size from ho.1.lt)
          have NDx0 : Hid bx0.Nodup := hf.1
          have K0_3 := Lib.hid (K0_2.out.trans' hw)
          have Rp1_3 := Lib.hid (row_ext Rp1_2.out hw)
          have Ox0_3 := Lib.hid ho
          clear hw ho hf
          clear c50 c51 c52
          obtain ⟨c60, c61, c62, -, -, -⟩ := row3_facts Rp1_3.out
          go_wp2_with fail
          (with_reducible refine (toNetwork_own (HN1.out.ext K0_3.out) hs1.out).mono ?_)
          rintro e w3 ⟨xx1, bx1, rfl, hw, ho, hf⟩
          have Z3 := Lib.hid (show w2.heap.size ≤ w3.heap.size from by have := hw.size; simpa using this)
          have LOx1 := Lib.hid (show ∀ b ∈ bx1, w2.heap.size ≤ b from fun b hb => by have := hf.2 b hb; simpa using this)
          have HIx1 := Lib.hid (show ∀ b ∈ bx1, b < w3.heap.size from ho.lt)
          have NDx1 : Hid bx1.Nodup := hf.1
          obtain ⟨x1a0, x1c0, x1a1, x1c1, x1a2, x1c2, rfl⟩ := ho.agg
          have K0_4 := Lib.hid (K0_3.out.trans' hw)
          have Rp1_4 := Lib.hid (row_ext Rp1_3.out hw)
          have Ox0_4 := Lib.hid (Ox0_3.out.ext hw)
          have Ox1_4 := Lib.hid ho
          clear hw ho hf
          clear c60 c61 c62
          obtain ⟨c70, c71, c72, -, -, -⟩ := row3_facts Rp1_4.out
          have hA := (Ext.rfl' w3).alloc' (.cells #[.slice x1a0 N1.ends.length x1c0, .slice x1a1 N1.ids.length x1c1, .slice x1a2 N1.inputs.length x1c2] 35)
          have K0_5 := Lib.hid (K0_4.out.trans' hA)
          have Rp1_5 := Lib.hid (row_ext Rp1_4.out hA)
          have Ox0_5 := Lib.hid (Ox0_4.out.ext hA)
          have Ox1_5 := Lib.hid (Ox1_4.out.ext hA)
          have Rx1_5 := Lib.hid (row3_made w3 (.slice x1a0 N1.ends.length x1c0) (.slice x1a1 N1.ids.length x1c1) (.slice x1a2 N1.inputs.length x1c2) 35)
          clear hA
          clear c70 c71 c72
          obtain ⟨c80, c81, c82, -, -, -⟩ := row3_facts Rp1_5.out
          go_wp2_with fail
          (with_reducible refine (toIntS_own (HN2.out.ext K0_5.out) hg2).mono ?_)
          rintro e w4 ⟨x2a, x2c, bx2, rfl, hw, ho, hf⟩
          have Z4 := Lib.hid (show w3.heap.size + 1 ≤ w4.heap.size from by have := hw.size; simpa using this)
          have LOx2 := Lib.hid (show ∀ b ∈ bx2, w3.heap.size + 1 ≤ b from fun b hb => by have := hf.2 b hb; simpa using this)
          have HIx2 := Lib.hid (show ∀ b ∈ bx2, b < w4.heap.size from ho.1.lt)
          have NDx2 : Hid bx2.Nodup := hf.1
          have K0_6 := Lib.hid (K0_5.out.trans' hw)
          have Rp1_6 := Lib.hid (row_ext Rp1_5.out hw)
          have Rx1_6 := Lib.hid (row_ext Rx1_5.out hw)
          have Ox0_6 := Lib.hid (Ox0_5.out.ext hw)
          have Ox1_6 := Lib.hid (Ox1_5.out.ext hw)
          have Ox2_6 := Lib.hid ho
          clear hw ho hf
          clear c80 c81 c82
          obtain ⟨c90, c91, c92, -, -, -⟩ := row3_facts Rp1_6.out
          clear c90 c91 c92
          obtain ⟨c100, c101, c102, -, -, -⟩ := row3_facts Rx1_6.out
          go_wp2_with fail
          (with_reducible refine (implRestV n3 Ox0_6.out.read Ox1_6.out.read Ox2_6.out.read hg2 (HPW.out.ext K0_6.out)).mono ?_)
          rintro e w5 ⟨rfl, hw⟩
          have Z5 := Lib.hid (show w4.heap.size ≤ w5.heap.size from by have := hw.size; simpa using this)
          have K0_7 := Lib.hid (K0_6.out.trans' hw)
          have Rp1_7 := Lib.hid (row_ext Rp1_6.out hw)
          have Rx1_7 := Lib.hid (row_ext Rx1_6.out hw)
          have Ox0_7 := Lib.hid (Ox0_6.out.ext hw)
          have Ox1_7 := Lib.hid (Ox1_6.out.ext hw)
          have Ox2_7 := Lib.hid (Ox2_6.out.ext hw)
          clear hw
          clear c100 c101 c102
          go_wp2_with fail
          (with_reducible refine (toValueOpS_own (HN0.out.ext K0_7.out) hs0).mono ?_)
          rintro e w6 ⟨z0a, z0c, bz0, rfl, hw, ho, hf⟩
          have Z6 := Lib.hid (show w5.heap.size ≤ w6.heap.size from by have := hw.size; simpa using this)
          have K0_8 := Lib.hid (K0_7.out.trans' hw)
          have Rp1_8 := Lib.hid (row_ext Rp1_7.out hw)
          have Rx1_8 := Lib.hid (row_ext Rx1_7.out hw)
          have Ox0_8 := Lib.hid (Ox0_7.out.ext hw)
          have Ox1_8 := Lib.hid (Ox1_7.out.ext hw)
          have Ox2_8 := Lib.hid (Ox2_7.out.ext hw)
          have Oz0_8 := Lib.hid ho.read
          clear hw ho hf
          obtain ⟨c110, c111, c112, -, -, -⟩ := row3_facts Rp1_8.out
          clear c110 c111 c112
          go_wp2_with fail
          (with_reducible refine (eqValueOpS_same Ox0_8.out.read Oz0_8.out).mono ?_)
          rintro e w7 ⟨rfl, hw⟩
          have Z7 := Lib.hid (show w6.heap.size ≤ w7.heap.size from by have := hw.size; simpa using this)
          have K0_9 := Lib.hid (K0_8.out.trans' hw)
          have Rp1_9 := Lib.hid (row_ext Rp1_8.out hw)
          have Rx1_9 := Lib.hid (row_ext Rx1_8.out hw)
          have Ox0_9 := Lib.hid (Ox0_8.out.ext hw)
          have Ox1_9 := Lib.hid (Ox1_8.out.ext hw)
          have Ox2_9 := Lib.hid (Ox2_8.out.ext hw)
          have Oz0_9 := Lib.hid (Oz0_8.out.ext hw)
          clear hw
          obtain ⟨c120, c121, c122, -, -, -⟩ := row3_facts Rp1_9.out
          obtain ⟨c130, c131, c132, -, -, -⟩ := row3_facts Rx1_9.out
          go_wp2_with fail
          have Hd := Lib.hid (Ext.rfl' w7).drew'
          go_region_held3 (fun w' => w'.cell? ⟨w.heap.size, 0, none⟩ = some v10 ∧ w'.cell? ⟨w.heap.size, 1, none⟩ = some v11 ∧ w'.cell? ⟨w.heap.size, 2, none⟩ = some v12 ∧ w'.cell? ⟨w3.heap.size, 0, none⟩ = some (.slice x1a0 N1.ends.length x1c0) ∧ w'.cell? ⟨w3.heap.size, 1, none⟩ = some (.slice x1a1 N1.ids.length x1c1) ∧ w'.cell? ⟨w3.heap.size, 2, none⟩ = some (.slice x1a2 N1.inputs.length x1c2) ∧ Hid (Ext w7 w')) (first | exact ⟨c120, c121, c122, c130, c131, c132, Hd⟩ | exact ⟨hx.cell' (Hd.out.cell' c120), hx.cell' (Hd.out.cell' c121), hx.cell' (Hd.out.cell' c122), hx.cell' (Hd.out.cell' c130), hx.cell' (Hd.out.cell' c131), hx.cell' (Hd.out.cell' c132), Hd.out.trans' hx⟩ | exact ⟨hy.cell' (hx.cell' (Hd.out.cell' c120)), hy.cell' (hx.cell' (Hd.out.cell' c121)), hy.cell' (hx.cell' (Hd.out.cell' c122)), hy.cell' (hx.cell' (Hd.out.cell' c130)), hy.cell' (hx.cell' (Hd.out.cell' c131)), hy.cell' (hx.cell' (Hd.out.cell' c132)), (Hd.out.trans' hx).trans' hy⟩)
            (first | (go_at_call 11; (with_reducible refine (toNetwork_own (HN1.out.ext (K0_9.out.trans' Hd.out)) hs1.out).mono ?_); rintro e wa1 ⟨z, bz, rfl, hx, hoz, hfz⟩; have OZ := Lib.hid hoz.read; have HXZ := Lib.hid hx; clear hoz hfz) | (go_at_call 16; (with_reducible refine (eqNetwork_same (Ox1_9.out.read.ext (Hd.out.trans' HXZ.out)) OZ.out).mono ?_); rintro e wb1 ⟨rfl, hy⟩))
          rename_i hh
          have HY := hh.2.2.2.2.2.2
          clear hh hx hy HXZ OZ
          clear c120 c121 c122 c130 c131 c132
          clear Hd
          have Z8 := Lib.hid (show w7.heap.size ≤ wb1.heap.size from by have := HY.out.size; simpa using this)
          have K0_10 := Lib.hid (K0_9.out.trans' HY.out)
          have Rp1_10 := Lib.hid (row_ext Rp1_9.out HY.out)
          have Rx1_10 := Lib.hid (row_ext Rx1_9.out HY.out)
          have Ox0_10 := Lib.hid (Ox0_9.out.ext HY.out)
          have Ox1_10 := Lib.hid (Ox1_9.out.ext HY.out)
          have Ox2_10 := Lib.hid (Ox2_9.out.ext HY.out)
          clear HY
          go_wp2_with fail
          (with_reducible refine (toIntS_own (HN2.out.ext K0_10.out) hg2).mono ?_)
          rintro e w8 ⟨z2a, z2c, bz2, rfl, hw, ho, hf⟩
          have Z9 := Lib.hid (show wb1.heap.size ≤ w8.heap.size from by have := hw.size; simpa using this)
          have K0_11 := Lib.hid (K0_10.out.trans' hw)
          have Rp1_11 := Lib.hid (row_ext Rp1_10.out hw)
          have Rx1_11 := Lib.hid (row_ext Rx1_10.out hw)
          have Ox0_11 := Lib.hid (Ox0_10.out.ext hw)
          have Ox1_11 := Lib.hid (Ox1_10.out.ext hw)
          have Ox2_11 := Lib.hid (Ox2_10.out.ext hw)
          have Oz2_11 := Lib.hid ho.read
          clear hw ho hf
          obtain ⟨c140, c141, c142, -, -, -⟩ := row3_facts Rp1_11.out
          clear c140 c141 c142
          go_wp2_with fail
          (with_reducible refine (eqIntS_same Ox2_11.out.read Oz2_11.out).mono ?_)
          rintro e w9 ⟨rfl, hw⟩
          have Z10 := Lib.hid (show w8.heap.size ≤ w9.heap.size from by have := hw.size; simpa using this)
          have K0_12 := Lib.hid (K0_11.out.trans' hw)
          have Rp1_12 := Lib.hid (row_ext Rp1_11.out hw)
          have Rx1_12 := Lib.hid (row_ext Rx1_11.out hw)
          have Ox0_12 := Lib.hid (Ox0_11.out.ext hw)
          have Ox1_12 := Lib.hid (Ox1_11.out.ext hw)
          have Ox2_12 := Lib.hid (Ox2_11.out.ext hw)
          have Oz2_12 := Lib.hid (Oz2_11.out.ext hw)
          clear hw
          go_wp2
          go_ret
          exact ⟨rfl, K0_12.out⟩
end Go.Proofs.YtbddjejpacaglaaGreatDoor
