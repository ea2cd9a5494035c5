/- The walk of FnExactValuesAfter: whatever the arguments, the law answers true and changes nothing that was there. No condition but that the answer is short. -/
import Derived.Test.YtbddjejpacaglaaGreatDoorVrk
import Derived.Test.YtbddjejpacaglaaGreatDoorVpk
import Derived.Test.YtbddjejpacaglaaGreatDoorMk
import Derived.Test.YtbddjejpacaglaaGreatDoorKc
namespace Go.Proofs.YtbddjejpacaglaaGreatDoor
open Go.RowKit

set_option maxHeartbeats 6400000 in
set_option maxRecDepth 100000 in
theorem walk_ValuesAfter_of {w : World} {v0 : Value} {l0 : List (Int × Int)} {v1 : Value} {N1 : Net} {v2 : Value} {l2 : List Int} (n3 : Int) (h0 : EndSl w v0 l0) (h1 : NetAt w v1 N1) (h2 : IntSl w v2 l2) (hll : (avAns l0 N1 l2 n3).length ≤ 1048576) (hPrem : Pw w) :
    Calls Tryz.prog 5 #[v0, v1, v2, .int .i64 n3] w fun e w' => e = .returned (.bool true) ∧ Ext w w' := by
  have HPW := Lib.hid hPrem
  have HLL := Lib.hid hll
  have HN0 := Lib.hid h0
  obtain ⟨la0, _, _, lc0, rfl, -, -, lm0, -⟩ := h0
  unfold maxLen at lm0
  have HN1 := Lib.hid h1
  obtain ⟨v10, v11, v12, rfl, hE, hI, hP⟩ := h1
  clear hE hI hP
  have HN2 := Lib.hid h2
  obtain ⟨la2, _, _, lc2, rfl, -, -, lm2, -⟩ := h2
  unfold maxLen at lm2
  have K0 := Lib.hid (boxed_ext w v10 v11 v12 26)
  have Rp1_0 := Lib.hid (show World.rowIs (boxed w v10 v11 v12 26) w.heap.size 26 3 (tri v10 v11 v12) from boxed_row w v10 v11 v12 26)
  have hmm : (1 + ((avAns l0 N1 l2 n3).length : Int) != 1 + ((avAns l0 N1 l2 n3).length : Int)) = false := by simp
  have hbb : (dec (LongV l0 N1 l2 n3) != dec (LongV l0 N1 l2 n3)) = false := by simp
  by_cases hg2 : l2.length ≤ 1048576
  case neg =>
    go_enter Tryz.func5, Tryz.ntmps5
    go_wp2
    go_ret
    exact ⟨rfl, K0.out⟩
  case pos =>
    go_enter Tryz.func5, Tryz.ntmps5
    go_wp2_with fail
    (with_reducible refine (szValueOpS_any _ (HN0.out.ext K0.out) (by omega) (by omega)).mono ?_)
    rintro e _ ⟨r0, rfl, rfl, hr10, hr00, hr2⟩
    have S0 := Lib.hid hr2
    clear hr2
    by_cases hneg0 : r0 < 0
    case pos =>
      go_wp2
      go_ret
      exact ⟨rfl, K0.out⟩
    case neg =>
      have hs0 : l0.length ≤ 1048576 := by have := S0.out (by omega); omega
      obtain ⟨c10, c11, c12, -, -, -⟩ := row3_facts Rp1_0.out
      go_wp2_with fail
      (with_reducible refine (szNetwork_any _ (HN1.out.ext K0.out) (by omega) (by omega)).mono ?_)
      rintro e w1 ⟨r1, rfl, hw, hr01, hr11, hr2⟩
      have Z0 := Lib.hid (show w.heap.size + 1 ≤ w1.heap.size from by have := hw.size; simpa using this)
      have K0_1 := Lib.hid (K0.out.trans' hw)
      have Rp1_1 := Lib.hid (row_ext Rp1_0.out hw)
      have S1 := Lib.hid hr2
      clear hw hr2
      clear c10 c11 c12
      obtain ⟨c20, c21, c22, -, -, -⟩ := row3_facts Rp1_1.out
      by_cases hneg1 : r1 < 0
      case pos =>
        go_wp2
        go_ret
        exact ⟨rfl, K0_1.out⟩
      case neg =>
        have hs1 := Lib.hid (S1.out (by omega))
        clear c20 c21 c22
        obtain ⟨c30, c31, c32, -, -, -⟩ := row3_facts Rp1_1.out
        clear c30 c31 c32
        obtain ⟨c40, c41, c42, -, -, -⟩ := row3_facts Rp1_1.out
        have mkS : ∀ w' : World, Ext w1 w' → w'.cell? ⟨w.heap.size, 0, none⟩ = some v10 ∧ w'.cell? ⟨w.heap.size, 1, none⟩ = some v11 ∧ w'.cell? ⟨w.heap.size, 2, none⟩ = some v12 ∧ Hid (Ext w1 w') := fun w' h => ⟨h.cell' c40, h.cell' c41, h.cell' c42, h⟩
        go_wp2_with fail
        go_cut [10, 11] from 36 to 46 (fun t6 t7 wx => ∃ (v : Value) (bs : List Nat), t6 = v ∧ t7 = .bool (dec (LongV l0 N1 l2 n3)) ∧ Hid (Ext w1 wx ∧ OwnI wx v (avAns l0 N1 l2 n3) bs ∧ bs.Nodup ∧ ∀ b ∈ bs, w1.heap.size ≤ b))
        case first =>
          go_region_held3 (fun w' => w'.cell? ⟨w.heap.size, 0, none⟩ = some v10 ∧ w'.cell? ⟨w.heap.size, 1, none⟩ = some v11 ∧ w'.cell? ⟨w.heap.size, 2, none⟩ = some v12 ∧ Hid (Ext w1 w')) (first | exact mkS _ (Ext.rfl' w1).drew' | exact mkS _ XA.out | exact mkS _ XB.out | exact mkS _ XC.out | exact mkS _ XZ.out | fail)
            (first | (go_at_call 10; (with_reducible refine (toValueOpS_own (HN0.out.ext (K0_1.out.trans' ((‹_ ∧ _ ∧ _ ∧ Hid (Ext w1 _)›).2.2.2.out))) hs0).mono ?_); rintro e wqA ⟨yAa, yAc, bA, rfl, hx, ho, hf⟩; have XA := Lib.hid (Ext.trans' ((‹_ ∧ _ ∧ _ ∧ Hid (Ext w1 _)›).2.2.2.out) hx); have OA0 := Lib.hid ho.read; clear ho hf) | (go_at_call_of 11 (Value.agg #[v10, v11, v12]); (with_reducible refine (toNetwork_own (HN1.out.ext (K0_1.out.trans' ((‹_ ∧ _ ∧ _ ∧ Hid (Ext w1 _)›).2.2.2.out))) hs1.out).mono ?_); rintro e wqB ⟨yB, bB, rfl, hx, ho, hf⟩; have XB := Lib.hid (Ext.trans' ((‹_ ∧ _ ∧ _ ∧ Hid (Ext w1 _)›).2.2.2.out) hx); have OA1 := Lib.hid (OA0.out.ext hx); have OB1 := Lib.hid ho.read; clear ho hf) | (go_at_call 12; (with_reducible refine (toIntS_own (HN2.out.ext (K0_1.out.trans' ((‹_ ∧ _ ∧ _ ∧ Hid (Ext w1 _)›).2.2.2.out))) hg2).mono ?_); rintro e wqC ⟨yCa, yCc, bC, rfl, hx, ho, hf⟩; have XC := Lib.hid (Ext.trans' ((‹_ ∧ _ ∧ _ ∧ Hid (Ext w1 _)›).2.2.2.out) hx); have OA2 := Lib.hid (OA1.out.ext hx); have OB2 := Lib.hid (OB1.out.ext hx); have OC2 := Lib.hid ho.read; clear ho hf) | (go_at_call 26; (with_reducible refine (specAfterV n3 OA2.out OB2.out OC2.out hg2).mono ?_); rintro e wz ⟨xz, bz, rfl, hx, ho, hf⟩; have XZ := Lib.hid (Ext.trans' ((‹_ ∧ _ ∧ _ ∧ Hid (Ext w1 _)›).2.2.2.out) hx); have FZ : Hid (bz.Nodup ∧ ∀ b ∈ bz, w1.heap.size ≤ b) := ⟨hf.1, fun b hb => Nat.le_trans ((‹_ ∧ _ ∧ _ ∧ Hid (Ext w1 _)›).2.2.2.out).size (hf.2 b hb)⟩; have OZ := Lib.hid ho; clear ho hf))
          all_goals go_wp2_with fail
          all_goals go_meet
          all_goals exact ⟨_, _, rfl, rfl, XZ.out, OZ.out, FZ.out⟩
        case rest =>
          obtain ⟨xw, bw, rfl, rfl, XC⟩ := hcut
          clear mkS
          obtain ⟨w9w, h9⟩ : ∃ w9 : World, w9 = wc := ⟨_, rfl⟩
          subst h9
          clear c40 c41 c42
          have LOw := Lib.hid XC.out.2.2.2
          have HIw := Lib.hid (show ∀ b ∈ bw, b < w9w.heap.size from XC.out.2.1.1.lt)
          have NDw := Lib.hid XC.out.2.2.1
          have Z1 := Lib.hid (show w1.heap.size ≤ w9w.heap.size from by have := XC.out.1.size; simpa using this)
          have K0_2 := Lib.hid (K0_1.out.trans' XC.out.1)
          have Rp1_2 := Lib.hid (row_ext Rp1_1.out XC.out.1)
          have Ow_2 := Lib.hid XC.out.2.1
          obtain ⟨c50, c51, c52, -, -, -⟩ := row3_facts Rp1_2.out
          go_wp2_with fail
          (with_reducible refine (toValueOpS_own (HN0.out.ext K0_2.out) hs0).mono ?_)
          rintro e w2 ⟨x0a, x0c, bx0, rfl, hw, ho, hf⟩
          have Z2 := Lib.hid (show w9w.heap.size ≤ w2.heap.size from by have := hw.size; simpa using this)
          have LOx0 := Lib.hid (show ∀ b ∈ bx0, w9w.heap.size ≤ b from fun b hb => by have := hf.2 b hb; simpa using this)
          have HIx0 := Lib.hid (show ∀ b ∈ bx0, b < w2.heap.size from ho.1.lt)
          have NDx0 : Hid bx0.Nodup := hf.1
          have K0_3 := Lib.hid (K0_2.out.trans' hw)
          have Rp1_3 := Lib.hid (row_ext Rp1_2.out hw)
          have Ow_3 := Lib.hid (Ow_2.out.ext hw)
          have Ox0_3 := Lib.hid ho
          clear hw ho hf
          clear c50 c51 c52
          obtain ⟨c60, c61, c62, -, -, -⟩ := row3_facts Rp1_3.out
          go_wp2_with fail
          (with_reducible refine (toNetwork_own (HN1.out.ext K0_3.out) hs1.out).mono ?_)
          rintro e w3 ⟨xx1, bx1, rfl, hw, ho, hf⟩
          have Z3 := Lib.hid (show w2.heap.size ≤ w3.heap.size from by have := hw.size; simpa using this)
          have LOx1 := Lib.hid (show ∀ b ∈ bx1, w2.heap.size ≤ b from fun b hb => by have := hf.2 b hb; simpa using this)
          have HIx1 := Lib.hid (show ∀ b ∈ bx1, b < w3.heap.size from ho.lt)
          have NDx1 : Hid bx1.Nodup := hf.1
          obtain ⟨x1a0, x1c0, x1a1, x1c1, x1a2, x1c2, rfl⟩ := ho.agg
          have K0_4 := Lib.hid (K0_3.out.trans' hw)
          have Rp1_4 := Lib.hid (row_ext Rp1_3.out hw)
          have Ow_4 := Lib.hid (Ow_3.out.ext hw)
          have Ox0_4 := Lib.hid (Ox0_3.out.ext hw)
          have Ox1_4 := Lib.hid ho
          clear hw ho hf
          clear c60 c61 c62
          obtain ⟨c70, c71, c72, -, -, -⟩ := row3_facts Rp1_4.out
          have hA := (Ext.rfl' w3).alloc' (.cells #[.slice x1a0 N1.ends.length x1c0, .slice x1a1 N1.ids.length x1c1, .slice x1a2 N1.inputs.length x1c2] 35)
          have K0_5 := Lib.hid (K0_4.out.trans' hA)
          have Rp1_5 := Lib.hid (row_ext Rp1_4.out hA)
          have Ow_5 := Lib.hid (Ow_4.out.ext hA)
          have Ox0_5 := Lib.hid (Ox0_4.out.ext hA)
          have Ox1_5 := Lib.hid (Ox1_4.out.ext hA)
          have Rx1_5 := Lib.hid (row3_made w3 (.slice x1a0 N1.ends.length x1c0) (.slice x1a1 N1.ids.length x1c1) (.slice x1a2 N1.inputs.length x1c2) 35)
          clear hA
          clear c70 c71 c72
          obtain ⟨c80, c81, c82, -, -, -⟩ := row3_facts Rp1_5.out
          go_wp2_with fail
          (with_reducible refine (toIntS_own (HN2.out.ext K0_5.out) hg2).mono ?_)
          rintro e w4 ⟨x2a, x2c, bx2, rfl, hw, ho, hf⟩
          have Z4 := Lib.hid (show w3.heap.size + 1 ≤ w4.heap.size from by have := hw.size; simpa using this)
          have LOx2 := Lib.hid (show ∀ b ∈ bx2, w3.heap.size + 1 ≤ b from fun b hb => by have := hf.2 b hb; simpa using this)
          have HIx2 := Lib.hid (show ∀ b ∈ bx2, b < w4.heap.size from ho.1.lt)
          have NDx2 : Hid bx2.Nodup := hf.1
          have K0_6 := Lib.hid (K0_5.out.trans' hw)
          have Rp1_6 := Lib.hid (row_ext Rp1_5.out hw)
          have Rx1_6 := Lib.hid (row_ext Rx1_5.out hw)
          have Ow_6 := Lib.hid (Ow_5.out.ext hw)
          have Ox0_6 := Lib.hid (Ox0_5.out.ext hw)
          have Ox1_6 := Lib.hid (Ox1_5.out.ext hw)
          have Ox2_6 := Lib.hid ho
          clear hw ho hf
          clear c80 c81 c82
          obtain ⟨c90, c91, c92, -, -, -⟩ := row3_facts Rp1_6.out
          clear c90 c91 c92
          obtain ⟨c100, c101, c102, -, -, -⟩ := row3_facts Rx1_6.out
          go_wp2_with fail
          (with_reducible refine (implAfterV n3 Ox0_6.out.read Ox1_6.out.read Ox2_6.out.read hg2 (HPW.out.ext K0_6.out)).mono ?_)
          rintro e w5 ⟨xg, bg, rfl, hw, ho, hf⟩
          have Z5 := Lib.hid (show w4.heap.size ≤ w5.heap.size from by have := hw.size; simpa using this)
          have LOg := Lib.hid (show ∀ b ∈ bg, w4.heap.size ≤ b from fun b hb => by have := hf.2 b hb; simpa using this)
          have HIg := Lib.hid (show ∀ b ∈ bg, b < w5.heap.size from ho.1.lt)
          have NDg : Hid bg.Nodup := hf.1
          have K0_7 := Lib.hid (K0_6.out.trans' hw)
          have Rp1_7 := Lib.hid (row_ext Rp1_6.out hw)
          have Rx1_7 := Lib.hid (row_ext Rx1_6.out hw)
          have Ow_7 := Lib.hid (Ow_6.out.ext hw)
          have Ox0_7 := Lib.hid (Ox0_6.out.ext hw)
          have Ox1_7 := Lib.hid (Ox1_6.out.ext hw)
          have Ox2_7 := Lib.hid (Ox2_6.out.ext hw)
          have Og_7 := Lib.hid ho
          clear hw ho hf
          clear c100 c101 c102
          go_wp2_with fail
          (with_reducible refine (eqIntS_same Og_7.out.read Ow_7.out.read).mono ?_)
          rintro e w6 ⟨rfl, hw⟩
          have Z6 := Lib.hid (show w5.heap.size ≤ w6.heap.size from by have := hw.size; simpa using this)
          have K0_8 := Lib.hid (K0_7.out.trans' hw)
          have Rp1_8 := Lib.hid (row_ext Rp1_7.out hw)
          have Rx1_8 := Lib.hid (row_ext Rx1_7.out hw)
          have Ow_8 := Lib.hid (Ow_7.out.ext hw)
          have Ox0_8 := Lib.hid (Ox0_7.out.ext hw)
          have Ox1_8 := Lib.hid (Ox1_7.out.ext hw)
          have Ox2_8 := Lib.hid (Ox2_7.out.ext hw)
          have Og_8 := Lib.hid (Og_7.out.ext hw)
          clear hw
          go_wp2_with fail
          (with_reducible refine (toValueOpS_own (HN0.out.ext K0_8.out) hs0).mono ?_)
          rintro e w7 ⟨z0a, z0c, bz0, rfl, hw, ho, hf⟩
          have Z7 := Lib.hid (show w6.heap.size ≤ w7.heap.size from by have := hw.size; simpa using this)
          have K0_9 := Lib.hid (K0_8.out.trans' hw)
          have Rp1_9 := Lib.hid (row_ext Rp1_8.out hw)
          have Rx1_9 := Lib.hid (row_ext Rx1_8.out hw)
          have Ow_9 := Lib.hid (Ow_8.out.ext hw)
          have Ox0_9 := Lib.hid (Ox0_8.out.ext hw)
          have Ox1_9 := Lib.hid (Ox1_8.out.ext hw)
          have Ox2_9 := Lib.hid (Ox2_8.out.ext hw)
          have Og_9 := Lib.hid (Og_8.out.ext hw)
          have Oz0_9 := Lib.hid ho.read
          clear hw ho hf
          obtain ⟨c110, c111, c112, -, -, -⟩ := row3_facts Rp1_9.out
          clear c110 c111 c112
          go_wp2_with fail
          (with_reducible refine (eqValueOpS_same Ox0_9.out.read Oz0_9.out).mono ?_)
          rintro e w8 ⟨rfl, hw⟩
          have Z8 := Lib.hid (show w7.heap.size ≤ w8.heap.size from by have := hw.size; simpa using this)
          have K0_10 := Lib.hid (K0_9.out.trans' hw)
          have Rp1_10 := Lib.hid (row_ext Rp1_9.out hw)
          have Rx1_10 := Lib.hid (row_ext Rx1_9.out hw)
          have Ow_10 := Lib.hid (Ow_9.out.ext hw)
          have Ox0_10 := Lib.hid (Ox0_9.out.ext hw)
          have Ox1_10 := Lib.hid (Ox1_9.out.ext hw)
          have Ox2_10 := Lib.hid (Ox2_9.out.ext hw)
          have Og_10 := Lib.hid (Og_9.out.ext hw)
          have Oz0_10 := Lib.hid (Oz0_9.out.ext hw)
          clear hw
          obtain ⟨c120, c121, c122, -, -, -⟩ := row3_facts Rp1_10.out
          obtain ⟨c130, c131, c132, -, -, -⟩ := row3_facts Rx1_10.out
          go_wp2_with fail
          have Hd := Lib.hid (Ext.rfl' w8).drew'
          go_region_held3 (fun w' => w'.cell? ⟨w.heap.size, 0, none⟩ = some v10 ∧ w'.cell? ⟨w.heap.size, 1, none⟩ = some v11 ∧ w'.cell? ⟨w.heap.size, 2, none⟩ = some v12 ∧ w'.cell? ⟨w3.heap.size, 0, none⟩ = some (.slice x1a0 N1.ends.length x1c0) ∧ w'.cell? ⟨w3.heap.size, 1, none⟩ = some (.slice x1a1 N1.ids.length x1c1) ∧ w'.cell? ⟨w3.heap.size, 2, none⟩ = some (.slice x1a2 N1.inputs.length x1c2) ∧ Hid (Ext w8 w')) (first | exact ⟨c120, c121, c122, c130, c131, c132, Hd⟩ | exact ⟨hx.cell' (Hd.out.cell' c120), hx.cell' (Hd.out.cell' c121), hx.cell' (Hd.out.cell' c122), hx.cell' (Hd.out.cell' c130), hx.cell' (Hd.out.cell' c131), hx.cell' (Hd.out.cell' c132), Hd.out.trans' hx⟩ | exact ⟨hy.cell' (hx.cell' (Hd.out.cell' c120)), hy.cell' (hx.cell' (Hd.out.cell' c121)), hy.cell' (hx.cell' (Hd.out.cell' c122)), hy.cell' (hx.cell' (Hd.out.cell' c130)), hy.cell' (hx.cell' (Hd.out.cell' c131)), hy.cell' (hx.cell' (Hd.out.cell' c132)), (Hd.out.trans' hx).trans' hy⟩)
            (first | (go_at_call 11; (with_reducible refine (toNetwork_own (HN1.out.ext (K0_10.out.trans' Hd.out)) hs1.out).mono ?_); rintro e wa1 ⟨z, bz, rfl, hx, hoz, hfz⟩; have OZ := Lib.hid hoz.read; have HXZ := Lib.hid hx; clear hoz hfz) | (go_at_call 16; (with_reducible refine (eqNetwork_same (Ox1_10.out.read.ext (Hd.out.trans' HXZ.out)) OZ.out).mono ?_); rintro e wb1 ⟨rfl, hy⟩))
          rename_i hh
          have HY := hh.2.2.2.2.2.2
          clear hh hx hy HXZ OZ
          clear c120 c121 c122 c130 c131 c132
          clear Hd
          have Z9 := Lib.hid (show w8.heap.size ≤ wb1.heap.size from by have := HY.out.size; simpa using this)
          have K0_11 := Lib.hid (K0_10.out.trans' HY.out)
          have Rp1_11 := Lib.hid (row_ext Rp1_10.out HY.out)
          have Rx1_11 := Lib.hid (row_ext Rx1_10.out HY.out)
          have Ow_11 := Lib.hid (Ow_10.out.ext HY.out)
          have Ox0_11 := Lib.hid (Ox0_10.out.ext HY.out)
          have Ox1_11 := Lib.hid (Ox1_10.out.ext HY.out)
          have Ox2_11 := Lib.hid (Ox2_10.out.ext HY.out)
          have Og_11 := Lib.hid (Og_10.out.ext HY.out)
          clear HY
          go_wp2_with fail
          (with_reducible refine (toIntS_own (HN2.out.ext K0_11.out) hg2).mono ?_)
          rintro e w9 ⟨z2a, z2c, bz2, rfl, hw, ho, hf⟩
          have Z10 := Lib.hid (show wb1.heap.size ≤ w9.heap.size from by have := hw.size; simpa using this)
          have K0_12 := Lib.hid (K0_11.out.trans' hw)
          have Rp1_12 := Lib.hid (row_ext Rp1_11.out hw)
          have Rx1_12 := Lib.hid (row_ext Rx1_11.out hw)
          have Ow_12 := Lib.hid (Ow_11.out.ext hw)
          have Ox0_12 := Lib.hid (Ox0_11.out.ext hw)
          have Ox1_12 := Lib.hid (Ox1_11.out.ext hw)
          have Ox2_12 := Lib.hid (Ox2_11.out.ext hw)
          have Og_12 := Lib.hid (Og_11.out.ext hw)
          have Oz2_12 := Lib.hid ho.read
          clear hw ho hf
          obtain ⟨c140, c141, c142, -, -, -⟩ := row3_facts Rp1_12.out
          clear c140 c141 c142
          go_wp2_with fail
          (with_reducible refine (eqIntS_same Ox2_12.out.read Oz2_12.out).mono ?_)
          rintro e w10 ⟨rfl, hw⟩
          have Z11 := Lib.hid (show w9.heap.size ≤ w10.heap.size from by have := hw.size; simpa using this)
          have K0_13 := Lib.hid (K0_12.out.trans' hw)
          have Rp1_13 := Lib.hid (row_ext Rp1_12.out hw)
          have Rx1_13 := Lib.hid (row_ext Rx1_12.out hw)
          have Ow_13 := Lib.hid (Ow_12.out.ext hw)
          have Ox0_13 := Lib.hid (Ox0_12.out.ext hw)
          have Ox1_13 := Lib.hid (Ox1_12.out.ext hw)
          have Ox2_13 := Lib.hid (Ox2_12.out.ext hw)
          have Og_13 := Lib.hid (Og_12.out.ext hw)
          have Oz2_13 := Lib.hid (Oz2_12.out.ext hw)
          clear hw
          go_wp2_with fail
          (with_reducible refine (markValueOpS_any _ Ox0_13.out hs0 (by omega) (by omega)).mono ?_)
          rintro e w11 ⟨rfl, hc, hm⟩
          have Z12 := Lib.hid (show w10.heap.size ≤ w11.heap.size from by have := hc.size; simpa using this)
          have K0_14 := Lib.hid (Chg.ext K0_13.out hc fun b hb => by have := LOx0.out b hb; have := Z0.out; have := Z1.out; have := Z2.out; have := Z3.out; have := Z4.out; have := Z5.out; have := Z6.out; have := Z7.out; have := Z8.out; have := Z9.out; have := Z10.out; have := Z11.out; have := Z12.out; omega)
          have Rp1_14 := Lib.hid (Rp1_13.out.of_block (hc.block _ Rp1_13.out.lt fun hb => by have := LOx0.out _ hb; have := HIx0.out _ hb; have := Z0.out; have := Z1.out; have := Z2.out; have := Z3.out; have := Z4.out; have := Z5.out; have := Z6.out; have := Z7.out; have := Z8.out; have := Z9.out; have := Z10.out; have := Z11.out; have := Z12.out; omega))
          have Rx1_14 := Lib.hid (Rx1_13.out.of_block (hc.block _ Rx1_13.out.lt fun hb => by have := LOx0.out _ hb; have := HIx0.out _ hb; have := Z0.out; have := Z1.out; have := Z2.out; have := Z3.out; have := Z4.out; have := Z5.out; have := Z6.out; have := Z7.out; have := Z8.out; have := Z9.out; have := Z10.out; have := Z11.out; have := Z12.out; omega))
          have Ow_14 := Lib.hid (Ow_13.out.keep fun b hb => hc.block b (Ow_13.out.1.lt b hb) fun hb' => by have := LOx0.out b hb'; have := HIx0.out b hb'; have := LOw.out b hb; have := HIw.out b hb; have := Z0.out; have := Z1.out; have := Z2.out; have := Z3.out; have := Z4.out; have := Z5.out; have := Z6.out; have := Z7.out; have := Z8.out; have := Z9.out; have := Z10.out; have := Z11.out; have := Z12.out; omega)
          have Ox1_14 := Lib.hid (Ox1_13.out.keep fun b hb => hc.block b (Ox1_13.out.lt b hb) fun hb' => by have := LOx0.out b hb'; have := HIx0.out b hb'; have := LOx1.out b hb; have := HIx1.out b hb; have := Z0.out; have := Z1.out; have := Z2.out; have := Z3.out; have := Z4.out; have := Z5.out; have := Z6.out; have := Z7.out; have := Z8.out; have := Z9.out; have := Z10.out; have := Z11.out; have := Z12.out; omega)
          have Ox2_14 := Lib.hid (Ox2_13.out.keep fun b hb => hc.block b (Ox2_13.out.1.lt b hb) fun hb' => by have := LOx0.out b hb'; have := HIx0.out b hb'; have := LOx2.out b hb; have := HIx2.out b hb; have := Z0.out; have := Z1.out; have := Z2.out; have := Z3.out; have := Z4.out; have := Z5.out; have := Z6.out; have := Z7.out; have := Z8.out; have := Z9.out; have := Z10.out; have := Z11.out; have := Z12.out; omega)
          have Og_14 := Lib.hid (Og_13.out.keep fun b hb => hc.block b (Og_13.out.1.lt b hb) fun hb' => by have := LOx0.out b hb'; have := HIx0.out b hb'; have := LOg.out b hb; have := HIg.out b hb; have := Z0.out; have := Z1.out; have := Z2.out; have := Z3.out; have := Z4.out; have := Z5.out; have := Z6.out; have := Z7.out; have := Z8.out; have := Z9.out; have := Z10.out; have := Z11.out; have := Z12.out; omega)
          clear hc hm
          obtain ⟨c150, c151, c152, -, -, -⟩ := row3_facts Rx1_14.out
          go_wp2_with fail
          (with_reducible refine (markNetwork_at _ Ox1_14.out NDx1.out hs1.out (by omega) (by omega)).mono ?_)
          obtain ⟨hq10, hq11⟩ := netLast_bound hs1.out
          rintro e w12 ⟨rm1, rfl, hrm0, hrm1, hc⟩
          have Z13 := Lib.hid (show w11.heap.size ≤ w12.heap.size from by have := hc.size; simpa using this)
          have K0_15 := Lib.hid (Chg.ext K0_14.out hc fun b hb => by have := LOx1.out b hb; have := Z0.out; have := Z1.out; have := Z2.out; have := Z3.out; have := Z4.out; have := Z5.out; have := Z6.out; have := Z7.out; have := Z8.out; have := Z9.out; have := Z10.out; have := Z11.out; have := Z12.out; have := Z13.out; omega)
          have Rp1_15 := Lib.hid (Rp1_14.out.of_block (hc.block _ Rp1_14.out.lt fun hb => by have := LOx1.out _ hb; have := HIx1.out _ hb; have := Z0.out; have := Z1.out; have := Z2.out; have := Z3.out; have := Z4.out; have := Z5.out; have := Z6.out; have := Z7.out; have := Z8.out; have := Z9.out; have := Z10.out; have := Z11.out; have := Z12.out; have := Z13.out; omega))
          have Rx1_15 := Lib.hid (Rx1_14.out.of_block (hc.block _ Rx1_14.out.lt fun hb => by have := LOx1.out _ hb; have := HIx1.out _ hb; have := Z0.out; have := Z1.out; have := Z2.out; have := Z3.out; have := Z4.out; have := Z5.out; have := Z6.out; have := Z7.out; have := Z8.out; have := Z9.out; have := Z10.out; have := Z11.out; have := Z12.out; have := Z13.out; omega))
          have Ow_15 := Lib.hid (Ow_14.out.keep fun b hb => hc.block b (Ow_14.out.1.lt b hb) fun hb' => by have := LOx1.out b hb'; have := HIx1.out b hb'; have := LOw.out b hb; have := HIw.out b hb; have := Z0.out; have := Z1.out; have := Z2.out; have := Z3.out; have := Z4.out; have := Z5.out; have := Z6.out; have := Z7.out; have := Z8.out; have := Z9.out; have := Z10.out; have := Z11.out; have := Z12.out; have := Z13.out; omega)
          have Ox2_15 := Lib.hid (Ox2_14.out.keep fun b hb => hc.block b (Ox2_14.out.1.lt b hb) fun hb' => by have := LOx1.out b hb'; have := HIx1.out b hb'; have := LOx2.out b hb; have := HIx2.out b hb; have := Z0.out; have := Z1.out; have := Z2.out; have := Z3.out; have := Z4.out; have := Z5.out; have := Z6.out; have := Z7.out; have := Z8.out; have := Z9.out; have := Z10.out; have := Z11.out; have := Z12.out; have := Z13.out; omega)
          have Og_15 := Lib.hid (Og_14.out.keep fun b hb => hc.block b (Og_14.out.1.lt b hb) fun hb' => by have := LOx1.out b hb'; have := HIx1.out b hb'; have := LOg.out b hb; have := HIg.out b hb; have := Z0.out; have := Z1.out; have := Z2.out; have := Z3.out; have := Z4.out; have := Z5.out; have := Z6.out; have := Z7.out; have := Z8.out; have := Z9.out; have := Z10.out; have := Z11.out; have := Z12.out; have := Z13.out; omega)
          clear hc
          clear c150 c151 c152
          go_wp2_with fail
          (with_reducible refine (markIntS_any _ Ox2_15.out hg2 (by omega) (by omega)).mono ?_)
          rintro e w13 ⟨rfl, hc, hm⟩
          have Z14 := Lib.hid (show w12.heap.size ≤ w13.heap.size from by have := hc.size; simpa using this)
          have K0_16 := Lib.hid (Chg.ext K0_15.out hc fun b hb => by have := LOx2.out b hb; have := Z0.out; have := Z1.out; have := Z2.out; have := Z3.out; have := Z4.out; have := Z5.out; have := Z6.out; have := Z7.out; have := Z8.out; have := Z9.out; have := Z10.out; have := Z11.out; have := Z12.out; have := Z13.out; have := Z14.out; omega)
          have Rp1_16 := Lib.hid (Rp1_15.out.of_block (hc.block _ Rp1_15.out.lt fun hb => by have := LOx2.out _ hb; have := HIx2.out _ hb; have := Z0.out; have := Z1.out; have := Z2.out; have := Z3.out; have := Z4.out; have := Z5.out; have := Z6.out; have := Z7.out; have := Z8.out; have := Z9.out; have := Z10.out; have := Z11.out; have := Z12.out; have := Z13.out; have := Z14.out; omega))
          have Ow_16 := Lib.hid (Ow_15.out.keep fun b hb => hc.block b (Ow_15.out.1.lt b hb) fun hb' => by have := LOx2.out b hb'; have := HIx2.out b hb'; have := LOw.out b hb; have := HIw.out b hb; have := Z0.out; have := Z1.out; have := Z2.out; have := Z3.out; have := Z4.out; have := Z5.out; have := Z6.out; have := Z7.out; have := Z8.out; have := Z9.out; have := Z10.out; have := Z11.out; have := Z12.out; have := Z13.out; have := Z14.out; omega)
          have Og_16 := Lib.hid (Og_15.out.keep fun b hb => hc.block b (Og_15.out.1.lt b hb) fun hb' => by have := LOx2.out b hb'; have := HIx2.out b hb'; have := LOg.out b hb; have := HIg.out b hb; have := Z0.out; have := Z1.out; have := Z2.out; have := Z3.out; have := Z4.out; have := Z5.out; have := Z6.out; have := Z7.out; have := Z8.out; have := Z9.out; have := Z10.out; have := Z11.out; have := Z12.out; have := Z13.out; have := Z14.out; omega)
          clear hc hm
          go_wp2_with fail
          (with_reducible refine (eqIntS_same Og_16.out.read Ow_16.out.read).mono ?_)
          rintro e w14 ⟨rfl, hw⟩
          have Z15 := Lib.hid (show w13.heap.size ≤ w14.heap.size from by have := hw.size; simpa using this)
          have K0_17 := Lib.hid (K0_16.out.trans' hw)
          have Rp1_17 := Lib.hid (row_ext Rp1_16.out hw)
          have Ow_17 := Lib.hid (Ow_16.out.ext hw)
          have Og_17 := Lib.hid (Og_16.out.ext hw)
          clear hw
          go_wp2_with fail
          (with_reducible refine (markIntS_any _ Og_17.out hll (by omega) (by omega)).mono ?_)
          rintro e w15 ⟨rfl, hc, hm⟩
          have Z16 := Lib.hid (show w14.heap.size ≤ w15.heap.size from by have := hc.size; simpa using this)
          have K0_18 := Lib.hid (Chg.ext K0_17.out hc fun b hb => by have := LOg.out b hb; have := Z0.out; have := Z1.out; have := Z2.out; have := Z3.out; have := Z4.out; have := Z5.out; have := Z6.out; have := Z7.out; have := Z8.out; have := Z9.out; have := Z10.out; have := Z11.out; have := Z12.out; have := Z13.out; have := Z14.out; have := Z15.out; have := Z16.out; omega)
          have Rp1_18 := Lib.hid (Rp1_17.out.of_block (hc.block _ Rp1_17.out.lt fun hb => by have := LOg.out _ hb; have := HIg.out _ hb; have := Z0.out; have := Z1.out; have := Z2.out; have := Z3.out; have := Z4.out; have := Z5.out; have := Z6.out; have := Z7.out; have := Z8.out; have := Z9.out; have := Z10.out; have := Z11.out; have := Z12.out; have := Z13.out; have := Z14.out; have := Z15.out; have := Z16.out; omega))
          have Ow_18 := Lib.hid (Ow_17.out.keep fun b hb => hc.block b (Ow_17.out.1.lt b hb) fun hb' => by have := LOg.out b hb'; have := HIg.out b hb'; have := LOw.out b hb; have := HIw.out b hb; have := Z0.out; have := Z1.out; have := Z2.out; have := Z3.out; have := Z4.out; have := Z5.out; have := Z6.out; have := Z7.out; have := Z8.out; have := Z9.out; have := Z10.out; have := Z11.out; have := Z12.out; have := Z13.out; have := Z14.out; have := Z15.out; have := Z16.out; omega)
          have Og_18 := Lib.hid hm
          clear hc hm
          go_wp2_with fail
          (with_reducible refine (heldIntS_any _ _ Og_18.out.read hll (by omega) (by omega)).mono ?_)
          rintro e w16 ⟨rfl, rfl⟩
          obtain ⟨c160, c161, c162, -, -, -⟩ := row3_facts Rp1_18.out
          clear c160 c161 c162
          obtain ⟨c170, c171, c172, -, -, -⟩ := row3_facts Rp1_18.out
          have mkS : ∀ w' : World, Ext w15 w' → w'.cell? ⟨w.heap.size, 0, none⟩ = some v10 ∧ w'.cell? ⟨w.heap.size, 1, none⟩ = some v11 ∧ w'.cell? ⟨w.heap.size, 2, none⟩ = some v12 ∧ Hid (Ext w15 w') := fun w' h => ⟨h.cell' c170, h.cell' c171, h.cell' c172, h⟩
          go_wp2_with fail
          go_cut [20, 21] from 118 to 128 (fun t6 t7 wx => ∃ (v : Value) (bs : List Nat), t6 = v ∧ t7 = .bool (dec (LongV l0 N1 l2 n3)) ∧ Hid (Ext w15 wx ∧ OwnI wx v (avAns l0 N1 l2 n3) bs ∧ bs.Nodup ∧ ∀ b ∈ bs, w15.heap.size ≤ b))
          case first =>
            go_region_held3 (fun w' => w'.cell? ⟨w.heap.size, 0, none⟩ = some v10 ∧ w'.cell? ⟨w.heap.size, 1, none⟩ = some v11 ∧ w'.cell? ⟨w.heap.size, 2, none⟩ = some v12 ∧ Hid (Ext w15 w')) (first | exact mkS _ (Ext.rfl' w15).drew' | exact mkS _ XA.out | exact mkS _ XB.out | exact mkS _ XC.out | exact mkS _ XZ.out | fail)
              (first | (go_at_call 10; (with_reducible refine (toValueOpS_own (HN0.out.ext (K0_18.out.trans' ((‹_ ∧ _ ∧ _ ∧ Hid (Ext w15 _)›).2.2.2.out))) hs0).mono ?_); rintro e wqA ⟨yAa, yAc, bA, rfl, hx, ho, hf⟩; have XA := Lib.hid (Ext.trans' ((‹_ ∧ _ ∧ _ ∧ Hid (Ext w15 _)›).2.2.2.out) hx); have OA0 := Lib.hid ho.read; clear ho hf) | (go_at_call_of 11 (Value.agg #[v10, v11, v12]); (with_reducible refine (toNetwork_own (HN1.out.ext (K0_18.out.trans' ((‹_ ∧ _ ∧ _ ∧ Hid (Ext w15 _)›).2.2.2.out))) hs1.out).mono ?_); rintro e wqB ⟨yB, bB, rfl, hx, ho, hf⟩; have XB := Lib.hid (Ext.trans' ((‹_ ∧ _ ∧ _ ∧ Hid (Ext w15 _)›).2.2.2.out) hx); have OA1 := Lib.hid (OA0.out.ext hx); have OB1 := Lib.hid ho.read; clear ho hf) | (go_at_call 12; (with_reducible refine (toIntS_own (HN2.out.ext (K0_18.out.trans' ((‹_ ∧ _ ∧ _ ∧ Hid (Ext w15 _)›).2.2.2.out))) hg2).mono ?_); rintro e wqC ⟨yCa, yCc, bC, rfl, hx, ho, hf⟩; have XC := Lib.hid (Ext.trans' ((‹_ ∧ _ ∧ _ ∧ Hid (Ext w15 _)›).2.2.2.out) hx); have OA2 := Lib.hid (OA1.out.ext hx); have OB2 := Lib.hid (OB1.out.ext hx); have OC2 := Lib.hid ho.read; clear ho hf) | (go_at_call 27; (with_reducible refine (implAfterV n3 OA2.out OB2.out OC2.out hg2 (HPW.out.ext (K0_18.out.trans' ((‹_ ∧ _ ∧ _ ∧ Hid (Ext w15 _)›).2.2.2.out)))).mono ?_); rintro e wz ⟨xz, bz, rfl, hx, ho, hf⟩; have XZ := Lib.hid (Ext.trans' ((‹_ ∧ _ ∧ _ ∧ Hid (Ext w15 _)›).2.2.2.out) hx); have FZ : Hid (bz.Nodup ∧ ∀ b ∈ bz, w15.heap.size ≤ b) := ⟨hf.1, fun b hb => Nat.le_trans ((‹_ ∧ _ ∧ _ ∧ Hid (Ext w15 _)›).2.2.2.out).size (hf.2 b hb)⟩; have OZ := Lib.hid ho; clear ho hf))
            all_goals go_wp2_with fail
            all_goals go_meet
            all_goals exact ⟨_, _, rfl, rfl, XZ.out, OZ.out, FZ.out⟩
          case rest =>
            obtain ⟨xh, bh, rfl, rfl, XC⟩ := hcut
            clear mkS
            obtain ⟨w9h, h9⟩ : ∃ w9 : World, w9 = wc := ⟨_, rfl⟩
            subst h9
            clear c170 c171 c172
            have LOh := Lib.hid XC.out.2.2.2
            have HIh := Lib.hid (show ∀ b ∈ bh, b < w9h.heap.size from XC.out.2.1.1.lt)
            have NDh := Lib.hid XC.out.2.2.1
            have Z17 := Lib.hid (show w15.heap.size ≤ w9h.heap.size from by have := XC.out.1.size; simpa using this)
            have K0_19 := Lib.hid (K0_18.out.trans' XC.out.1)
            have Rp1_19 := Lib.hid (row_ext Rp1_18.out XC.out.1)
            have Ow_19 := Lib.hid (Ow_18.out.ext XC.out.1)
            have Og_19 := Lib.hid (Og_18.out.ext XC.out.1)
            have Oh_19 := Lib.hid XC.out.2.1
            go_wp2_with fail
            (with_reducible refine (eqIntS_same Oh_19.out.read Ow_19.out.read).mono ?_)
            rintro e w17 ⟨rfl, hw⟩
            have Z18 := Lib.hid (show w9h.heap.size ≤ w17.heap.size from by have := hw.size; simpa using this)
            have K0_20 := Lib.hid (K0_19.out.trans' hw)
            have Rp1_20 := Lib.hid (row_ext Rp1_19.out hw)
            have Ow_20 := Lib.hid (Ow_19.out.ext hw)
            have Og_20 := Lib.hid (Og_19.out.ext hw)
            have Oh_20 := Lib.hid (Oh_19.out.ext hw)
            clear hw
            go_wp2_with fail
            (with_reducible refine (heldIntS_any _ _ Og_20.out.read hll (by omega) (by omega)).mono ?_)
            rintro e w18 ⟨rfl, rfl⟩
            go_wp2
            go_ret
            exact ⟨rfl, K0_20.out⟩
theorem walk_ValuesAfter {w : World} {v0 : Value} {l0 : List (Int × Int)} {v1 : Value} {N1 : Net} {v2 : Value} {l2 : List Int} (n3 : Int) (h0 : EndSl w v0 l0) (h1 : NetAt w v1 N1) (h2 : IntSl w v2 l2) (hPrem : Pw w) :
    Calls Tryz.prog 5 #[v0, v1, v2, .int .i64 n3] w fun e w' => e = .returned (.bool true) ∧ Ext w w' := walk_ValuesAfter_of n3 h0 h1 h2 (avAns_small _ _ _ _) hPrem
end Go.Proofs.YtbddjejpacaglaaGreatDoor
