/- The contract of the model's CheckRefusal. -/
import Derived.Test.YtkpdbceglejbnaaTkw
namespace Go.Proofs.Ytkpdbceglejbnaa
open Go.RowKit

set_option maxHeartbeats 3200000 in
set_option maxRecDepth 100000 in
theorem imRight_0 {w : World} {v vr : Value} {N : Net} {R : Rfs} (h : NetAt w v N) (h' : RfAt w vr R) (hs : R.small) (hG : Good N) (kc : ¬ ConsOK N R.c) :
    Calls Try.prog 83 #[v, vr] w fun e w' => e = .returned (.bool (dec (RfOK N R))) ∧ Ext w w' := by
  have HR0 := Lib.hid h'
  have HN := Lib.hid h
  obtain ⟨_, v1, v2, rfl, hE, -, -⟩ := h
  obtain ⟨ea, _, _, ec, rfl, -, hel, hem, -⟩ := hE
  unfold maxLen at hem
  obtain ⟨ca, cc, rfl, hC⟩ := h'
  have HC := Lib.hid hC
  obtain ⟨t, ht0⟩ : ∃ t, t = R.t := ⟨_, rfl⟩
  obtain ⟨u, hu0⟩ : ∃ u, u = R.u := ⟨_, rfl⟩
  obtain ⟨x, hx0⟩ : ∃ x, x = R.x := ⟨_, rfl⟩
  obtain ⟨L, hL0⟩ : ∃ L, L = R.c := ⟨_, rfl⟩
  have HQ := Lib.hid (show RfOK N R ↔ ConsOK N L ∧ InB t 1 3 ∧ NodeOK N u ∧ NodeOK N x ∧ Rf N t L u.toNat x.toNat by rw [ht0, hu0, hx0, hL0]; exact Iff.rfl)
  have hc := (show ¬ ConsOK N L by rw [hL0]; exact kc)
  have hs6 : L.length ≤ 1048576 := by rw [hL0]; exact hs
  rw [← ht0, ← hu0, ← hx0, ← hL0] at HR0
  rw [← hL0] at HC
  rw [← ht0, ← hu0, ← hx0, ← hL0]
  clear hs ht0 hu0 hx0 hL0 hC
  have HX := Lib.hid ((boxed_ext w (.slice ea N.ends.length ec) v1 v2 34).trans' (boxed4_ext (boxed w (.slice ea N.ends.length ec) v1 v2 34) (.int .i64 t) (.slice ca L.length cc) (.int .i64 u) (.int .i64 x) 52))
  have HR := Lib.hid (show (boxed4 (boxed w (.slice ea N.ends.length ec) v1 v2 34) (.int .i64 t) (.slice ca L.length cc) (.int .i64 u) (.int .i64 x) 52).rowIs w.heap.size 34 3 (tri (.slice ea N.ends.length ec) v1 v2) from (row3_made w (.slice ea N.ends.length ec) v1 v2 34).alloc _)
  have R4 := Lib.hid (show (boxed4 (boxed w (.slice ea N.ends.length ec) v1 v2 34) (.int .i64 t) (.slice ca L.length cc) (.int .i64 u) (.int .i64 x) 52).rowIs (w.heap.size + 1) 52 4 (quad (.int .i64 t) (.slice ca L.length cc) (.int .i64 u) (.int .i64 x)) by simpa using boxed4_row (boxed w (.slice ea N.ends.length ec) v1 v2 34) (.int .i64 t) (.slice ca L.length cc) (.int .i64 u) (.int .i64 x) 52)
  obtain ⟨p0, p1, p2, -, -, -⟩ := row3_facts HR.out
  obtain ⟨s0, s1, s2, s3⟩ := row4_cells R4.out
  have HG := Lib.hid hG
  have hn1 := hG.1.1
  have h40 := hG.1.2
  clear hG
  have CO := Lib.hid (dec_false hc)
  have D := Lib.hid (dec_false (p := RfOK N R) fun k => hc (HQ.out.1 k).1)
  clear hc
  go_enter Try.func83, Try.ntmps83
  go_wp2_with (go_at_call 75; (with_reducible refine (imConsistent_any (HN.out.ext HX.out) (HC.out.ext HX.out) HG.out).mono ?_); rintro e w1 ⟨rfl, hx⟩; rw [CO.out]; have K1 := Lib.hid (HX.out.trans' hx); have R1 := Lib.hid (row_ext HR.out hx); have Q1 := Lib.hid (row_ext R4.out hx); obtain ⟨q0, q1, q2, -, -, -⟩ := row3_facts R1.out; obtain ⟨r0, r1, r2, r3⟩ := row4_cells Q1.out; clear hx p0 p1 p2 s0 s1 s2 s3)
  go_ret
  exact ⟨ret_bool D.out.symm, K1.out⟩
set_option maxHeartbeats 3200000 in
set_option maxRecDepth 100000 in
theorem imRight_1 {w : World} {v vr : Value} {N : Net} {R : Rfs} (h : NetAt w v N) (h' : RfAt w vr R) (hs : R.small) (hG : Good N) (kc : ConsOK N R.c) (k1 : R.t = 1) :
    Calls Try.prog 83 #[v, vr] w fun e w' => e = .returned (.bool (dec (RfOK N R))) ∧ Ext w w' := by
  have HR0 := Lib.hid h'
  have HN := Lib.hid h
  obtain ⟨_, v1, v2, rfl, hE, -, -⟩ := h
  obtain ⟨ea, _, _, ec, rfl, -, hel, hem, -⟩ := hE
  unfold maxLen at hem
  obtain ⟨ca, cc, rfl, hC⟩ := h'
  have HC := Lib.hid hC
  obtain ⟨t, ht0⟩ : ∃ t, t = R.t := ⟨_, rfl⟩
  obtain ⟨u, hu0⟩ : ∃ u, u = R.u := ⟨_, rfl⟩
  obtain ⟨x, hx0⟩ : ∃ x, x = R.x := ⟨_, rfl⟩
  obtain ⟨L, hL0⟩ : ∃ L, L = R.c := ⟨_, rfl⟩
  have HQ := Lib.hid (show RfOK N R ↔ ConsOK N L ∧ InB t 1 3 ∧ NodeOK N u ∧ NodeOK N x ∧ Rf N t L u.toNat x.toNat by rw [ht0, hu0, hx0, hL0]; exact Iff.rfl)
  have hc := (show ConsOK N L by rw [hL0]; exact kc)
  have ht1 := (show t = 1 by rw [ht0]; exact k1)
  have hs6 : L.length ≤ 1048576 := by rw [hL0]; exact hs
  rw [← ht0, ← hu0, ← hx0, ← hL0] at HR0
  rw [← hL0] at HC
  rw [← ht0, ← hu0, ← hx0, ← hL0]
  clear hs ht0 hu0 hx0 hL0 hC
  have HX := Lib.hid ((boxed_ext w (.slice ea N.ends.length ec) v1 v2 34).trans' (boxed4_ext (boxed w (.slice ea N.ends.length ec) v1 v2 34) (.int .i64 t) (.slice ca L.length cc) (.int .i64 u) (.int .i64 x) 52))
  have HR := Lib.hid (show (boxed4 (boxed w (.slice ea N.ends.length ec) v1 v2 34) (.int .i64 t) (.slice ca L.length cc) (.int .i64 u) (.int .i64 x) 52).rowIs w.heap.size 34 3 (tri (.slice ea N.ends.length ec) v1 v2) from (row3_made w (.slice ea N.ends.length ec) v1 v2 34).alloc _)
  have R4 := Lib.hid (show (boxed4 (boxed w (.slice ea N.ends.length ec) v1 v2 34) (.int .i64 t) (.slice ca L.length cc) (.int .i64 u) (.int .i64 x) 52).rowIs (w.heap.size + 1) 52 4 (quad (.int .i64 t) (.slice ca L.length cc) (.int .i64 u) (.int .i64 x)) by simpa using boxed4_row (boxed w (.slice ea N.ends.length ec) v1 v2 34) (.int .i64 t) (.slice ca L.length cc) (.int .i64 u) (.int .i64 x) 52)
  obtain ⟨p0, p1, p2, -, -, -⟩ := row3_facts HR.out
  obtain ⟨s0, s1, s2, s3⟩ := row4_cells R4.out
  have HG := Lib.hid hG
  have hn1 := hG.1.1
  have h40 := hG.1.2
  clear hG
  have CO := Lib.hid (dec_true hc)
  have HCO := Lib.hid hc
  have HLE := Lib.hid hc.1
  clear hc
  subst ht1
  have HRG := Lib.hid (show ∀ i, i < L.length → 0 ≤ gi L i from HCO.out.2.1)
  have HIN := Lib.hid (show ∀ i, i < L.length → inI64 (gi L i) from HC.out.range)
  have OH := Lib.hid (oncT_has (c := L) HRG.out)
  obtain ⟨o, ho⟩ : ∃ o, o = oncT L L.length := ⟨_, rfl⟩
  rw [← ho] at OH
  have HO := Lib.hid ho
  clear ho
  have HF := Lib.hid (show RfOK N R ↔ o < 0 ∧ u = 0 ∧ x = 0 by
    rw [HQ.out]
    constructor
    · rintro ⟨-, -, h3, h4, h5⟩
      have h5 := (rf_iff1 (by have := h3.1; have := h3.2; have := HLE.out; omega) (by have := h4.1; have := h4.2; have := HLE.out; omega)).1 h5
      have h31 := h3.1
      have h41 := h4.1
      refine ⟨?_, by omega, by omega⟩
      by_cases e : 0 ≤ o
      · exact absurd (OH.out.1 e) h5.2.2
      · omega
    · rintro ⟨h1, rfl, rfl⟩
      exact ⟨HCO.out, ⟨by omega, by omega⟩, ⟨by omega, by omega⟩, ⟨by omega, by omega⟩, (rf_iff1 (by have := HLE.out; show 0 < _; omega) (by have := HLE.out; show 0 < _; omega)).2 ⟨rfl, rfl, fun k => by have := OH.out.2 k; omega⟩⟩)
  by_cases e1 : o < 0
  · have b1 : decide (o < 0) = true := by simpa using e1
    by_cases e2 : u = 0
    · have b2 : (u == 0) = true := by simpa using e2
      have D := Lib.hid (show (x == 0) = dec (RfOK N R) from by
        rw [Bool.eq_iff_iff, dec_iff, HF.out, beq_iff_eq]
        exact ⟨fun h => ⟨e1, e2, h⟩, fun h => h.2.2⟩)
      clear e1 e2
      go_enter Try.func83, Try.ntmps83
      go_wp2_with (first | (go_at_call 75; (with_reducible refine (imConsistent_any (HN.out.ext HX.out) (HC.out.ext HX.out) HG.out).mono ?_); rintro e w1 ⟨rfl, hx⟩; rw [CO.out]; have K1 := Lib.hid (HX.out.trans' hx); have R1 := Lib.hid (row_ext HR.out hx); have Q1 := Lib.hid (row_ext R4.out hx); obtain ⟨q0, q1, q2, -, -, -⟩ := row3_facts R1.out; obtain ⟨r0, r1, r2, r3⟩ := row4_cells Q1.out; clear hx p0 p1 p2 s0 s1 s2 s3) | (go_at_call 114; (with_reducible refine (imOnce_any (HC.out.ext K1.out) hs6 (fun i hi => ⟨HRG.out i hi, HIN.out i hi⟩)).mono ?_); rintro e _ ⟨rfl, rfl⟩; rw [← HO.out]))
      go_ret
      exact ⟨ret_bool D.out, K1.out⟩
    · have b2 : (u == 0) = false := by simpa using e2
      have D := Lib.hid (dec_false (p := RfOK N R) fun h => e2 (HF.out.1 h).2.1)
      clear e1 e2
      go_enter Try.func83, Try.ntmps83
      go_wp2_with (first | (go_at_call 75; (with_reducible refine (imConsistent_any (HN.out.ext HX.out) (HC.out.ext HX.out) HG.out).mono ?_); rintro e w1 ⟨rfl, hx⟩; rw [CO.out]; have K1 := Lib.hid (HX.out.trans' hx); have R1 := Lib.hid (row_ext HR.out hx); have Q1 := Lib.hid (row_ext R4.out hx); obtain ⟨q0, q1, q2, -, -, -⟩ := row3_facts R1.out; obtain ⟨r0, r1, r2, r3⟩ := row4_cells Q1.out; clear hx p0 p1 p2 s0 s1 s2 s3) | (go_at_call 114; (with_reducible refine (imOnce_any (HC.out.ext K1.out) hs6 (fun i hi => ⟨HRG.out i hi, HIN.out i hi⟩)).mono ?_); rintro e _ ⟨rfl, rfl⟩; rw [← HO.out]))
      go_ret
      exact ⟨ret_bool D.out.symm, K1.out⟩
  · have b1 : decide (o < 0) = false := by simpa using e1
    have D := Lib.hid (dec_false (p := RfOK N R) fun h => e1 (HF.out.1 h).1)
    clear e1
    go_enter Try.func83, Try.ntmps83
    go_wp2_with (first | (go_at_call 75; (with_reducible refine (imConsistent_any (HN.out.ext HX.out) (HC.out.ext HX.out) HG.out).mono ?_); rintro e w1 ⟨rfl, hx⟩; rw [CO.out]; have K1 := Lib.hid (HX.out.trans' hx); have R1 := Lib.hid (row_ext HR.out hx); have Q1 := Lib.hid (row_ext R4.out hx); obtain ⟨q0, q1, q2, -, -, -⟩ := row3_facts R1.out; obtain ⟨r0, r1, r2, r3⟩ := row4_cells Q1.out; clear hx p0 p1 p2 s0 s1 s2 s3) | (go_at_call 114; (with_reducible refine (imOnce_any (HC.out.ext K1.out) hs6 (fun i hi => ⟨HRG.out i hi, HIN.out i hi⟩)).mono ?_); rintro e _ ⟨rfl, rfl⟩; rw [← HO.out]))
    go_ret
    exact ⟨ret_bool D.out.symm, K1.out⟩

set_option maxHeartbeats 3200000 in
set_option maxRecDepth 100000 in
theorem imRight_a {w : World} {v vr : Value} {N : Net} {R : Rfs} (h : NetAt w v N) (h' : RfAt w vr R) (hs : R.small) (hG : Good N) (kc : ConsOK N R.c) (k1 : R.t ≠ 1) (kt : ¬ InB R.t 1 3) :
    Calls Try.prog 83 #[v, vr] w fun e w' => e = .returned (.bool (dec (RfOK N R))) ∧ Ext w w' := by
  have HR0 := Lib.hid h'
  have HN := Lib.hid h
  obtain ⟨_, v1, v2, rfl, hE, -, -⟩ := h
  obtain ⟨ea, _, _, ec, rfl, -, hel, hem, -⟩ := hE
  unfold maxLen at hem
  obtain ⟨ca, cc, rfl, hC⟩ := h'
  have HC := Lib.hid hC
  obtain ⟨t, ht0⟩ : ∃ t, t = R.t := ⟨_, rfl⟩
  obtain ⟨u, hu0⟩ : ∃ u, u = R.u := ⟨_, rfl⟩
  obtain ⟨x, hx0⟩ : ∃ x, x = R.x := ⟨_, rfl⟩
  obtain ⟨L, hL0⟩ : ∃ L, L = R.c := ⟨_, rfl⟩
  have HQ := Lib.hid (show RfOK N R ↔ ConsOK N L ∧ InB t 1 3 ∧ NodeOK N u ∧ NodeOK N x ∧ Rf N t L u.toNat x.toNat by rw [ht0, hu0, hx0, hL0]; exact Iff.rfl)
  have hc := (show ConsOK N L by rw [hL0]; exact kc)
  have ht1 := (show t ≠ 1 by rw [ht0]; exact k1)
  have ht := (show ¬ InB t 1 3 by rw [ht0]; exact kt)
  have hs6 : L.length ≤ 1048576 := by rw [hL0]; exact hs
  rw [← ht0, ← hu0, ← hx0, ← hL0] at HR0
  rw [← hL0] at HC
  rw [← ht0, ← hu0, ← hx0, ← hL0]
  clear hs ht0 hu0 hx0 hL0 hC
  have HX := Lib.hid ((boxed_ext w (.slice ea N.ends.length ec) v1 v2 34).trans' (boxed4_ext (boxed w (.slice ea N.ends.length ec) v1 v2 34) (.int .i64 t) (.slice ca L.length cc) (.int .i64 u) (.int .i64 x) 52))
  have HR := Lib.hid (show (boxed4 (boxed w (.slice ea N.ends.length ec) v1 v2 34) (.int .i64 t) (.slice ca L.length cc) (.int .i64 u) (.int .i64 x) 52).rowIs w.heap.size 34 3 (tri (.slice ea N.ends.length ec) v1 v2) from (row3_made w (.slice ea N.ends.length ec) v1 v2 34).alloc _)
  have R4 := Lib.hid (show (boxed4 (boxed w (.slice ea N.ends.length ec) v1 v2 34) (.int .i64 t) (.slice ca L.length cc) (.int .i64 u) (.int .i64 x) 52).rowIs (w.heap.size + 1) 52 4 (quad (.int .i64 t) (.slice ca L.length cc) (.int .i64 u) (.int .i64 x)) by simpa using boxed4_row (boxed w (.slice ea N.ends.length ec) v1 v2 34) (.int .i64 t) (.slice ca L.length cc) (.int .i64 u) (.int .i64 x) 52)
  obtain ⟨p0, p1, p2, -, -, -⟩ := row3_facts HR.out
  obtain ⟨s0, s1, s2, s3⟩ := row4_cells R4.out
  have HG := Lib.hid hG
  have hn1 := hG.1.1
  have h40 := hG.1.2
  clear hG
  have CO := Lib.hid (dec_true hc)
  have HCO := Lib.hid hc
  have HLE := Lib.hid hc.1
  clear hc
  have HT1 := Lib.hid ht1
  have bt : (t == 1) = false := by simpa using ht1
  obtain ⟨_, cb, co, _, e, hca, hcl, hcm, hcc⟩ := HC.out
  simp only [Value.slice.injEq] at e
  obtain ⟨rfl, -, rfl⟩ := e
  unfold maxLen at hcm
  have HCC := Lib.hid hcc
  have hL0 : 0 < L.length := by have := HLE.out; omega
  obtain rfl := hca hL0
  clear hca hcc hcl ht1
  have T := Lib.hid (dec_false ht)
  have D := Lib.hid (dec_false (p := RfOK N R) fun k => ht (HQ.out.1 k).2.1)
  clear ht
  go_enter Try.func83, Try.ntmps83
  go_wp2_with (go_at_call 75; (with_reducible refine (imConsistent_any (HN.out.ext HX.out) (HC.out.ext HX.out) HG.out).mono ?_); rintro e w1 ⟨rfl, hx⟩; rw [CO.out]; have K1 := Lib.hid (HX.out.trans' hx); have R1 := Lib.hid (row_ext HR.out hx); have Q1 := Lib.hid (row_ext R4.out hx); obtain ⟨q0, q1, q2, -, -, -⟩ := row3_facts R1.out; obtain ⟨r0, r1, r2, r3⟩ := row4_cells Q1.out; clear hx p0 p1 p2 s0 s1 s2 s3)
  have X0 : ∀ x' : Wx w1, x'.w.cell? ⟨w.heap.size, 0, none⟩ = some (.slice ea N.ends.length ec) := fun x' => x'.ok.cell' q0
  have X1 : ∀ x' : Wx w1, x'.w.cell? ⟨w.heap.size, 1, none⟩ = some v1 := fun x' => x'.ok.cell' q1
  have X2 : ∀ x' : Wx w1, x'.w.cell? ⟨w.heap.size, 2, none⟩ = some v2 := fun x' => x'.ok.cell' q2
  have Y0 : ∀ x' : Wx w1, x'.w.cell? ⟨w.heap.size + 1, 0, none⟩ = some _ := fun x' => x'.ok.cell' r0
  have Y1 : ∀ x' : Wx w1, x'.w.cell? ⟨w.heap.size + 1, 1, none⟩ = some _ := fun x' => x'.ok.cell' r1
  have Y2 : ∀ x' : Wx w1, x'.w.cell? ⟨w.heap.size + 1, 2, none⟩ = some _ := fun x' => x'.ok.cell' r2
  have Y3 : ∀ x' : Wx w1, x'.w.cell? ⟨w.heap.size + 1, 3, none⟩ = some _ := fun x' => x'.ok.cell' r3
  clear q0 q1 q2 r0 r1 r2 r3
  refine wp_region_ext (by kernel_rfl) (by kernel_rfl) ?_
  repeat (go_big_quiet_step ((go_at_call 53; exact in_same_bool (imTask_any _ _) T.out)))
  refine wpQuiet_nil ?_
  rintro wq ⟨⟨_, hq⟩, rfl⟩
  have YQ := Lib.hid hq
  have KQ := Lib.hid (K1.out.trans' hq)
  clear hq X0 X1 X2 Y0 Y1 Y2 Y3
  (try clear Z1 Z2)
  go_wp2
  go_ret
  exact ⟨ret_bool D.out.symm, KQ.out⟩
set_option maxHeartbeats 3200000 in
set_option maxRecDepth 100000 in
theorem imRight_b {w : World} {v vr : Value} {N : Net} {R : Rfs} (h : NetAt w v N) (h' : RfAt w vr R) (hs : R.small) (hG : Good N) (kc : ConsOK N R.c) (k1 : R.t ≠ 1) (kt : InB R.t 1 3) (kx : ¬ InB R.x 0 ((N.ends.length : Int) - 1)) :
    Calls Try.prog 83 #[v, vr] w fun e w' => e = .returned (.bool (dec (RfOK N R))) ∧ Ext w w' := by
  have HR0 := Lib.hid h'
  have HN := Lib.hid h
  obtain ⟨_, v1, v2, rfl, hE, -, -⟩ := h
  obtain ⟨ea, _, _, ec, rfl, -, hel, hem, -⟩ := hE
  unfold maxLen at hem
  obtain ⟨ca, cc, rfl, hC⟩ := h'
  have HC := Lib.hid hC
  obtain ⟨t, ht0⟩ : ∃ t, t = R.t := ⟨_, rfl⟩
  obtain ⟨u, hu0⟩ : ∃ u, u = R.u := ⟨_, rfl⟩
  obtain ⟨x, hx0⟩ : ∃ x, x = R.x := ⟨_, rfl⟩
  obtain ⟨L, hL0⟩ : ∃ L, L = R.c := ⟨_, rfl⟩
  have HQ := Lib.hid (show RfOK N R ↔ ConsOK N L ∧ InB t 1 3 ∧ NodeOK N u ∧ NodeOK N x ∧ Rf N t L u.toNat x.toNat by rw [ht0, hu0, hx0, hL0]; exact Iff.rfl)
  have hc := (show ConsOK N L by rw [hL0]; exact kc)
  have ht1 := (show t ≠ 1 by rw [ht0]; exact k1)
  have ht := (show InB t 1 3 by rw [ht0]; exact kt)
  have hx := (show ¬ InB x 0 ((N.ends.length : Int) - 1) by rw [hx0]; exact kx)
  have hs6 : L.length ≤ 1048576 := by rw [hL0]; exact hs
  rw [← ht0, ← hu0, ← hx0, ← hL0] at HR0
  rw [← hL0] at HC
  rw [← ht0, ← hu0, ← hx0, ← hL0]
  clear hs ht0 hu0 hx0 hL0 hC
  have HX := Lib.hid ((boxed_ext w (.slice ea N.ends.length ec) v1 v2 34).trans' (boxed4_ext (boxed w (.slice ea N.ends.length ec) v1 v2 34) (.int .i64 t) (.slice ca L.length cc) (.int .i64 u) (.int .i64 x) 52))
  have HR := Lib.hid (show (boxed4 (boxed w (.slice ea N.ends.length ec) v1 v2 34) (.int .i64 t) (.slice ca L.length cc) (.int .i64 u) (.int .i64 x) 52).rowIs w.heap.size 34 3 (tri (.slice ea N.ends.length ec) v1 v2) from (row3_made w (.slice ea N.ends.length ec) v1 v2 34).alloc _)
  have R4 := Lib.hid (show (boxed4 (boxed w (.slice ea N.ends.length ec) v1 v2 34) (.int .i64 t) (.slice ca L.length cc) (.int .i64 u) (.int .i64 x) 52).rowIs (w.heap.size + 1) 52 4 (quad (.int .i64 t) (.slice ca L.length cc) (.int .i64 u) (.int .i64 x)) by simpa using boxed4_row (boxed w (.slice ea N.ends.length ec) v1 v2 34) (.int .i64 t) (.slice ca L.length cc) (.int .i64 u) (.int .i64 x) 52)
  obtain ⟨p0, p1, p2, -, -, -⟩ := row3_facts HR.out
  obtain ⟨s0, s1, s2, s3⟩ := row4_cells R4.out
  have HG := Lib.hid hG
  have hn1 := hG.1.1
  have h40 := hG.1.2
  clear hG
  have CO := Lib.hid (dec_true hc)
  have HCO := Lib.hid hc
  have HLE := Lib.hid hc.1
  clear hc
  have HT1 := Lib.hid ht1
  have bt : (t == 1) = false := by simpa using ht1
  obtain ⟨_, cb, co, _, e, hca, hcl, hcm, hcc⟩ := HC.out
  simp only [Value.slice.injEq] at e
  obtain ⟨rfl, -, rfl⟩ := e
  unfold maxLen at hcm
  have HCC := Lib.hid hcc
  have hL0 : 0 < L.length := by have := HLE.out; omega
  obtain rfl := hca hL0
  clear hca hcc hcl ht1
  have T := Lib.hid (dec_true ht)
  have V1 := Lib.hid (dec_false hx)
  have D := Lib.hid (dec_false (p := RfOK N R) fun k => hx (by have := (HQ.out.1 k).2.2.2.1; exact ⟨this.1, by have := this.2; omega⟩))
  clear hx
  go_enter Try.func83, Try.ntmps83
  go_wp2_with (go_at_call 75; (with_reducible refine (imConsistent_any (HN.out.ext HX.out) (HC.out.ext HX.out) HG.out).mono ?_); rintro e w1 ⟨rfl, hx⟩; rw [CO.out]; have K1 := Lib.hid (HX.out.trans' hx); have R1 := Lib.hid (row_ext HR.out hx); have Q1 := Lib.hid (row_ext R4.out hx); obtain ⟨q0, q1, q2, -, -, -⟩ := row3_facts R1.out; obtain ⟨r0, r1, r2, r3⟩ := row4_cells Q1.out; clear hx p0 p1 p2 s0 s1 s2 s3)
  have X0 : ∀ x' : Wx w1, x'.w.cell? ⟨w.heap.size, 0, none⟩ = some (.slice ea N.ends.length ec) := fun x' => x'.ok.cell' q0
  have X1 : ∀ x' : Wx w1, x'.w.cell? ⟨w.heap.size, 1, none⟩ = some v1 := fun x' => x'.ok.cell' q1
  have X2 : ∀ x' : Wx w1, x'.w.cell? ⟨w.heap.size, 2, none⟩ = some v2 := fun x' => x'.ok.cell' q2
  have Y0 : ∀ x' : Wx w1, x'.w.cell? ⟨w.heap.size + 1, 0, none⟩ = some _ := fun x' => x'.ok.cell' r0
  have Y1 : ∀ x' : Wx w1, x'.w.cell? ⟨w.heap.size + 1, 1, none⟩ = some _ := fun x' => x'.ok.cell' r1
  have Y2 : ∀ x' : Wx w1, x'.w.cell? ⟨w.heap.size + 1, 2, none⟩ = some _ := fun x' => x'.ok.cell' r2
  have Y3 : ∀ x' : Wx w1, x'.w.cell? ⟨w.heap.size + 1, 3, none⟩ = some _ := fun x' => x'.ok.cell' r3
  clear q0 q1 q2 r0 r1 r2 r3
  refine wp_region_ext (by kernel_rfl) (by kernel_rfl) ?_
  repeat (go_big_quiet_step (first | (go_at_call 53; exact in_same_bool (imTask_any _ _) T.out) | (go_at_call_of 103 (Value.int .i64 x); with_reducible exact in_same_bool (l1In_any _ 0 ((N.ends.length : Int) - 1) _) V1.out)))
  refine wpQuiet_nil ?_
  rintro wq ⟨⟨_, hq⟩, rfl⟩
  have YQ := Lib.hid hq
  have KQ := Lib.hid (K1.out.trans' hq)
  clear hq X0 X1 X2 Y0 Y1 Y2 Y3
  (try clear Z1 Z2)
  go_wp2
  go_ret
  exact ⟨ret_bool D.out.symm, KQ.out⟩

set_option maxHeartbeats 3200000 in
set_option maxRecDepth 100000 in
theorem imRight_c {w : World} {v vr : Value} {N : Net} {R : Rfs} (h : NetAt w v N) (h' : RfAt w vr R) (hs : R.small) (hG : Good N) (kc : ConsOK N R.c) (k1 : R.t ≠ 1) (kt : InB R.t 1 3) (kx : InB R.x 0 ((N.ends.length : Int) - 1)) (ku : ¬ InB R.u 0 R.x) :
    Calls Try.prog 83 #[v, vr] w fun e w' => e = .returned (.bool (dec (RfOK N R))) ∧ Ext w w' := by
  have HR0 := Lib.hid h'
  have HN := Lib.hid h
  obtain ⟨_, v1, v2, rfl, hE, -, -⟩ := h
  obtain ⟨ea, _, _, ec, rfl, -, hel, hem, -⟩ := hE
  unfold maxLen at hem
  obtain ⟨ca, cc, rfl, hC⟩ := h'
  have HC := Lib.hid hC
  obtain ⟨t, ht0⟩ : ∃ t, t = R.t := ⟨_, rfl⟩
  obtain ⟨u, hu0⟩ : ∃ u, u = R.u := ⟨_, rfl⟩
  obtain ⟨x, hx0⟩ : ∃ x, x = R.x := ⟨_, rfl⟩
  obtain ⟨L, hL0⟩ : ∃ L, L = R.c := ⟨_, rfl⟩
  have HQ := Lib.hid (show RfOK N R ↔ ConsOK N L ∧ InB t 1 3 ∧ NodeOK N u ∧ NodeOK N x ∧ Rf N t L u.toNat x.toNat by rw [ht0, hu0, hx0, hL0]; exact Iff.rfl)
  have hc := (show ConsOK N L by rw [hL0]; exact kc)
  have ht1 := (show t ≠ 1 by rw [ht0]; exact k1)
  have ht := (show InB t 1 3 by rw [ht0]; exact kt)
  have hx := (show InB x 0 ((N.ends.length : Int) - 1) by rw [hx0]; exact kx)
  have hu := (show ¬ InB u 0 x by rw [hu0, hx0]; exact ku)
  have hs6 : L.length ≤ 1048576 := by rw [hL0]; exact hs
  rw [← ht0, ← hu0, ← hx0, ← hL0] at HR0
  rw [← hL0] at HC
  rw [← ht0, ← hu0, ← hx0, ← hL0]
  clear hs ht0 hu0 hx0 hL0 hC
  have HX := Lib.hid ((boxed_ext w (.slice ea N.ends.length ec) v1 v2 34).trans' (boxed4_ext (boxed w (.slice ea N.ends.length ec) v1 v2 34) (.int .i64 t) (.slice ca L.length cc) (.int .i64 u) (.int .i64 x) 52))
  have HR := Lib.hid (show (boxed4 (boxed w (.slice ea N.ends.length ec) v1 v2 34) (.int .i64 t) (.slice ca L.length cc) (.int .i64 u) (.int .i64 x) 52).rowIs w.heap.size 34 3 (tri (.slice ea N.ends.length ec) v1 v2) from (row3_made w (.slice ea N.ends.length ec) v1 v2 34).alloc _)
  have R4 := Lib.hid (show (boxed4 (boxed w (.slice ea N.ends.length ec) v1 v2 34) (.int .i64 t) (.slice ca L.length cc) (.int .i64 u) (.int .i64 x) 52).rowIs (w.heap.size + 1) 52 4 (quad (.int .i64 t) (.slice ca L.length cc) (.int .i64 u) (.int .i64 x)) by simpa using boxed4_row (boxed w (.slice ea N.ends.length ec) v1 v2 34) (.int .i64 t) (.slice ca L.length cc) (.int .i64 u) (.int .i64 x) 52)
  obtain ⟨p0, p1, p2, -, -, -⟩ := row3_facts HR.out
  obtain ⟨s0, s1, s2, s3⟩ := row4_cells R4.out
  have HG := Lib.hid hG
  have hn1 := hG.1.1
  have h40 := hG.1.2
  clear hG
  have CO := Lib.hid (dec_true hc)
  have HCO := Lib.hid hc
  have HLE := Lib.hid hc.1
  clear hc
  have HT1 := Lib.hid ht1
  have bt : (t == 1) = false := by simpa using ht1
  obtain ⟨_, cb, co, _, e, hca, hcl, hcm, hcc⟩ := HC.out
  simp only [Value.slice.injEq] at e
  obtain ⟨rfl, -, rfl⟩ := e
  unfold maxLen at hcm
  have HCC := Lib.hid hcc
  have hL0 : 0 < L.length := by have := HLE.out; omega
  obtain rfl := hca hL0
  clear hca hcc hcl ht1
  have T := Lib.hid (dec_true ht)
  have V1 := Lib.hid (dec_true hx)
  have V2 := Lib.hid (dec_false hu)
  have D := Lib.hid (dec_false (p := RfOK N R) fun k => hu (by
    have hk := HQ.out.1 k
    have h1 := hk.2.2.1.1
    have h2 := hk.2.2.2.1.1
    refine ⟨h1, ?_⟩
    rcases hk.2.2.2.2.2.2 with ⟨e, -⟩ | ⟨-, h, -⟩ | ⟨-, h, -⟩
    · exact absurd e HT1.out
    · omega
    · omega))
  clear hx hu
  go_enter Try.func83, Try.ntmps83
  go_wp2_with (go_at_call 75; (with_reducible refine (imConsistent_any (HN.out.ext HX.out) (HC.out.ext HX.out) HG.out).mono ?_); rintro e w1 ⟨rfl, hx⟩; rw [CO.out]; have K1 := Lib.hid (HX.out.trans' hx); have R1 := Lib.hid (row_ext HR.out hx); have Q1 := Lib.hid (row_ext R4.out hx); obtain ⟨q0, q1, q2, -, -, -⟩ := row3_facts R1.out; obtain ⟨r0, r1, r2, r3⟩ := row4_cells Q1.out; clear hx p0 p1 p2 s0 s1 s2 s3)
  have X0 : ∀ x' : Wx w1, x'.w.cell? ⟨w.heap.size, 0, none⟩ = some (.slice ea N.ends.length ec) := fun x' => x'.ok.cell' q0
  have X1 : ∀ x' : Wx w1, x'.w.cell? ⟨w.heap.size, 1, none⟩ = some v1 := fun x' => x'.ok.cell' q1
  have X2 : ∀ x' : Wx w1, x'.w.cell? ⟨w.heap.size, 2, none⟩ = some v2 := fun x' => x'.ok.cell' q2
  have Y0 : ∀ x' : Wx w1, x'.w.cell? ⟨w.heap.size + 1, 0, none⟩ = some _ := fun x' => x'.ok.cell' r0
  have Y1 : ∀ x' : Wx w1, x'.w.cell? ⟨w.heap.size + 1, 1, none⟩ = some _ := fun x' => x'.ok.cell' r1
  have Y2 : ∀ x' : Wx w1, x'.w.cell? ⟨w.heap.size + 1, 2, none⟩ = some _ := fun x' => x'.ok.cell' r2
  have Y3 : ∀ x' : Wx w1, x'.w.cell? ⟨w.heap.size + 1, 3, none⟩ = some _ := fun x' => x'.ok.cell' r3
  clear q0 q1 q2 r0 r1 r2 r3
  refine wp_region_ext (by kernel_rfl) (by kernel_rfl) ?_
  iterate 19 (go_big_quiet_step (first | (go_at_call 53; exact in_same_bool (imTask_any _ _) T.out) | (go_at_call 103; with_reducible exact in_same_bool (l1In_any _ 0 ((N.ends.length : Int) - 1) _) V1.out)))
  go_big_quiet_step ((go_at_call 103; with_reducible exact in_same_bool (l1In_any _ 0 _ _) V2.out))
  repeat (go_big_quiet_step (fail))
  refine wpQuiet_nil ?_
  rintro wq ⟨⟨_, hq⟩, rfl⟩
  have YQ := Lib.hid hq
  have KQ := Lib.hid (K1.out.trans' hq)
  clear hq X0 X1 X2 Y0 Y1 Y2 Y3
  (try clear Z1 Z2)
  go_wp2
  go_ret
  exact ⟨ret_bool D.out.symm, KQ.out⟩

set_option maxHeartbeats 3200000 in
set_option maxRecDepth 100000 in
theorem imRight_d {w : World} {v vr : Value} {N : Net} {R : Rfs} (h : NetAt w v N) (h' : RfAt w vr R) (hs : R.small) (hG : Good N) (kc : ConsOK N R.c) (k1 : R.t ≠ 1) (kt : InB R.t 1 3) (kx : InB R.x 0 ((N.ends.length : Int) - 1)) (ku : InB R.u 0 R.x) (ke : gi R.c R.u.toNat ≠ gi R.c R.x.toNat) :
    Calls Try.prog 83 #[v, vr] w fun e w' => e = .returned (.bool (dec (RfOK N R))) ∧ Ext w w' := by
  have HR0 := Lib.hid h'
  have HN := Lib.hid h
  obtain ⟨_, v1, v2, rfl, hE, -, -⟩ := h
  obtain ⟨ea, _, _, ec, rfl, -, hel, hem, -⟩ := hE
  unfold maxLen at hem
  obtain ⟨ca, cc, rfl, hC⟩ := h'
  have HC := Lib.hid hC
  obtain ⟨t, ht0⟩ : ∃ t, t = R.t := ⟨_, rfl⟩
  obtain ⟨u, hu0⟩ : ∃ u, u = R.u := ⟨_, rfl⟩
  obtain ⟨x, hx0⟩ : ∃ x, x = R.x := ⟨_, rfl⟩
  obtain ⟨L, hL0⟩ : ∃ L, L = R.c := ⟨_, rfl⟩
  have HQ := Lib.hid (show RfOK N R ↔ ConsOK N L ∧ InB t 1 3 ∧ NodeOK N u ∧ NodeOK N x ∧ Rf N t L u.toNat x.toNat by rw [ht0, hu0, hx0, hL0]; exact Iff.rfl)
  have hc := (show ConsOK N L by rw [hL0]; exact kc)
  have ht1 := (show t ≠ 1 by rw [ht0]; exact k1)
  have ht := (show InB t 1 3 by rw [ht0]; exact kt)
  have hx := (show InB x 0 ((N.ends.length : Int) - 1) by rw [hx0]; exact kx)
  have hu := (show InB u 0 x by rw [hu0, hx0]; exact ku)
  have ke' := (show gi L u.toNat ≠ gi L x.toNat by rw [hL0, hu0, hx0]; exact ke)
  have hs6 : L.length ≤ 1048576 := by rw [hL0]; exact hs
  rw [← ht0, ← hu0, ← hx0, ← hL0] at HR0
  rw [← hL0] at HC
  rw [← ht0, ← hu0, ← hx0, ← hL0]
  clear hs ht0 hu0 hx0 hL0 hC
  have HX := Lib.hid ((boxed_ext w (.slice ea N.ends.length ec) v1 v2 34).trans' (boxed4_ext (boxed w (.slice ea N.ends.length ec) v1 v2 34) (.int .i64 t) (.slice ca L.length cc) (.int .i64 u) (.int .i64 x) 52))
  have HR := Lib.hid (show (boxed4 (boxed w (.slice ea N.ends.length ec) v1 v2 34) (.int .i64 t) (.slice ca L.length cc) (.int .i64 u) (.int .i64 x) 52).rowIs w.heap.size 34 3 (tri (.slice ea N.ends.length ec) v1 v2) from (row3_made w (.slice ea N.ends.length ec) v1 v2 34).alloc _)
  have R4 := Lib.hid (show (boxed4 (boxed w (.slice ea N.ends.length ec) v1 v2 34) (.int .i64 t) (.slice ca L.length cc) (.int .i64 u) (.int .i64 x) 52).rowIs (w.heap.size + 1) 52 4 (quad (.int .i64 t) (.slice ca L.length cc) (.int .i64 u) (.int .i64 x)) by simpa using boxed4_row (boxed w (.slice ea N.ends.length ec) v1 v2 34) (.int .i64 t) (.slice ca L.length cc) (.int .i64 u) (.int .i64 x) 52)
  obtain ⟨p0, p1, p2, -, -, -⟩ := row3_facts HR.out
  obtain ⟨s0, s1, s2, s3⟩ := row4_cells R4.out
  have HG := Lib.hid hG
  have hn1 := hG.1.1
  have h40 := hG.1.2
  clear hG
  have CO := Lib.hid (dec_true hc)
  have HCO := Lib.hid hc
  have HLE := Lib.hid hc.1
  clear hc
  have HT1 := Lib.hid ht1
  have bt : (t == 1) = false := by simpa using ht1
  obtain ⟨_, cb, co, _, e, hca, hcl, hcm, hcc⟩ := HC.out
  simp only [Value.slice.injEq] at e
  obtain ⟨rfl, -, rfl⟩ := e
  unfold maxLen at hcm
  have HCC := Lib.hid hcc
  have hL0 : 0 < L.length := by have := HLE.out; omega
  obtain rfl := hca hL0
  clear hca hcc hcl ht1
  have T := Lib.hid (dec_true ht)
  have V1 := Lib.hid (dec_true hx)
  have V2 := Lib.hid (dec_true hu)
  obtain ⟨y, rfl⟩ := Int.eq_ofNat_of_zero_le hu.1
  obtain ⟨z, rfl⟩ := Int.eq_ofNat_of_zero_le hx.1
  have hyz : y ≤ z := by have := hu.2; omega
  have hze : z < N.ends.length := by have := hx.2; omega
  have hy : y < L.length := by have := HLE.out; omega
  have hz : z < L.length := by have := HLE.out; omega
  have HRF := Lib.hid (show RfOK N R ↔ Rf N t L y z from by
    rw [HQ.out, Int.toNat_natCast, Int.toNat_natCast]
    exact ⟨fun k => k.2.2.2.2, fun k => ⟨HCO.out, ht, ⟨by omega, by omega⟩, ⟨by omega, by omega⟩, k⟩⟩)
  obtain ⟨_, k1, rfl, -⟩ := HCC.out y hy
  obtain ⟨_, k2, rfl, -⟩ := HCC.out z hz
  obtain ⟨gy, hgy⟩ : ∃ d, d = gi L y := ⟨_, rfl⟩
  obtain ⟨gz, hgz⟩ : ∃ d, d = gi L z := ⟨_, rfl⟩
  have HGY := Lib.hid hgy
  have HGZ := Lib.hid hgz
  rw [← hgy] at k1
  rw [← hgz] at k2
  have e1 : gy ≠ gz := by rw [hgy, hgz]; simpa using ke'
  clear hx hu hgy hgz ke'
  have b1 : (gy != gz) = true := by simpa using e1
  have D := Lib.hid (dec_false (p := RfOK N R) fun k => e1 (by
    rw [HGY.out, HGZ.out]
    rcases (HRF.out.1 k).2.2 with ⟨e, -⟩ | ⟨-, -, h, -⟩ | ⟨-, -, h⟩
    · exact absurd e HT1.out
    · exact h
    · exact h))
  clear e1
  go_enter Try.func83, Try.ntmps83
  go_wp2_with (go_at_call 75; (with_reducible refine (imConsistent_any (HN.out.ext HX.out) (HC.out.ext HX.out) HG.out).mono ?_); rintro e w1 ⟨rfl, hx⟩; rw [CO.out]; have K1 := Lib.hid (HX.out.trans' hx); have R1 := Lib.hid (row_ext HR.out hx); have Q1 := Lib.hid (row_ext R4.out hx); obtain ⟨q0, q1, q2, -, -, -⟩ := row3_facts R1.out; obtain ⟨r0, r1, r2, r3⟩ := row4_cells Q1.out; clear hx p0 p1 p2 s0 s1 s2 s3)
  have X0 : ∀ x' : Wx w1, x'.w.cell? ⟨w.heap.size, 0, none⟩ = some (.slice ea N.ends.length ec) := fun x' => x'.ok.cell' q0
  have X1 : ∀ x' : Wx w1, x'.w.cell? ⟨w.heap.size, 1, none⟩ = some v1 := fun x' => x'.ok.cell' q1
  have X2 : ∀ x' : Wx w1, x'.w.cell? ⟨w.heap.size, 2, none⟩ = some v2 := fun x' => x'.ok.cell' q2
  have Y0 : ∀ x' : Wx w1, x'.w.cell? ⟨w.heap.size + 1, 0, none⟩ = some _ := fun x' => x'.ok.cell' r0
  have Y1 : ∀ x' : Wx w1, x'.w.cell? ⟨w.heap.size + 1, 1, none⟩ = some _ := fun x' => x'.ok.cell' r1
  have Y2 : ∀ x' : Wx w1, x'.w.cell? ⟨w.heap.size + 1, 2, none⟩ = some _ := fun x' => x'.ok.cell' r2
  have Y3 : ∀ x' : Wx w1, x'.w.cell? ⟨w.heap.size + 1, 3, none⟩ = some _ := fun x' => x'.ok.cell' r3
  clear q0 q1 q2 r0 r1 r2 r3
  have Z1 : ∀ x' : Wx w1, x'.w.cell? ⟨cb, co + y, none⟩ = some (.int .i64 gy) := fun x' => x'.ok.cell' (K1.out.cell' k1)
  have Z2 : ∀ x' : Wx w1, x'.w.cell? ⟨cb, co + z, none⟩ = some (.int .i64 gz) := fun x' => x'.ok.cell' (K1.out.cell' k2)
  refine wp_region_ext (by kernel_rfl) (by kernel_rfl) ?_
  iterate 19 (go_big_quiet_step (first | (go_at_call 53; exact in_same_bool (imTask_any _ _) T.out) | (go_at_call 103; with_reducible exact in_same_bool (l1In_any _ 0 ((N.ends.length : Int) - 1) _) V1.out)))
  go_big_quiet_step ((go_at_call 103; with_reducible exact in_same_bool (l1In_any _ 0 _ _) V2.out))
  repeat (go_big_quiet_step (fail))
  refine wpQuiet_nil ?_
  rintro wq ⟨⟨_, hq⟩, rfl⟩
  have YQ := Lib.hid hq
  have KQ := Lib.hid (K1.out.trans' hq)
  clear hq X0 X1 X2 Y0 Y1 Y2 Y3
  (try clear Z1 Z2)
  go_wp2
  go_ret
  exact ⟨ret_bool D.out.symm, KQ.out⟩

set_option maxHeartbeats 3200000 in
set_option maxRecDepth 100000 in
theorem imRight_3 {w : World} {v vr : Value} {N : Net} {R : Rfs} (h : NetAt w v N) (h' : RfAt w vr R) (hs : R.small) (hG : Good N) (kc : ConsOK N R.c) (k1 : R.t ≠ 1) (kt : InB R.t 1 3) (kx : InB R.x 0 ((N.ends.length : Int) - 1)) (ku : InB R.u 0 R.x) (ke : gi R.c R.u.toNat = gi R.c R.x.toNat) (k3 : R.t = 3) :
    Calls Try.prog 83 #[v, vr] w fun e w' => e = .returned (.bool (dec (RfOK N R))) ∧ Ext w w' := by
  have HR0 := Lib.hid h'
  have HN := Lib.hid h
  obtain ⟨_, v1, v2, rfl, hE, -, -⟩ := h
  obtain ⟨ea, _, _, ec, rfl, -, hel, hem, -⟩ := hE
  unfold maxLen at hem
  obtain ⟨ca, cc, rfl, hC⟩ := h'
  have HC := Lib.hid hC
  obtain ⟨t, ht0⟩ : ∃ t, t = R.t := ⟨_, rfl⟩
  obtain ⟨u, hu0⟩ : ∃ u, u = R.u := ⟨_, rfl⟩
  obtain ⟨x, hx0⟩ : ∃ x, x = R.x := ⟨_, rfl⟩
  obtain ⟨L, hL0⟩ : ∃ L, L = R.c := ⟨_, rfl⟩
  have HQ := Lib.hid (show RfOK N R ↔ ConsOK N L ∧ InB t 1 3 ∧ NodeOK N u ∧ NodeOK N x ∧ Rf N t L u.toNat x.toNat by rw [ht0, hu0, hx0, hL0]; exact Iff.rfl)
  have hc := (show ConsOK N L by rw [hL0]; exact kc)
  have ht1 := (show t ≠ 1 by rw [ht0]; exact k1)
  have ht := (show InB t 1 3 by rw [ht0]; exact kt)
  have hx := (show InB x 0 ((N.ends.length : Int) - 1) by rw [hx0]; exact kx)
  have hu := (show InB u 0 x by rw [hu0, hx0]; exact ku)
  have ke' := (show gi L u.toNat = gi L x.toNat by rw [hL0, hu0, hx0]; exact ke)
  have ht3 := (show t = 3 by rw [ht0]; exact k3)
  have hs6 : L.length ≤ 1048576 := by rw [hL0]; exact hs
  rw [← ht0, ← hu0, ← hx0, ← hL0] at HR0
  rw [← hL0] at HC
  rw [← ht0, ← hu0, ← hx0, ← hL0]
  clear hs ht0 hu0 hx0 hL0 hC
  have HX := Lib.hid ((boxed_ext w (.slice ea N.ends.length ec) v1 v2 34).trans' (boxed4_ext (boxed w (.slice ea N.ends.length ec) v1 v2 34) (.int .i64 t) (.slice ca L.length cc) (.int .i64 u) (.int .i64 x) 52))
  have HR := Lib.hid (show (boxed4 (boxed w (.slice ea N.ends.length ec) v1 v2 34) (.int .i64 t) (.slice ca L.length cc) (.int .i64 u) (.int .i64 x) 52).rowIs w.heap.size 34 3 (tri (.slice ea N.ends.length ec) v1 v2) from (row3_made w (.slice ea N.ends.length ec) v1 v2 34).alloc _)
  have R4 := Lib.hid (show (boxed4 (boxed w (.slice ea N.ends.length ec) v1 v2 34) (.int .i64 t) (.slice ca L.length cc) (.int .i64 u) (.int .i64 x) 52).rowIs (w.heap.size + 1) 52 4 (quad (.int .i64 t) (.slice ca L.length cc) (.int .i64 u) (.int .i64 x)) by simpa using boxed4_row (boxed w (.slice ea N.ends.length ec) v1 v2 34) (.int .i64 t) (.slice ca L.length cc) (.int .i64 u) (.int .i64 x) 52)
  obtain ⟨p0, p1, p2, -, -, -⟩ := row3_facts HR.out
  obtain ⟨s0, s1, s2, s3⟩ := row4_cells R4.out
  have HG := Lib.hid hG
  have hn1 := hG.1.1
  have h40 := hG.1.2
  clear hG
  have CO := Lib.hid (dec_true hc)
  have HCO := Lib.hid hc
  have HLE := Lib.hid hc.1
  clear hc
  have HT1 := Lib.hid ht1
  have bt : (t == 1) = false := by simpa using ht1
  obtain ⟨_, cb, co, _, e, hca, hcl, hcm, hcc⟩ := HC.out
  simp only [Value.slice.injEq] at e
  obtain ⟨rfl, -, rfl⟩ := e
  unfold maxLen at hcm
  have HCC := Lib.hid hcc
  have hL0 : 0 < L.length := by have := HLE.out; omega
  obtain rfl := hca hL0
  clear hca hcc hcl ht1
  have T := Lib.hid (dec_true ht)
  have V1 := Lib.hid (dec_true hx)
  have V2 := Lib.hid (dec_true hu)
  obtain ⟨y, rfl⟩ := Int.eq_ofNat_of_zero_le hu.1
  obtain ⟨z, rfl⟩ := Int.eq_ofNat_of_zero_le hx.1
  have hyz : y ≤ z := by have := hu.2; omega
  have hze : z < N.ends.length := by have := hx.2; omega
  have hy : y < L.length := by have := HLE.out; omega
  have hz : z < L.length := by have := HLE.out; omega
  have HRF := Lib.hid (show RfOK N R ↔ Rf N t L y z from by
    rw [HQ.out, Int.toNat_natCast, Int.toNat_natCast]
    exact ⟨fun k => k.2.2.2.2, fun k => ⟨HCO.out, ht, ⟨by omega, by omega⟩, ⟨by omega, by omega⟩, k⟩⟩)
  obtain ⟨_, k1, rfl, -⟩ := HCC.out y hy
  obtain ⟨_, k2, rfl, -⟩ := HCC.out z hz
  obtain ⟨gy, hgy⟩ : ∃ d, d = gi L y := ⟨_, rfl⟩
  obtain ⟨gz, hgz⟩ : ∃ d, d = gi L z := ⟨_, rfl⟩
  have HGY := Lib.hid hgy
  have HGZ := Lib.hid hgz
  rw [← hgy] at k1
  rw [← hgz] at k2
  have e1 : gy = gz := by rw [hgy, hgz]; simpa using ke'
  clear hx hu hgy hgz ke'
  have b1 : (gy != gz) = false := by simpa using e1
  have EQ := Lib.hid (show gi L y = gi L z by rw [← HGY.out, ← HGZ.out]; exact e1)
  clear e1
  have b3 : (t == 3) = true := by simpa using ht3
  have D := Lib.hid (show decide (y < z) = dec (RfOK N R) from by
    rw [Bool.eq_iff_iff, decide_eq_true_iff, dec_iff, HRF.out, ht3, rf_iff3 hy hz]
    exact ⟨fun h => ⟨h, EQ.out⟩, fun h => h.1⟩)
  clear ht3
  go_enter Try.func83, Try.ntmps83
  go_wp2_with (go_at_call 75; (with_reducible refine (imConsistent_any (HN.out.ext HX.out) (HC.out.ext HX.out) HG.out).mono ?_); rintro e w1 ⟨rfl, hx⟩; rw [CO.out]; have K1 := Lib.hid (HX.out.trans' hx); have R1 := Lib.hid (row_ext HR.out hx); have Q1 := Lib.hid (row_ext R4.out hx); obtain ⟨q0, q1, q2, -, -, -⟩ := row3_facts R1.out; obtain ⟨r0, r1, r2, r3⟩ := row4_cells Q1.out; clear hx p0 p1 p2 s0 s1 s2 s3)
  have X0 : ∀ x' : Wx w1, x'.w.cell? ⟨w.heap.size, 0, none⟩ = some (.slice ea N.ends.length ec) := fun x' => x'.ok.cell' q0
  have X1 : ∀ x' : Wx w1, x'.w.cell? ⟨w.heap.size, 1, none⟩ = some v1 := fun x' => x'.ok.cell' q1
  have X2 : ∀ x' : Wx w1, x'.w.cell? ⟨w.heap.size, 2, none⟩ = some v2 := fun x' => x'.ok.cell' q2
  have Y0 : ∀ x' : Wx w1, x'.w.cell? ⟨w.heap.size + 1, 0, none⟩ = some _ := fun x' => x'.ok.cell' r0
  have Y1 : ∀ x' : Wx w1, x'.w.cell? ⟨w.heap.size + 1, 1, none⟩ = some _ := fun x' => x'.ok.cell' r1
  have Y2 : ∀ x' : Wx w1, x'.w.cell? ⟨w.heap.size + 1, 2, none⟩ = some _ := fun x' => x'.ok.cell' r2
  have Y3 : ∀ x' : Wx w1, x'.w.cell? ⟨w.heap.size + 1, 3, none⟩ = some _ := fun x' => x'.ok.cell' r3
  clear q0 q1 q2 r0 r1 r2 r3
  have Z1 : ∀ x' : Wx w1, x'.w.cell? ⟨cb, co + y, none⟩ = some (.int .i64 gy) := fun x' => x'.ok.cell' (K1.out.cell' k1)
  have Z2 : ∀ x' : Wx w1, x'.w.cell? ⟨cb, co + z, none⟩ = some (.int .i64 gz) := fun x' => x'.ok.cell' (K1.out.cell' k2)
  refine wp_region_ext (by kernel_rfl) (by kernel_rfl) ?_
  iterate 19 (go_big_quiet_step (first | (go_at_call 53; exact in_same_bool (imTask_any _ _) T.out) | (go_at_call 103; with_reducible exact in_same_bool (l1In_any _ 0 ((N.ends.length : Int) - 1) _) V1.out)))
  go_big_quiet_step ((go_at_call 103; with_reducible exact in_same_bool (l1In_any _ 0 _ _) V2.out))
  repeat (go_big_quiet_step (fail))
  refine wpQuiet_nil ?_
  rintro wq ⟨⟨_, hq⟩, rfl⟩
  have YQ := Lib.hid hq
  have KQ := Lib.hid (K1.out.trans' hq)
  clear hq X0 X1 X2 Y0 Y1 Y2 Y3
  (try clear Z1 Z2)
  obtain ⟨u0, u1, u2, u3⟩ := row4_cells (row_ext Q1.out YQ.out)
  go_wp2
  go_ret
  exact ⟨ret_bool D.out, KQ.out⟩

set_option maxHeartbeats 3200000 in
set_option maxRecDepth 100000 in
theorem imRight_2 {w : World} {v vr : Value} {N : Net} {R : Rfs} (h : NetAt w v N) (h' : RfAt w vr R) (hs : R.small) (hG : Good N) (kc : ConsOK N R.c) (k1 : R.t ≠ 1) (kt : InB R.t 1 3) (kx : InB R.x 0 ((N.ends.length : Int) - 1)) (ku : InB R.u 0 R.x) (ke : gi R.c R.u.toNat = gi R.c R.x.toNat) (k3 : R.t ≠ 3) :
    Calls Try.prog 83 #[v, vr] w fun e w' => e = .returned (.bool (dec (RfOK N R))) ∧ Ext w w' := by
  have HR0 := Lib.hid h'
  have HN := Lib.hid h
  obtain ⟨_, v1, v2, rfl, hE, -, -⟩ := h
  obtain ⟨ea, _, _, ec, rfl, -, hel, hem, -⟩ := hE
  unfold maxLen at hem
  obtain ⟨ca, cc, rfl, hC⟩ := h'
  have HC := Lib.hid hC
  obtain ⟨t, ht0⟩ : ∃ t, t = R.t := ⟨_, rfl⟩
  obtain ⟨u, hu0⟩ : ∃ u, u = R.u := ⟨_, rfl⟩
  obtain ⟨x, hx0⟩ : ∃ x, x = R.x := ⟨_, rfl⟩
  obtain ⟨L, hL0⟩ : ∃ L, L = R.c := ⟨_, rfl⟩
  have HQ := Lib.hid (show RfOK N R ↔ ConsOK N L ∧ InB t 1 3 ∧ NodeOK N u ∧ NodeOK N x ∧ Rf N t L u.toNat x.toNat by rw [ht0, hu0, hx0, hL0]; exact Iff.rfl)
  have hc := (show ConsOK N L by rw [hL0]; exact kc)
  have ht1 := (show t ≠ 1 by rw [ht0]; exact k1)
  have ht := (show InB t 1 3 by rw [ht0]; exact kt)
  have hx := (show InB x 0 ((N.ends.length : Int) - 1) by rw [hx0]; exact kx)
  have hu := (show InB u 0 x by rw [hu0, hx0]; exact ku)
  have ke' := (show gi L u.toNat = gi L x.toNat by rw [hL0, hu0, hx0]; exact ke)
  have ht3 := (show t ≠ 3 by rw [ht0]; exact k3)
  have hs6 : L.length ≤ 1048576 := by rw [hL0]; exact hs
  rw [← ht0, ← hu0, ← hx0, ← hL0] at HR0
  rw [← hL0] at HC
  rw [← ht0, ← hu0, ← hx0, ← hL0]
  clear hs ht0 hu0 hx0 hL0 hC
  have HX := Lib.hid ((boxed_ext w (.slice ea N.ends.length ec) v1 v2 34).trans' (boxed4_ext (boxed w (.slice ea N.ends.length ec) v1 v2 34) (.int .i64 t) (.slice ca L.length cc) (.int .i64 u) (.int .i64 x) 52))
  have HR := Lib.hid (show (boxed4 (boxed w (.slice ea N.ends.length ec) v1 v2 34) (.int .i64 t) (.slice ca L.length cc) (.int .i64 u) (.int .i64 x) 52).rowIs w.heap.size 34 3 (tri (.slice ea N.ends.length ec) v1 v2) from (row3_made w (.slice ea N.ends.length ec) v1 v2 34).alloc _)
  have R4 := Lib.hid (show (boxed4 (boxed w (.slice ea N.ends.length ec) v1 v2 34) (.int .i64 t) (.slice ca L.length cc) (.int .i64 u) (.int .i64 x) 52).rowIs (w.heap.size + 1) 52 4 (quad (.int .i64 t) (.slice ca L.length cc) (.int .i64 u) (.int .i64 x)) by simpa using boxed4_row (boxed w (.slice ea N.ends.length ec) v1 v2 34) (.int .i64 t) (.slice ca L.length cc) (.int .i64 u) (.int .i64 x) 52)
  obtain ⟨p0, p1, p2, -, -, -⟩ := row3_facts HR.out
  obtain ⟨s0, s1, s2, s3⟩ := row4_cells R4.out
  have HG := Lib.hid hG
  have hn1 := hG.1.1
  have h40 := hG.1.2
  clear hG
  have CO := Lib.hid (dec_true hc)
  have HCO := Lib.hid hc
  have HLE := Lib.hid hc.1
  clear hc
  have HT1 := Lib.hid ht1
  have bt : (t == 1) = false := by simpa using ht1
  obtain ⟨_, cb, co, _, e, hca, hcl, hcm, hcc⟩ := HC.out
  simp only [Value.slice.injEq] at e
  obtain ⟨rfl, -, rfl⟩ := e
  unfold maxLen at hcm
  have HCC := Lib.hid hcc
  have hL0 : 0 < L.length := by have := HLE.out; omega
  obtain rfl := hca hL0
  clear hca hcc hcl ht1
  have T := Lib.hid (dec_true ht)
  have V1 := Lib.hid (dec_true hx)
  have V2 := Lib.hid (dec_true hu)
  obtain ⟨y, rfl⟩ := Int.eq_ofNat_of_zero_le hu.1
  obtain ⟨z, rfl⟩ := Int.eq_ofNat_of_zero_le hx.1
  have hyz : y ≤ z := by have := hu.2; omega
  have hze : z < N.ends.length := by have := hx.2; omega
  have hy : y < L.length := by have := HLE.out; omega
  have hz : z < L.length := by have := HLE.out; omega
  have HRF := Lib.hid (show RfOK N R ↔ Rf N t L y z from by
    rw [HQ.out, Int.toNat_natCast, Int.toNat_natCast]
    exact ⟨fun k => k.2.2.2.2, fun k => ⟨HCO.out, ht, ⟨by omega, by omega⟩, ⟨by omega, by omega⟩, k⟩⟩)
  obtain ⟨_, k1, rfl, -⟩ := HCC.out y hy
  obtain ⟨_, k2, rfl, -⟩ := HCC.out z hz
  obtain ⟨gy, hgy⟩ : ∃ d, d = gi L y := ⟨_, rfl⟩
  obtain ⟨gz, hgz⟩ : ∃ d, d = gi L z := ⟨_, rfl⟩
  have HGY := Lib.hid hgy
  have HGZ := Lib.hid hgz
  rw [← hgy] at k1
  rw [← hgz] at k2
  have e1 : gy = gz := by rw [hgy, hgz]; simpa using ke'
  clear hx hu hgy hgz ke'
  have b1 : (gy != gz) = false := by simpa using e1
  have EQ := Lib.hid (show gi L y = gi L z by rw [← HGY.out, ← HGZ.out]; exact e1)
  clear e1
  have b3 : (t == 3) = false := by simpa using ht3
  have ht2 : t = 2 := by rcases three_cases ht with h | h | h; exact absurd h HT1.out; exact h; exact absurd h ht3
  have D := Lib.hid (show dec (Has (nears (gr N.ends y)) (z : Int)) = dec (RfOK N R) from dec_congr (by
    rw [HRF.out, ht2, rf_iff2 hy hz]
    exact ⟨fun h => ⟨hyz, EQ.out, has_nears.1 h⟩, fun h => has_nears.2 h.2.2⟩))
  have hdeg := (HG.out.2.1 y (by omega)).1
  clear ht3 ht2
  go_enter Try.func83, Try.ntmps83
  go_wp2_with (go_at_call 75; (with_reducible refine (imConsistent_any (HN.out.ext HX.out) (HC.out.ext HX.out) HG.out).mono ?_); rintro e w1 ⟨rfl, hx⟩; rw [CO.out]; have K1 := Lib.hid (HX.out.trans' hx); have R1 := Lib.hid (row_ext HR.out hx); have Q1 := Lib.hid (row_ext R4.out hx); obtain ⟨q0, q1, q2, -, -, -⟩ := row3_facts R1.out; obtain ⟨r0, r1, r2, r3⟩ := row4_cells Q1.out; clear hx p0 p1 p2 s0 s1 s2 s3)
  have X0 : ∀ x' : Wx w1, x'.w.cell? ⟨w.heap.size, 0, none⟩ = some (.slice ea N.ends.length ec) := fun x' => x'.ok.cell' q0
  have X1 : ∀ x' : Wx w1, x'.w.cell? ⟨w.heap.size, 1, none⟩ = some v1 := fun x' => x'.ok.cell' q1
  have X2 : ∀ x' : Wx w1, x'.w.cell? ⟨w.heap.size, 2, none⟩ = some v2 := fun x' => x'.ok.cell' q2
  have Y0 : ∀ x' : Wx w1, x'.w.cell? ⟨w.heap.size + 1, 0, none⟩ = some _ := fun x' => x'.ok.cell' r0
  have Y1 : ∀ x' : Wx w1, x'.w.cell? ⟨w.heap.size + 1, 1, none⟩ = some _ := fun x' => x'.ok.cell' r1
  have Y2 : ∀ x' : Wx w1, x'.w.cell? ⟨w.heap.size + 1, 2, none⟩ = some _ := fun x' => x'.ok.cell' r2
  have Y3 : ∀ x' : Wx w1, x'.w.cell? ⟨w.heap.size + 1, 3, none⟩ = some _ := fun x' => x'.ok.cell' r3
  clear q0 q1 q2 r0 r1 r2 r3
  have Z1 : ∀ x' : Wx w1, x'.w.cell? ⟨cb, co + y, none⟩ = some (.int .i64 gy) := fun x' => x'.ok.cell' (K1.out.cell' k1)
  have Z2 : ∀ x' : Wx w1, x'.w.cell? ⟨cb, co + z, none⟩ = some (.int .i64 gz) := fun x' => x'.ok.cell' (K1.out.cell' k2)
  refine wp_region_ext (by kernel_rfl) (by kernel_rfl) ?_
  iterate 19 (go_big_quiet_step (first | (go_at_call 53; exact in_same_bool (imTask_any _ _) T.out) | (go_at_call 103; with_reducible exact in_same_bool (l1In_any _ 0 ((N.ends.length : Int) - 1) _) V1.out)))
  go_big_quiet_step ((go_at_call 103; with_reducible exact in_same_bool (l1In_any _ 0 _ _) V2.out))
  repeat (go_big_quiet_step (fail))
  refine wpQuiet_nil ?_
  rintro wq ⟨⟨_, hq⟩, rfl⟩
  have YQ := Lib.hid hq
  have KQ := Lib.hid (K1.out.trans' hq)
  clear hq X0 X1 X2 Y0 Y1 Y2 Y3
  (try clear Z1 Z2)
  obtain ⟨u0, u1, u2, u3⟩ := row4_cells (row_ext Q1.out YQ.out)
  obtain ⟨n0, n1, n2, -, -, -⟩ := row3_facts (row_ext R1.out YQ.out)
  have mkS : ∀ w' : World, Ext wq w' → w'.cell? ⟨w.heap.size, 0, none⟩ = some (.slice ea N.ends.length ec) ∧ w'.cell? ⟨w.heap.size, 1, none⟩ = some v1 ∧ w'.cell? ⟨w.heap.size, 2, none⟩ = some v2 ∧ w'.cell? ⟨w.heap.size + 1, 0, none⟩ = some (.int .i64 t) ∧ w'.cell? ⟨w.heap.size + 1, 1, none⟩ = some (.slice (some ⟨cb, co, none⟩) L.length cc) ∧ w'.cell? ⟨w.heap.size + 1, 2, none⟩ = some (.int .i64 y) ∧ w'.cell? ⟨w.heap.size + 1, 3, none⟩ = some (.int .i64 z) ∧ Hid (Ext wq w') := fun w' h => ⟨h.cell' n0, h.cell' n1, h.cell' n2, h.cell' u0, h.cell' u1, h.cell' u2, h.cell' u3, h⟩
  go_wp2_with fail
  clear u0 u1 u2 u3 n0 n1 n2
  go_region_held3 (fun w' => w'.cell? ⟨w.heap.size, 0, none⟩ = some (.slice ea N.ends.length ec) ∧ w'.cell? ⟨w.heap.size, 1, none⟩ = some v1 ∧ w'.cell? ⟨w.heap.size, 2, none⟩ = some v2 ∧ w'.cell? ⟨w.heap.size + 1, 0, none⟩ = some (.int .i64 t) ∧ w'.cell? ⟨w.heap.size + 1, 1, none⟩ = some (.slice (some ⟨cb, co, none⟩) L.length cc) ∧ w'.cell? ⟨w.heap.size + 1, 2, none⟩ = some (.int .i64 y) ∧ w'.cell? ⟨w.heap.size + 1, 3, none⟩ = some (.int .i64 z) ∧ Hid (Ext wq w')) (first | exact mkS _ (Ext.rfl' wq).drew' | exact mkS _ XA.out | exact mkS _ XB.out | fail)
    (first | (go_at_call 129; (with_reducible refine (neNear_any y (by omega) (HN.out.ext (KQ.out.trans' (‹_ ∧ _ ∧ _ ∧ _ ∧ _ ∧ _ ∧ _ ∧ Hid (Ext wq _)›).2.2.2.2.2.2.2.out)) (by omega)).mono ?_); rintro e wA ⟨vn, bs, rfl, hx, ho, -⟩; have XA := Lib.hid (Ext.trans' (‹_ ∧ _ ∧ _ ∧ _ ∧ _ ∧ _ ∧ _ ∧ Hid (Ext wq _)›).2.2.2.2.2.2.2.out hx); have OA := Lib.hid ho.read; clear hx ho) | (go_at_call 130; (with_reducible refine (l1Has_any _ OA.out).mono ?_); rintro e _ ⟨rfl, rfl⟩))
  all_goals go_wp2
  all_goals go_ret
  all_goals exact ⟨ret_bool D.out, KQ.out.trans' XA.out⟩

theorem imRight_any {w : World} {v vr : Value} {N : Net} {R : Rfs} (h : NetAt w v N) (h' : RfAt w vr R) (hs : R.small) (hG : Good N) :
    Calls Try.prog 83 #[v, vr] w fun e w' => e = .returned (.bool (dec (RfOK N R))) ∧ Ext w w' := by
  by_cases kc : ConsOK N R.c
  · by_cases k1 : R.t = 1
    · exact imRight_1 h h' hs hG kc k1
    · by_cases kt : InB R.t 1 3
      · by_cases kx : InB R.x 0 ((N.ends.length : Int) - 1)
        · by_cases ku : InB R.u 0 R.x
          · by_cases ke : gi R.c R.u.toNat = gi R.c R.x.toNat
            · by_cases k3 : R.t = 3
              · exact imRight_3 h h' hs hG kc k1 kt kx ku ke k3
              · exact imRight_2 h h' hs hG kc k1 kt kx ku ke k3
            · exact imRight_d h h' hs hG kc k1 kt kx ku ke
          · exact imRight_c h h' hs hG kc k1 kt kx ku
        · exact imRight_b h h' hs hG kc k1 kt kx
      · exact imRight_a h h' hs hG kc k1 kt
  · exact imRight_0 h h' hs hG kc

set_option maxHeartbeats 1600000 in
set_option maxRecDepth 100000 in
theorem specCheckRefusal_any {w : World} {v vr : Value} {N : Net} {R : Rfs} (h : NetAt w v N) (h' : RfAt w vr R) (hs : R.small) :
    Calls Try.prog 41 #[v, vr] w fun e w' => e = .returned (.tuple #[.bool (dec (CrA N R)), .bool (dec (Good N))]) ∧ Ext w w' := by
  have HN := Lib.hid h
  have HR := Lib.hid h'
  have HS := Lib.hid hs
  obtain ⟨v0, v1, v2, rfl, -, -, -⟩ := h
  obtain ⟨ca, cc, rfl, -⟩ := h'
  have HX := Lib.hid ((boxed_ext w v0 v1 v2 34).trans' (boxed4_ext (boxed w v0 v1 v2 34) (.int .i64 R.t) (.slice ca R.c.length cc) (.int .i64 R.u) (.int .i64 R.x) 52))
  have HR3 := Lib.hid (show (boxed4 (boxed w v0 v1 v2 34) (.int .i64 R.t) (.slice ca R.c.length cc) (.int .i64 R.u) (.int .i64 R.x) 52).rowIs w.heap.size 34 3 (tri v0 v1 v2) from (row3_made w v0 v1 v2 34).alloc _)
  have R4 := Lib.hid (show (boxed4 (boxed w v0 v1 v2 34) (.int .i64 R.t) (.slice ca R.c.length cc) (.int .i64 R.u) (.int .i64 R.x) 52).rowIs (w.heap.size + 1) 52 4 (quad (.int .i64 R.t) (.slice ca R.c.length cc) (.int .i64 R.u) (.int .i64 R.x)) by simpa using boxed4_row (boxed w v0 v1 v2 34) (.int .i64 R.t) (.slice ca R.c.length cc) (.int .i64 R.u) (.int .i64 R.x) 52)
  obtain ⟨p0, p1, p2, -, -, -⟩ := row3_facts HR3.out
  obtain ⟨s0, s1, s2, s3⟩ := row4_cells R4.out
  by_cases hg : Good N
  case neg =>
    have G := Lib.hid (dec_false hg)
    have D := Lib.hid (dec_false (p := CrA N R) fun k => hg k.1)
    clear hg
    go_enter Try.func41, Try.ntmps41
    go_wp2_with (go_at_call 62; (with_reducible refine (neGood_any (HN.out.ext HX.out)).mono ?_); rintro e w1 ⟨rfl, hx⟩; rw [G.out]; have K1 := Lib.hid (HX.out.trans' hx); clear hx)
    go_ret2
    exact ⟨ret_bbT D.out.symm G.out.symm, K1.out⟩
  have G := Lib.hid (dec_true hg)
  have D := Lib.hid (cr_t (R := R) hg)
  have HG := Lib.hid hg
  clear hg
  go_enter Try.func41, Try.ntmps41
  go_wp2_with fail
  (with_reducible refine (neGood_any (HN.out.ext HX.out)).mono ?_)
  rintro e w1 ⟨rfl, hx⟩
  rw [G.out]
  have K1 := Lib.hid (HX.out.trans' hx)
  obtain ⟨q0, q1, q2, -, -, -⟩ := row3_facts (row_ext HR3.out hx)
  obtain ⟨r0, r1, r2, r3⟩ := row4_cells (row_ext R4.out hx)
  clear hx p0 p1 p2 s0 s1 s2 s3
  go_wp2_with (go_at_call 83; (with_reducible refine (imRight_any (HN.out.ext K1.out) (HR.out.ext K1.out) HS.out HG.out).mono ?_); rintro e w2 ⟨rfl, hx⟩; have K2 := Lib.hid (K1.out.trans' hx); clear hx)
  go_ret2
  exact ⟨ret_bbT D.out G.out.symm, K2.out⟩

end Go.Proofs.Ytkpdbceglejbnaa
