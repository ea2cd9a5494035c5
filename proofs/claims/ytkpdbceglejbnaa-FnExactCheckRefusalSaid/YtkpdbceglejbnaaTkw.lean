/- The contracts of both sides' CheckRefusal. -/
import Derived.Test.YtkpdbceglejbnaaTkv
import Derived.Test.YtkpdbceglejbnaaTku
namespace Go.Proofs.Ytkpdbceglejbnaa
open Go.RowKit

/-- A refusal is right. -/
def RfOK (N : Net) (R : Rfs) : Prop := ConsOK N R.c ∧ InB R.t 1 3 ∧ NodeOK N R.u ∧ NodeOK N R.x ∧ Rf N R.t R.c R.u.toNat R.x.toNat
def CrA (N : Net) (R : Rfs) : Prop := Good N ∧ RfOK N R
theorem cr_t {N : Net} {R : Rfs} (h : Good N) : dec (RfOK N R) = dec (CrA N R) := dec_congr ⟨fun k => ⟨h, k⟩, fun k => k.2⟩

set_option maxHeartbeats 3200000 in
set_option maxRecDepth 100000 in
theorem checkRefusal_any {w : World} {v vr : Value} {N : Net} {R : Rfs} (h : NetAt w v N) (h' : RfAt w vr R) (hs : R.small) :
    Calls Try.prog 43 #[v, vr] w fun e w' => e = .returned (.tuple #[.bool (dec (CrA N R)), .bool (dec (Good N))]) ∧ Ext w w' := by
  have HR0 := Lib.hid h'
  have HN := Lib.hid h
  obtain ⟨v0, v1, v2, rfl, -, -, -⟩ := h
  obtain ⟨ca, cc, rfl, hC⟩ := h'
  have HC := Lib.hid hC
  obtain ⟨t, ht0⟩ : ∃ t, t = R.t := ⟨_, rfl⟩
  obtain ⟨u, hu0⟩ : ∃ u, u = R.u := ⟨_, rfl⟩
  obtain ⟨x, hx0⟩ : ∃ x, x = R.x := ⟨_, rfl⟩
  obtain ⟨L, hL0⟩ : ∃ L, L = R.c := ⟨_, rfl⟩
  have HQ := Lib.hid (show RfOK N R ↔ ConsOK N L ∧ InB t 1 3 ∧ NodeOK N u ∧ NodeOK N x ∧ Rf N t L u.toNat x.toNat by rw [ht0, hu0, hx0, hL0]; exact Iff.rfl)
  have HA := Lib.hid (show CrA N R ↔ Good N ∧ RfOK N R from Iff.rfl)
  have hs6 : L.length ≤ 1048576 := by rw [hL0]; exact hs
  rw [← ht0, ← hu0, ← hx0, ← hL0] at HR0
  rw [← hL0] at HC
  rw [← ht0, ← hu0, ← hx0, ← hL0]
  clear hs ht0 hu0 hx0 hL0 hC
  have HX := Lib.hid ((boxed_ext w v0 v1 v2 34).trans' (boxed4_ext (boxed w v0 v1 v2 34) (.int .i64 t) (.slice ca L.length cc) (.int .i64 u) (.int .i64 x) 52))
  have HR := Lib.hid (show (boxed4 (boxed w v0 v1 v2 34) (.int .i64 t) (.slice ca L.length cc) (.int .i64 u) (.int .i64 x) 52).rowIs w.heap.size 34 3 (tri v0 v1 v2) from (row3_made w v0 v1 v2 34).alloc _)
  have R4 := Lib.hid (show (boxed4 (boxed w v0 v1 v2 34) (.int .i64 t) (.slice ca L.length cc) (.int .i64 u) (.int .i64 x) 52).rowIs (w.heap.size + 1) 52 4 (quad (.int .i64 t) (.slice ca L.length cc) (.int .i64 u) (.int .i64 x)) by simpa using boxed4_row (boxed w v0 v1 v2 34) (.int .i64 t) (.slice ca L.length cc) (.int .i64 u) (.int .i64 x) 52)
  obtain ⟨p0, p1, p2, -, -, -⟩ := row3_facts HR.out
  obtain ⟨s0, s1, s2, s3⟩ := row4_cells R4.out
  obtain ⟨g, hg0⟩ : ∃ g, g = dec (Good N) := ⟨_, rfl⟩
  have G := Lib.hid hg0.symm
  by_cases ht : InB t 1 3
  case neg =>
    have D := Lib.hid (dec_false (p := CrA N R) fun k => ht (HQ.out.1 (HA.out.1 k).2).2.1)
    obtain ⟨b, hb⟩ : ∃ b, b = dec (IcA N L) := ⟨_, rfl⟩
    have IA := Lib.hid hb.symm
    clear hb hg0
    go_enter Try.func43, Try.ntmps43
    go_wp2_with (first | (go_at_call 54; (with_reducible refine (taskKind_f ht _).mono ?_); rintro e _ ⟨rfl, rfl⟩) | (go_at_call 34; (with_reducible refine (isConsistent_any (HN.out.ext HX.out) (HC.out.ext HX.out) hs6).mono ?_); rintro e w1 ⟨rfl, hx⟩; rw [IA.out, G.out]; have K1 := Lib.hid (HX.out.trans' hx); have R1 := Lib.hid (row_ext HR.out hx); have Q1 := Lib.hid (row_ext R4.out hx); obtain ⟨q0, q1, q2, -, -, -⟩ := row3_facts R1.out; obtain ⟨r0, r1, r2, r3⟩ := row4_cells Q1.out; clear hx p0 p1 p2 s0 s1 s2 s3))
    go_ret2
    exact ⟨ret_bbT D.out.symm G.out.symm, K1.out⟩
  by_cases hi : IcA N L
  case neg =>
    have IA := Lib.hid (dec_false hi)
    have D := Lib.hid (dec_false (p := CrA N R) fun k => hi ⟨(HA.out.1 k).1, (HQ.out.1 (HA.out.1 k).2).1⟩)
    clear hi hg0
    go_enter Try.func43, Try.ntmps43
    go_wp2_with (first | (go_at_call 54; (with_reducible refine (taskKind_t ht _).mono ?_); rintro e _ ⟨rfl, rfl⟩) | (go_at_call 34; (with_reducible refine (isConsistent_any (HN.out.ext HX.out) (HC.out.ext HX.out) hs6).mono ?_); rintro e w1 ⟨rfl, hx⟩; rw [IA.out, G.out]; have K1 := Lib.hid (HX.out.trans' hx); have R1 := Lib.hid (row_ext HR.out hx); have Q1 := Lib.hid (row_ext R4.out hx); obtain ⟨q0, q1, q2, -, -, -⟩ := row3_facts R1.out; obtain ⟨r0, r1, r2, r3⟩ := row4_cells Q1.out; clear hx p0 p1 p2 s0 s1 s2 s3))
    go_ret2
    exact ⟨ret_bbT D.out.symm G.out.symm, K1.out⟩
  have IA := Lib.hid (dec_true hi)
  have HG := Lib.hid hi.1
  have HCO := Lib.hid hi.2
  obtain rfl : g = true := by rw [hg0]; exact dec_true hi.1
  have D := Lib.hid (cr_t (R := R) hi.1)
  clear hi hg0
  by_cases hu : NodeOK N u
  case neg =>
    have NU := Lib.hid (dec_false hu)
    have D2 := Lib.hid (dec_false (p := RfOK N R) fun k => hu (HQ.out.1 k).2.2.1)
    clear hu
    go_enter Try.func43, Try.ntmps43
    go_wp2_with (first | (go_at_call 54; (with_reducible refine (taskKind_t ht _).mono ?_); rintro e _ ⟨rfl, rfl⟩) | (go_at_call 34; (with_reducible refine (isConsistent_any (HN.out.ext HX.out) (HC.out.ext HX.out) hs6).mono ?_); rintro e w1 ⟨rfl, hx⟩; rw [IA.out, G.out]; have K1 := Lib.hid (HX.out.trans' hx); have R1 := Lib.hid (row_ext HR.out hx); have Q1 := Lib.hid (row_ext R4.out hx); obtain ⟨q0, q1, q2, -, -, -⟩ := row3_facts R1.out; obtain ⟨r0, r1, r2, r3⟩ := row4_cells Q1.out; clear hx p0 p1 p2 s0 s1 s2 s3) | (go_at_call_of 84 (Value.int .i64 u); (with_reducible refine (hasNode_any u (HN.out.ext K1.out)).mono ?_); rintro e w2 ⟨rfl, hx⟩; rw [NU.out]; have K2 := Lib.hid (K1.out.trans' hx); have R2 := Lib.hid (row_ext R1.out hx); have Q2 := Lib.hid (row_ext Q1.out hx); obtain ⟨p0, p1, p2, -, -, -⟩ := row3_facts R2.out; obtain ⟨s0, s1, s2, s3⟩ := row4_cells Q2.out; clear hx q0 q1 q2 r0 r1 r2 r3))
    go_ret2
    exact ⟨ret_bbT (D2.out.symm.trans D.out) G.out.symm, K2.out⟩
  have NU := Lib.hid (dec_true hu)
  by_cases hv : NodeOK N x
  case neg =>
    have NV := Lib.hid (dec_false hv)
    have D2 := Lib.hid (dec_false (p := RfOK N R) fun k => hv (HQ.out.1 k).2.2.2.1)
    clear hu hv
    go_enter Try.func43, Try.ntmps43
    go_wp2_with (first | (go_at_call 54; (with_reducible refine (taskKind_t ht _).mono ?_); rintro e _ ⟨rfl, rfl⟩) | (go_at_call 34; (with_reducible refine (isConsistent_any (HN.out.ext HX.out) (HC.out.ext HX.out) hs6).mono ?_); rintro e w1 ⟨rfl, hx⟩; rw [IA.out, G.out]; have K1 := Lib.hid (HX.out.trans' hx); have R1 := Lib.hid (row_ext HR.out hx); have Q1 := Lib.hid (row_ext R4.out hx); obtain ⟨q0, q1, q2, -, -, -⟩ := row3_facts R1.out; obtain ⟨r0, r1, r2, r3⟩ := row4_cells Q1.out; clear hx p0 p1 p2 s0 s1 s2 s3))
    (with_reducible refine (hasNode_any u (HN.out.ext K1.out)).mono ?_)
    rintro e w2 ⟨rfl, hx⟩
    rw [NU.out]
    have K2 := Lib.hid (K1.out.trans' hx)
    have R2 := Lib.hid (row_ext R1.out hx)
    have Q2 := Lib.hid (row_ext Q1.out hx)
    obtain ⟨p0, p1, p2, -, -, -⟩ := row3_facts R2.out
    obtain ⟨s0, s1, s2, s3⟩ := row4_cells Q2.out
    clear hx q0 q1 q2 r0 r1 r2 r3
    go_wp2_with fail
    (with_reducible refine (hasNode_any x (HN.out.ext K2.out)).mono ?_)
    rintro e w3 ⟨rfl, hx⟩
    rw [NV.out]
    have K3 := Lib.hid (K2.out.trans' hx)
    have R3 := Lib.hid (row_ext R2.out hx)
    have Q3 := Lib.hid (row_ext Q2.out hx)
    obtain ⟨q0, q1, q2, -, -, -⟩ := row3_facts R3.out
    obtain ⟨r0, r1, r2, r3⟩ := row4_cells Q3.out
    clear hx p0 p1 p2 s0 s1 s2 s3
    go_wp2
    go_ret2
    exact ⟨ret_bbT (D2.out.symm.trans D.out) G.out.symm, K3.out⟩
  have NV := Lib.hid (dec_true hv)
  obtain ⟨y, rfl⟩ := Int.eq_ofNat_of_zero_le hu.1
  obtain ⟨z, rfl⟩ := Int.eq_ofNat_of_zero_le hv.1
  have HLE := Lib.hid HCO.out.1
  have hy : y < L.length := by have := hu.2; have := HLE.out; omega
  have hz : z < L.length := by have := hv.2; have := HLE.out; omega
  have HRF := Lib.hid (show dec (Rf N t L y z) = dec (RfOK N R) from dec_congr ⟨fun k => HQ.out.2 ⟨HCO.out, ht, hu, hv, by rw [Int.toNat_natCast, Int.toNat_natCast]; exact k⟩, fun k => by have := (HQ.out.1 k).2.2.2.2; rw [Int.toNat_natCast, Int.toNat_natCast] at this; exact this⟩)
  clear hu hv
  rcases three_cases ht with rfl | rfl | rfl
  · go_enter Try.func43, Try.ntmps43
    go_wp2_with (first | (go_at_call 54; (with_reducible refine (taskKind_1 _).mono ?_); rintro e _ ⟨rfl, rfl⟩) | (go_at_call 34; (with_reducible refine (isConsistent_any (HN.out.ext HX.out) (HC.out.ext HX.out) hs6).mono ?_); rintro e w1 ⟨rfl, hx⟩; rw [IA.out, G.out]; have K1 := Lib.hid (HX.out.trans' hx); have R1 := Lib.hid (row_ext HR.out hx); have Q1 := Lib.hid (row_ext R4.out hx); obtain ⟨q0, q1, q2, -, -, -⟩ := row3_facts R1.out; obtain ⟨r0, r1, r2, r3⟩ := row4_cells Q1.out; clear hx p0 p1 p2 s0 s1 s2 s3))
    (with_reducible refine (hasNode_any (y : Int) (HN.out.ext K1.out)).mono ?_)
    rintro e w2 ⟨rfl, hx⟩
    rw [NU.out]
    have K2 := Lib.hid (K1.out.trans' hx)
    have R2 := Lib.hid (row_ext R1.out hx)
    have Q2 := Lib.hid (row_ext Q1.out hx)
    obtain ⟨p0, p1, p2, -, -, -⟩ := row3_facts R2.out
    obtain ⟨s0, s1, s2, s3⟩ := row4_cells Q2.out
    clear hx q0 q1 q2 r0 r1 r2 r3
    go_wp2_with fail
    (with_reducible refine (hasNode_any (z : Int) (HN.out.ext K2.out)).mono ?_)
    rintro e w3 ⟨rfl, hx⟩
    rw [NV.out]
    have K3 := Lib.hid (K2.out.trans' hx)
    have R3 := Lib.hid (row_ext R2.out hx)
    have Q3 := Lib.hid (row_ext Q2.out hx)
    obtain ⟨q0, q1, q2, -, -, -⟩ := row3_facts R3.out
    obtain ⟨r0, r1, r2, r3⟩ := row4_cells Q3.out
    clear hx p0 p1 p2 s0 s1 s2 s3
    go_wp2_with (go_at_call 230; (with_reducible refine (refused_1 (HN.out.ext K3.out) (HC.out.ext K3.out) hs6 y z hy hz).mono ?_); rintro e w4 ⟨rfl, hx⟩; rw [HRF.out]; have K4 := Lib.hid (K3.out.trans' hx); clear hx)
    go_ret2
    exact ⟨ret_bbT D.out G.out.symm, K4.out⟩
  · go_enter Try.func43, Try.ntmps43
    go_wp2_with (first | (go_at_call 54; (with_reducible refine (taskKind_2 _).mono ?_); rintro e _ ⟨rfl, rfl⟩) | (go_at_call 34; (with_reducible refine (isConsistent_any (HN.out.ext HX.out) (HC.out.ext HX.out) hs6).mono ?_); rintro e w1 ⟨rfl, hx⟩; rw [IA.out, G.out]; have K1 := Lib.hid (HX.out.trans' hx); have R1 := Lib.hid (row_ext HR.out hx); have Q1 := Lib.hid (row_ext R4.out hx); obtain ⟨q0, q1, q2, -, -, -⟩ := row3_facts R1.out; obtain ⟨r0, r1, r2, r3⟩ := row4_cells Q1.out; clear hx p0 p1 p2 s0 s1 s2 s3))
    (with_reducible refine (hasNode_any (y : Int) (HN.out.ext K1.out)).mono ?_)
    rintro e w2 ⟨rfl, hx⟩
    rw [NU.out]
    have K2 := Lib.hid (K1.out.trans' hx)
    have R2 := Lib.hid (row_ext R1.out hx)
    have Q2 := Lib.hid (row_ext Q1.out hx)
    obtain ⟨p0, p1, p2, -, -, -⟩ := row3_facts R2.out
    obtain ⟨s0, s1, s2, s3⟩ := row4_cells Q2.out
    clear hx q0 q1 q2 r0 r1 r2 r3
    go_wp2_with fail
    (with_reducible refine (hasNode_any (z : Int) (HN.out.ext K2.out)).mono ?_)
    rintro e w3 ⟨rfl, hx⟩
    rw [NV.out]
    have K3 := Lib.hid (K2.out.trans' hx)
    have R3 := Lib.hid (row_ext R2.out hx)
    have Q3 := Lib.hid (row_ext Q2.out hx)
    obtain ⟨q0, q1, q2, -, -, -⟩ := row3_facts R3.out
    obtain ⟨r0, r1, r2, r3⟩ := row4_cells Q3.out
    clear hx p0 p1 p2 s0 s1 s2 s3
    go_wp2_with (go_at_call 233; (with_reducible refine (refused_2 (HN.out.ext K3.out) (HC.out.ext K3.out) hs6 HLE.out HG.out y z hy hz).mono ?_); rintro e w4 ⟨rfl, hx⟩; rw [HRF.out]; have K4 := Lib.hid (K3.out.trans' hx); clear hx)
    go_ret2
    exact ⟨ret_bbT D.out G.out.symm, K4.out⟩
  · go_enter Try.func43, Try.ntmps43
    go_wp2_with (first | (go_at_call 54; (with_reducible refine (taskKind_3 _).mono ?_); rintro e _ ⟨rfl, rfl⟩) | (go_at_call 34; (with_reducible refine (isConsistent_any (HN.out.ext HX.out) (HC.out.ext HX.out) hs6).mono ?_); rintro e w1 ⟨rfl, hx⟩; rw [IA.out, G.out]; have K1 := Lib.hid (HX.out.trans' hx); have R1 := Lib.hid (row_ext HR.out hx); have Q1 := Lib.hid (row_ext R4.out hx); obtain ⟨q0, q1, q2, -, -, -⟩ := row3_facts R1.out; obtain ⟨r0, r1, r2, r3⟩ := row4_cells Q1.out; clear hx p0 p1 p2 s0 s1 s2 s3))
    (with_reducible refine (hasNode_any (y : Int) (HN.out.ext K1.out)).mono ?_)
    rintro e w2 ⟨rfl, hx⟩
    rw [NU.out]
    have K2 := Lib.hid (K1.out.trans' hx)
    have R2 := Lib.hid (row_ext R1.out hx)
    have Q2 := Lib.hid (row_ext Q1.out hx)
    obtain ⟨p0, p1, p2, -, -, -⟩ := row3_facts R2.out
    obtain ⟨s0, s1, s2, s3⟩ := row4_cells Q2.out
    clear hx q0 q1 q2 r0 r1 r2 r3
    go_wp2_with fail
    (with_reducible refine (hasNode_any (z : Int) (HN.out.ext K2.out)).mono ?_)
    rintro e w3 ⟨rfl, hx⟩
    rw [NV.out]
    have K3 := Lib.hid (K2.out.trans' hx)
    have R3 := Lib.hid (row_ext R2.out hx)
    have Q3 := Lib.hid (row_ext Q2.out hx)
    obtain ⟨q0, q1, q2, -, -, -⟩ := row3_facts R3.out
    obtain ⟨r0, r1, r2, r3⟩ := row4_cells Q3.out
    clear hx p0 p1 p2 s0 s1 s2 s3
    go_wp2_with (go_at_call 238; (with_reducible refine (refused_3 (HN.out.ext K3.out) (HC.out.ext K3.out) hs6 HLE.out y z hy hz).mono ?_); rintro e w4 ⟨rfl, hx⟩; rw [HRF.out]; have K4 := Lib.hid (K3.out.trans' hx); clear hx)
    go_ret2
    exact ⟨ret_bbT D.out G.out.symm, K4.out⟩
end Go.Proofs.Ytkpdbceglejbnaa
