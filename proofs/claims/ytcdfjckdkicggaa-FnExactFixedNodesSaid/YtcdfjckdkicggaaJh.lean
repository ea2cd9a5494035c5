/- The contracts of both sides' SameRoots. -/
import Derived.Test.YtcdfjckdkicggaaJg
namespace Go.Proofs.Ytcdfjckdkicggaa
open Go.RowKit

def RootB (A : Net) (x : Int) (B : Net) (y : Int) : Prop := NodeAns A x ∧ NodeAns B y
def RootEq (A : Net) (x : Int) (B : Net) (y : Int) : Prop := RootB A x B y ∧ code A x = code B y
theorem ret_bb {x y b c : Bool} (h0 : x = y) (h : b = c) : Ending.returned (.tuple #[.bool x, .bool b]) = .returned (.tuple #[.bool y, .bool c]) := by rw [h0, h]
theorem root_eq {A B : Net} {x y : Int} (h : RootB A x B y) : decide (code A x = code B y) = dec (RootEq A x B y) := by
  rw [Bool.eq_iff_iff, dec_iff, decide_eq_true_iff]; exact ⟨fun e => ⟨h, e⟩, fun e => e.2⟩

set_option maxHeartbeats 1600000 in
set_option maxRecDepth 100000 in
theorem sameRoots_any {w : World} {va vb : Value} {A B : Net} (x y : Int) (h : NetAt w va A) (k : NetAt w vb B) :
    Calls Try.prog 21 #[va, .int .i64 x, vb, .int .i64 y] w fun e w' => e = .returned (.tuple #[.bool (dec (RootEq A x B y)), .bool (dec (RootB A x B y))]) ∧ Ext w w' := by
  have HA := Lib.hid h
  have HB := Lib.hid k
  obtain ⟨v0, v1, v2, rfl, -, -, -⟩ := h
  obtain ⟨u0, u1, u2, rfl, -, -, -⟩ := k
  obtain ⟨W1, hW1⟩ : ∃ W1, W1 = (w.alloc (.cells #[v0, v1, v2] 31)).alloc (.cells #[u0, u1, u2] 31) := ⟨_, rfl⟩
  have EW := Lib.hid (show Ext w W1 by rw [hW1]; exact (boxed_ext _ _ _ _ _).trans' (boxed_ext _ _ _ _ _))
  have RA := Lib.hid (show W1.rowIs w.heap.size 31 3 (tri v0 v1 v2) by rw [hW1]; exact (boxed_row _ _ _ _ _).alloc _)
  have RB := Lib.hid (show W1.rowIs (w.heap.size + 1) 31 3 (tri u0 u1 u2) by rw [hW1]; simpa using boxed_row (boxed w v0 v1 v2 31) u0 u1 u2 31)
  obtain ⟨p0, p1, p2, -, -, -⟩ := row3_facts RA.out
  rw [hW1] at p0 p1 p2
  go_enter Try.func21, Try.ntmps21
  go_wp2_with fail
  rw [← hW1]
  clear hW1 p0 p1 p2
  (with_reducible refine (codeFrom_any x (HA.out.ext EW.out)).mono ?_)
  rintro e w1 ⟨c1, l1, b1, d1, rfl, hx1, ho1, -, -⟩
  have K1 := Lib.hid hx1
  have O1 := Lib.hid ho1
  obtain ⟨q0, q1, q2, -, -, -⟩ := row3_facts (row_ext RB.out hx1)
  clear hx1 ho1
  go_wp2_with fail
  (with_reducible refine (codeFrom_any y (HB.out.ext (EW.out.trans' K1.out))).mono ?_)
  rintro e w2 ⟨c2, l2, b2, d2, rfl, hx2, ho2, -, -⟩
  have K2 := Lib.hid ((EW.out.trans' K1.out).trans' hx2)
  have O2 := Lib.hid ho2
  have O1' := Lib.hid (O1.out.ext hx2)
  clear hx2 ho2 q0 q1 q2
  by_cases ha : NodeAns A x
  · by_cases hb : NodeAns B y
    · have DA := dec_true ha
      have DB := dec_true hb
      have D := Lib.hid (dec_true (p := RootB A x B y) ⟨ha, hb⟩)
      have E := Lib.hid (root_eq (A := A) (B := B) (x := x) (y := y) ⟨ha, hb⟩)
      have R1 := Lib.hid (show IntSl w2 c1 (code A x) by rw [← cdAns_t ha]; exact O1'.out.read)
      have R2 := Lib.hid (show IntSl w2 c2 (code B y) by rw [← cdAns_t hb]; exact O2.out.read)
      rw [DA, DB]
      clear ha hb DA DB
      go_wp2_with (first | (go_at_call 48; (with_reducible refine (sEqual_any R1.out R2.out).mono ?_); rintro e w3 ⟨rfl, hx3⟩; rw [E.out]; have K3 := Lib.hid (K2.out.trans' hx3); clear hx3) | fail)
      go_ret2
      exact ⟨ret_bb rfl D.out.symm, K3.out⟩
    · have DA := dec_true ha
      have DB := dec_false hb
      have D := Lib.hid (dec_false (p := RootB A x B y) fun h => hb h.2)
      have E := Lib.hid (dec_false (p := RootEq A x B y) fun h => hb h.1.2)
      rw [DA, DB]
      clear ha hb DA DB
      go_wp2
      go_ret2
      exact ⟨ret_bb E.out.symm D.out.symm, K2.out⟩
  · have DA := dec_false ha
    have D := Lib.hid (dec_false (p := RootB A x B y) fun h => ha h.1)
    have E := Lib.hid (dec_false (p := RootEq A x B y) fun h => ha h.1.1)
    rw [DA]
    clear ha DA
    go_wp2
    go_ret2
    exact ⟨ret_bb E.out.symm D.out.symm, K2.out⟩

set_option maxHeartbeats 1600000 in
set_option maxRecDepth 100000 in
theorem specSameRoots_any {w : World} {va vb : Value} {A B : Net} (x y : Int) (h : NetAt w va A) (k : NetAt w vb B) :
    Calls Try.prog 20 #[va, .int .i64 x, vb, .int .i64 y] w fun e w' => e = .returned (.tuple #[.bool (dec (RootEq A x B y)), .bool (dec (RootB A x B y))]) ∧ Ext w w' := by
  have HA := Lib.hid h
  have HB := Lib.hid k
  obtain ⟨v0, v1, v2, rfl, -, -, -⟩ := h
  obtain ⟨u0, u1, u2, rfl, -, -, -⟩ := k
  obtain ⟨W1, hW1⟩ : ∃ W1, W1 = (w.alloc (.cells #[v0, v1, v2] 31)).alloc (.cells #[u0, u1, u2] 31) := ⟨_, rfl⟩
  have EW := Lib.hid (show Ext w W1 by rw [hW1]; exact (boxed_ext _ _ _ _ _).trans' (boxed_ext _ _ _ _ _))
  have RA := Lib.hid (show W1.rowIs w.heap.size 31 3 (tri v0 v1 v2) by rw [hW1]; exact (boxed_row _ _ _ _ _).alloc _)
  have RB := Lib.hid (show W1.rowIs (w.heap.size + 1) 31 3 (tri u0 u1 u2) by rw [hW1]; simpa using boxed_row (boxed w v0 v1 v2 31) u0 u1 u2 31)
  obtain ⟨p0, p1, p2, -, -, -⟩ := row3_facts RA.out
  rw [hW1] at p0 p1 p2
  by_cases ha : NodeAns A x
  · by_cases hb : NodeAns B y
    · have DA := Lib.hid (dec_true ha)
      have DB := Lib.hid (dec_true hb)
      have D := Lib.hid (dec_true (p := RootB A x B y) ⟨ha, hb⟩)
      have E := Lib.hid (root_eq (A := A) (B := B) (x := x) (y := y) ⟨ha, hb⟩)
      have GA := Lib.hid (good_w ha.1)
      have GB := Lib.hid (good_w hb.1)
      obtain ⟨i, rfl, hi⟩ := node_nat ha
      obtain ⟨j, rfl, hj⟩ := node_nat hb
      clear ha hb
      go_enter Try.func20, Try.ntmps20
      go_wp2_with fail
      rw [← hW1]
      clear hW1 p0 p1 p2
      (with_reducible refine (neNode_any _ (HA.out.ext EW.out)).mono ?_)
      rintro e w1 ⟨rfl, hx1⟩
      rw [DA.out]
      have K1 := Lib.hid hx1
      obtain ⟨q0, q1, q2, -, -, -⟩ := row3_facts (row_ext RB.out hx1)
      clear hx1
      go_wp2_with fail
      (with_reducible refine (neNode_any _ (HB.out.ext (EW.out.trans' K1.out))).mono ?_)
      rintro e w2 ⟨rfl, hx2⟩
      rw [DB.out]
      have K2 := Lib.hid (K1.out.trans' hx2)
      obtain ⟨q0, q1, q2, -, -, -⟩ := row3_facts (row_ext RB.out K2.out)
      obtain ⟨p0, p1, p2, -, -, -⟩ := row3_facts (row_ext RA.out K2.out)
      clear hx2
      go_wp2_with fail
      have mkS : ∀ w' : World, Ext w2 w' → w'.cell? ⟨w.heap.size, 0, none⟩ = some v0 ∧ w'.cell? ⟨w.heap.size, 1, none⟩ = some v1 ∧ w'.cell? ⟨w.heap.size, 2, none⟩ = some v2 ∧ w'.cell? ⟨w.heap.size + 1, 0, none⟩ = some u0 ∧ w'.cell? ⟨w.heap.size + 1, 1, none⟩ = some u1 ∧ w'.cell? ⟨w.heap.size + 1, 2, none⟩ = some u2 ∧ Hid (Ext w2 w') := fun w' h => ⟨h.cell' p0, h.cell' p1, h.cell' p2, h.cell' q0, h.cell' q1, h.cell' q2, h⟩
      go_cut [8, 9] from 20 to 27 (fun t8 t9 wx => t8 = .bool (dec (RootEq A i B j)) ∧ t9 = .bool true ∧ Hid (Ext w2 wx))
      case first =>
        go_region_held3 (fun w' => w'.cell? ⟨w.heap.size, 0, none⟩ = some v0 ∧ w'.cell? ⟨w.heap.size, 1, none⟩ = some v1 ∧ w'.cell? ⟨w.heap.size, 2, none⟩ = some v2 ∧ w'.cell? ⟨w.heap.size + 1, 0, none⟩ = some u0 ∧ w'.cell? ⟨w.heap.size + 1, 1, none⟩ = some u1 ∧ w'.cell? ⟨w.heap.size + 1, 2, none⟩ = some u2 ∧ Hid (Ext w2 w'))
          (first | exact mkS _ (Ext.rfl' w2).drew' | exact mkS _ XS.out | exact mkS _ XB.out | exact mkS _ XA.out | fail)
          (first | (go_at_call_of 47 (Value.agg #[v0, v1, v2]); (with_reducible refine (isFrom_any i hi (HA.out.ext ((EW.out.trans' K2.out).trans' (‹_ ∧ _ ∧ _ ∧ _ ∧ _ ∧ _ ∧ Hid (Ext w2 _)›).2.2.2.2.2.2.out)) GA.out).mono ?_); rintro e wa ⟨va, ba, rfl, hxa, hoa, -⟩; have XA := Lib.hid (Ext.trans' (‹_ ∧ _ ∧ _ ∧ _ ∧ _ ∧ _ ∧ Hid (Ext w2 _)›).2.2.2.2.2.2.out hxa); have OA := Lib.hid hoa; (try (have OB' := Lib.hid (OB.out.ext hxa))); clear hoa) | (go_at_call_of 47 (Value.agg #[u0, u1, u2]); (with_reducible refine (isFrom_any j hj (HB.out.ext ((EW.out.trans' K2.out).trans' (‹_ ∧ _ ∧ _ ∧ _ ∧ _ ∧ _ ∧ Hid (Ext w2 _)›).2.2.2.2.2.2.out)) GB.out).mono ?_); rintro e wb ⟨vb, bb, rfl, hxb, hob, -⟩; have XB := Lib.hid (Ext.trans' (‹_ ∧ _ ∧ _ ∧ _ ∧ _ ∧ _ ∧ Hid (Ext w2 _)›).2.2.2.2.2.2.out hxb); have OB := Lib.hid hob; (try (have OA' := Lib.hid (OA.out.ext hxb))); clear hob) | (go_at_call 46; (with_reducible refine (l1Same_any (by first | exact OA'.out.read | exact OA.out.read) (by first | exact OB'.out.read | exact OB.out.read)).mono ?_); rintro e ws ⟨rfl, hxs⟩; rw [E.out]; have XS := Lib.hid (Ext.trans' (‹_ ∧ _ ∧ _ ∧ _ ∧ _ ∧ _ ∧ Hid (Ext w2 _)›).2.2.2.2.2.2.out hxs)))
        all_goals go_wp2_with fail
        all_goals go_meet
        all_goals exact ⟨rfl, rfl, XS.out⟩
      case rest =>
        obtain ⟨rfl, rfl, XC⟩ := hcut
        clear mkS p0 p1 p2 q0 q1 q2
        go_wp2
        go_ret2
        exact ⟨ret_bb rfl D.out.symm, (EW.out.trans' K2.out).trans' XC.out⟩
    · have DA := Lib.hid (dec_true ha)
      have DB := Lib.hid (dec_false hb)
      have D := Lib.hid (dec_false (p := RootB A x B y) fun h => hb h.2)
      have E := Lib.hid (dec_false (p := RootEq A x B y) fun h => hb h.1.2)
      clear ha hb
      go_enter Try.func20, Try.ntmps20
      go_wp2_with fail
      rw [← hW1]
      clear hW1 p0 p1 p2
      (with_reducible refine (neNode_any _ (HA.out.ext EW.out)).mono ?_)
      rintro e w1 ⟨rfl, hx1⟩
      rw [DA.out]
      have K1 := Lib.hid hx1
      obtain ⟨q0, q1, q2, -, -, -⟩ := row3_facts (row_ext RB.out hx1)
      clear hx1
      go_wp2_with fail
      (with_reducible refine (neNode_any _ (HB.out.ext (EW.out.trans' K1.out))).mono ?_)
      rintro e w2 ⟨rfl, hx2⟩
      rw [DB.out]
      have K2 := Lib.hid (K1.out.trans' hx2)
      clear hx2
      go_wp2
      go_ret2
      exact ⟨ret_bb E.out.symm D.out.symm, EW.out.trans' K2.out⟩
  · have DA := Lib.hid (dec_false ha)
    have D := Lib.hid (dec_false (p := RootB A x B y) fun h => ha h.1)
    have E := Lib.hid (dec_false (p := RootEq A x B y) fun h => ha h.1.1)
    clear ha
    go_enter Try.func20, Try.ntmps20
    go_wp2_with fail
    rw [← hW1]
    clear hW1 p0 p1 p2
    (with_reducible refine (neNode_any _ (HA.out.ext EW.out)).mono ?_)
    rintro e w1 ⟨rfl, hx1⟩
    rw [DA.out]
    have K1 := Lib.hid hx1
    clear hx1
    go_wp2
    go_ret2
    exact ⟨ret_bb E.out.symm D.out.symm, EW.out.trans' K1.out⟩
end Go.Proofs.Ytcdfjckdkicggaa
