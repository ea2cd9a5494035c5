/- The contracts of the model's IsPortMap and coAsked. -/
import Derived.Test.YtgacbfblpkikkaaQc
import Derived.Test.YtgacbfblpkikkaaQd
namespace Go.Proofs.Ytgacbfblpkikkaa
open Go.RowKit

set_option maxHeartbeats 1600000 in
set_option maxRecDepth 100000 in
theorem specIsPortMap_any {w : World} {va vb vf : Value} {A B : Net} {m : List Int} (h : NetAt w va A) (k : NetAt w vb B) (hf : IntSl w vf m) :
    Calls Try.prog 25 #[va, vb, vf] w fun e w' => e = .returned (.tuple #[.bool (dec (PmAns A B m)), .bool (dec (TwoG A B))]) ∧ Ext w w' := by
  have HA := Lib.hid h
  have HB := Lib.hid k
  have HF := Lib.hid hf
  obtain ⟨v0, v1, v2, rfl, -, -, -⟩ := h
  obtain ⟨u0, u1, u2, rfl, -, -, -⟩ := k
  obtain ⟨W1, hW1⟩ : ∃ W1, W1 = (w.alloc (.cells #[v0, v1, v2] 29)).alloc (.cells #[u0, u1, u2] 29) := ⟨_, rfl⟩
  have EW := Lib.hid (show Ext w W1 by rw [hW1]; exact (boxed_ext _ _ _ _ _).trans' (boxed_ext _ _ _ _ _))
  have RA := Lib.hid (show W1.rowIs w.heap.size 29 3 (tri v0 v1 v2) by rw [hW1]; exact (boxed_row _ _ _ _ _).alloc _)
  have RB := Lib.hid (show W1.rowIs (w.heap.size + 1) 29 3 (tri u0 u1 u2) by rw [hW1]; simpa using boxed_row (boxed w v0 v1 v2 29) u0 u1 u2 29)
  obtain ⟨p0, p1, p2, -, -, -⟩ := row3_facts RA.out
  rw [hW1] at p0 p1 p2
  by_cases ha : Good A
  case neg =>
    have DA := Lib.hid (dec_false ha)
    have D := Lib.hid (dec_false (p := TwoG A B) fun h => ha h.1)
    have E := Lib.hid (pm_f (A := A) (B := B) (m := m) fun h => ha h.1)
    clear ha
    go_enter Try.func25, Try.ntmps25
    go_wp2_with fail
    rw [← hW1]
    clear hW1 p0 p1 p2
    (with_reducible refine (neGood_any (HA.out.ext EW.out)).mono ?_)
    rintro e w1 ⟨rfl, hx1⟩
    rw [DA.out]
    have K1 := Lib.hid hx1
    obtain ⟨q0, q1, q2, -, -, -⟩ := row3_facts (row_ext RB.out hx1)
    obtain ⟨p0, p1, p2, -, -, -⟩ := row3_facts (row_ext RA.out hx1)
    clear hx1
    go_wp2
    go_ret2
    exact ⟨ret_bb E.out.symm D.out.symm, EW.out.trans' K1.out⟩
  by_cases hb : Good B
  case neg =>
    have DA := Lib.hid (dec_true ha)
    have DB := Lib.hid (dec_false hb)
    have D := Lib.hid (dec_false (p := TwoG A B) fun h => hb h.2)
    have E := Lib.hid (pm_f (A := A) (B := B) (m := m) fun h => hb h.2)
    clear ha hb
    go_enter Try.func25, Try.ntmps25
    go_wp2_with fail
    rw [← hW1]
    clear hW1 p0 p1 p2
    (with_reducible refine (neGood_any (HA.out.ext EW.out)).mono ?_)
    rintro e w1 ⟨rfl, hx1⟩
    rw [DA.out]
    have K1 := Lib.hid hx1
    obtain ⟨q0, q1, q2, -, -, -⟩ := row3_facts (row_ext RB.out hx1)
    obtain ⟨p0, p1, p2, -, -, -⟩ := row3_facts (row_ext RA.out hx1)
    clear hx1
    go_wp2_with fail
    (with_reducible refine (neGood_any (HB.out.ext (EW.out.trans' K1.out))).mono ?_)
    rintro e w2 ⟨rfl, hx2⟩
    rw [DB.out]
    have K2 := Lib.hid (K1.out.trans' hx2)
    clear p0 p1 p2 q0 q1 q2
    obtain ⟨q0, q1, q2, -, -, -⟩ := row3_facts (row_ext RB.out K2.out)
    obtain ⟨p0, p1, p2, -, -, -⟩ := row3_facts (row_ext RA.out K2.out)
    clear hx2
    go_wp2
    go_ret2
    exact ⟨ret_bb E.out.symm D.out.symm, EW.out.trans' K2.out⟩
  have DA := Lib.hid (dec_true ha)
  have DB := Lib.hid (dec_true hb)
  have HGG := Lib.hid (show TwoG A B from ⟨ha, hb⟩)
  have D := Lib.hid (dec_true HGG.out)
  have GA := Lib.hid (good_w ha)
  have GB := Lib.hid (good_w hb)
  have E := Lib.hid (show dec (PmOK A B m) = dec (PmAns A B m) from dec_congr ⟨fun h => ⟨HGG.out, h⟩, fun h => h.2⟩)
  clear ha hb
  go_enter Try.func25, Try.ntmps25
  go_wp2_with fail
  rw [← hW1]
  clear hW1 p0 p1 p2
  (with_reducible refine (neGood_any (HA.out.ext EW.out)).mono ?_)
  rintro e w1 ⟨rfl, hx1⟩
  rw [DA.out]
  have K1 := Lib.hid hx1
  obtain ⟨q0, q1, q2, -, -, -⟩ := row3_facts (row_ext RB.out hx1)
  obtain ⟨p0, p1, p2, -, -, -⟩ := row3_facts (row_ext RA.out hx1)
  clear hx1
  go_wp2_with fail
  (with_reducible refine (neGood_any (HB.out.ext (EW.out.trans' K1.out))).mono ?_)
  rintro e w2 ⟨rfl, hx2⟩
  rw [DB.out]
  have K2 := Lib.hid (K1.out.trans' hx2)
  clear p0 p1 p2 q0 q1 q2
  obtain ⟨q0, q1, q2, -, -, -⟩ := row3_facts (row_ext RB.out K2.out)
  obtain ⟨p0, p1, p2, -, -, -⟩ := row3_facts (row_ext RA.out K2.out)
  clear hx2
  go_wp2_with fail
  (with_reducible refine (coMap_any (HA.out.ext (EW.out.trans' K2.out)) (HB.out.ext (EW.out.trans' K2.out)) (HF.out.ext (EW.out.trans' K2.out)) GA.out GB.out).mono ?_)
  rintro e w3 ⟨rfl, hx3⟩
  rw [E.out]
  have K3 := Lib.hid (K2.out.trans' hx3)
  clear hx3
  go_wp2
  go_ret2
  exact ⟨ret_bb rfl D.out.symm, EW.out.trans' K3.out⟩

set_option maxHeartbeats 1600000 in
set_option maxRecDepth 100000 in
theorem coAsked_any {w : World} {va vb vf : Value} {A B : Net} {m : List Int} (h : NetAt w va A) (k : NetAt w vb B) (hf : IntSl w vf m) :
    Calls Try.prog 82 #[va, vb, vf] w fun e w' => e = .returned (.bool (dec (PmAns A B m))) ∧ Ext w w' := by
  have HA := Lib.hid h
  have HB := Lib.hid k
  have HF := Lib.hid hf
  obtain ⟨v0, v1, v2, rfl, -, -, -⟩ := h
  obtain ⟨u0, u1, u2, rfl, -, -, -⟩ := k
  obtain ⟨W1, hW1⟩ : ∃ W1, W1 = (w.alloc (.cells #[v0, v1, v2] 29)).alloc (.cells #[u0, u1, u2] 29) := ⟨_, rfl⟩
  have EW := Lib.hid (show Ext w W1 by rw [hW1]; exact (boxed_ext _ _ _ _ _).trans' (boxed_ext _ _ _ _ _))
  have RA := Lib.hid (show W1.rowIs w.heap.size 29 3 (tri v0 v1 v2) by rw [hW1]; exact (boxed_row _ _ _ _ _).alloc _)
  have RB := Lib.hid (show W1.rowIs (w.heap.size + 1) 29 3 (tri u0 u1 u2) by rw [hW1]; simpa using boxed_row (boxed w v0 v1 v2 29) u0 u1 u2 29)
  obtain ⟨p0, p1, p2, -, -, -⟩ := row3_facts RA.out
  rw [hW1] at p0 p1 p2
  by_cases ha : Good A
  case neg =>
    have DA := Lib.hid (dec_false ha)
    have D := Lib.hid (dec_false (p := TwoG A B) fun h => ha h.1)
    have E := Lib.hid (pm_f (A := A) (B := B) (m := m) fun h => ha h.1)
    clear ha
    go_enter Try.func82, Try.ntmps82
    go_wp2_with fail
    rw [← hW1]
    clear hW1 p0 p1 p2
    (with_reducible refine (neGood_any (HA.out.ext EW.out)).mono ?_)
    rintro e w1 ⟨rfl, hx1⟩
    rw [DA.out]
    have K1 := Lib.hid hx1
    obtain ⟨q0, q1, q2, -, -, -⟩ := row3_facts (row_ext RB.out hx1)
    obtain ⟨p0, p1, p2, -, -, -⟩ := row3_facts (row_ext RA.out hx1)
    clear hx1
    go_wp2
    go_ret
    exact ⟨ret_bool E.out.symm, EW.out.trans' K1.out⟩
  by_cases hb : Good B
  case neg =>
    have DA := Lib.hid (dec_true ha)
    have DB := Lib.hid (dec_false hb)
    have D := Lib.hid (dec_false (p := TwoG A B) fun h => hb h.2)
    have E := Lib.hid (pm_f (A := A) (B := B) (m := m) fun h => hb h.2)
    clear ha hb
    go_enter Try.func82, Try.ntmps82
    go_wp2_with fail
    rw [← hW1]
    clear hW1 p0 p1 p2
    (with_reducible refine (neGood_any (HA.out.ext EW.out)).mono ?_)
    rintro e w1 ⟨rfl, hx1⟩
    rw [DA.out]
    have K1 := Lib.hid hx1
    obtain ⟨q0, q1, q2, -, -, -⟩ := row3_facts (row_ext RB.out hx1)
    obtain ⟨p0, p1, p2, -, -, -⟩ := row3_facts (row_ext RA.out hx1)
    clear hx1
    go_wp2_with fail
    (with_reducible refine (neGood_any (HB.out.ext (EW.out.trans' K1.out))).mono ?_)
    rintro e w2 ⟨rfl, hx2⟩
    rw [DB.out]
    have K2 := Lib.hid (K1.out.trans' hx2)
    clear p0 p1 p2 q0 q1 q2
    obtain ⟨q0, q1, q2, -, -, -⟩ := row3_facts (row_ext RB.out K2.out)
    obtain ⟨p0, p1, p2, -, -, -⟩ := row3_facts (row_ext RA.out K2.out)
    clear hx2
    go_wp2
    go_ret
    exact ⟨ret_bool E.out.symm, EW.out.trans' K2.out⟩
  have DA := Lib.hid (dec_true ha)
  have DB := Lib.hid (dec_true hb)
  have HGG := Lib.hid (show TwoG A B from ⟨ha, hb⟩)
  have D := Lib.hid (dec_true HGG.out)
  have GA := Lib.hid (good_w ha)
  have GB := Lib.hid (good_w hb)
  have E := Lib.hid (show dec (PmOK A B m) = dec (PmAns A B m) from dec_congr ⟨fun h => ⟨HGG.out, h⟩, fun h => h.2⟩)
  clear ha hb
  go_enter Try.func82, Try.ntmps82
  go_wp2_with fail
  rw [← hW1]
  clear hW1 p0 p1 p2
  (with_reducible refine (neGood_any (HA.out.ext EW.out)).mono ?_)
  rintro e w1 ⟨rfl, hx1⟩
  rw [DA.out]
  have K1 := Lib.hid hx1
  obtain ⟨q0, q1, q2, -, -, -⟩ := row3_facts (row_ext RB.out hx1)
  obtain ⟨p0, p1, p2, -, -, -⟩ := row3_facts (row_ext RA.out hx1)
  clear hx1
  go_wp2_with fail
  (with_reducible refine (neGood_any (HB.out.ext (EW.out.trans' K1.out))).mono ?_)
  rintro e w2 ⟨rfl, hx2⟩
  rw [DB.out]
  have K2 := Lib.hid (K1.out.trans' hx2)
  clear p0 p1 p2 q0 q1 q2
  obtain ⟨q0, q1, q2, -, -, -⟩ := row3_facts (row_ext RB.out K2.out)
  obtain ⟨p0, p1, p2, -, -, -⟩ := row3_facts (row_ext RA.out K2.out)
  clear hx2
  go_wp2_with fail
  (with_reducible refine (coMap_any (HA.out.ext (EW.out.trans' K2.out)) (HB.out.ext (EW.out.trans' K2.out)) (HF.out.ext (EW.out.trans' K2.out)) GA.out GB.out).mono ?_)
  rintro e w3 ⟨rfl, hx3⟩
  rw [E.out]
  have K3 := Lib.hid (K2.out.trans' hx3)
  clear hx3
  go_wp2
  go_ret
  exact ⟨ret_bool rfl, EW.out.trans' K3.out⟩
theorem isPortMapL_any {w : World} {va vb vf : Value} {A B : Net} {m : List Int} (h : NetAt w va A) (k : NetAt w vb B) (hf : IntSl w vf m) (_ : m.length ≤ 1048576) :
    Calls Try.prog 27 #[va, vb, vf] w fun e w' => e = .returned (.tuple #[.bool (dec (PmAns A B m)), .bool (dec (TwoG A B))]) ∧ Ext w w' := isPortMap_any h k hf
theorem specIsPortMapL_any {w : World} {va vb vf : Value} {A B : Net} {m : List Int} (h : NetAt w va A) (k : NetAt w vb B) (hf : IntSl w vf m) (_ : m.length ≤ 1048576) :
    Calls Try.prog 25 #[va, vb, vf] w fun e w' => e = .returned (.tuple #[.bool (dec (PmAns A B m)), .bool (dec (TwoG A B))]) ∧ Ext w w' := specIsPortMap_any h k hf
end Go.Proofs.Ytgacbfblpkikkaa
