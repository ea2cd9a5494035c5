/- The contracts of the model's IsomorphismOf and isSame, and of both sides' SameNetworks. -/
import Derived.Test.YtcdfjckdkicggaaJu
namespace Go.Proofs.Ytcdfjckdkicggaa
open Go.RowKit

/-- Both are networks. -/
def TwoB (A B : Net) : Prop := Good A ∧ Good B

set_option maxHeartbeats 1600000 in
set_option maxRecDepth 100000 in
theorem specIsomorphismOf_any {w : World} {va vb : Value} {A B : Net} (h : NetAt w va A) (k : NetAt w vb B) :
    Calls Try.prog 25 #[va, vb] w fun e w' => ∃ v' bs, e = .returned (.tuple #[v', .bool (dec (IsoB A B))]) ∧ Ext w w' ∧ OwnI w' v' (isoAns A B) bs ∧ Fresh w bs := by
  have HA := Lib.hid h
  have HB := Lib.hid k
  obtain ⟨v0, v1, v2, rfl, -, -, -⟩ := h
  obtain ⟨u0, u1, u2, rfl, -, -, -⟩ := k
  obtain ⟨W1, hW1⟩ : ∃ W1, W1 = (w.alloc (.cells #[v0, v1, v2] 31)).alloc (.cells #[u0, u1, u2] 31) := ⟨_, rfl⟩
  have EW := Lib.hid (show Ext w W1 by rw [hW1]; exact (boxed_ext _ _ _ _ _).trans' (boxed_ext _ _ _ _ _))
  have RA := Lib.hid (show W1.rowIs w.heap.size 31 3 (tri v0 v1 v2) by rw [hW1]; exact (boxed_row _ _ _ _ _).alloc _)
  have RB := Lib.hid (show W1.rowIs (w.heap.size + 1) 31 3 (tri u0 u1 u2) by rw [hW1]; simpa using boxed_row (boxed w v0 v1 v2 31) u0 u1 u2 31)
  obtain ⟨p0, p1, p2, -, -, -⟩ := row3_facts RA.out
  rw [hW1] at p0 p1 p2
  by_cases ha : Good A
  case neg =>
    have DA := Lib.hid (dec_false ha)
    have D := Lib.hid (dec_false (p := IsoB A B) fun h => ha h.1)
    have AN := Lib.hid (isoAns_f (A := A) (B := B) fun h => ha h.1)
    clear ha
    go_enter Try.func25, Try.ntmps25
    go_wp2_with fail
    rw [← hW1]
    clear hW1 p0 p1 p2
    (with_reducible refine (neGood_any (HA.out.ext EW.out)).mono ?_)
    rintro e w1 ⟨rfl, hx1⟩
    rw [DA.out]
    have K1 := Lib.hid hx1
    clear hx1
    go_wp2
    go_ret2
    exact ⟨_, [], ret_lb D.out.symm, EW.out.trans' K1.out, by rw [AN.out]; exact own_nilI _, Fresh.nil _⟩
  by_cases hb : Good B
  case neg =>
    have DA := Lib.hid (dec_true ha)
    have DB := Lib.hid (dec_false hb)
    have D := Lib.hid (dec_false (p := IsoB A B) fun h => hb h.2.1)
    have AN := Lib.hid (isoAns_f (A := A) (B := B) fun h => hb h.2.1)
    clear ha hb
    go_enter Try.func25, Try.ntmps25
    go_wp2_with fail
    rw [← hW1]
    clear hW1 p0 p1 p2
    (with_reducible refine (neGood_any (HA.out.ext EW.out)).mono ?_)
    rintro e w1 ⟨rfl, hx1⟩
    rw [DA.out]
    have K1 := Lib.hid hx1
    obtain ⟨q0, q1, q2, -, -, -⟩ := row3_facts (row_ext RB.out hx1)
    clear hx1
    go_wp2_with fail
    (with_reducible refine (neGood_any (HB.out.ext (EW.out.trans' K1.out))).mono ?_)
    rintro e w2 ⟨rfl, hx2⟩
    rw [DB.out]
    have K2 := Lib.hid (K1.out.trans' hx2)
    clear hx2
    go_wp2
    go_ret2
    exact ⟨_, [], ret_lb D.out.symm, EW.out.trans' K2.out, by rw [AN.out]; exact own_nilI _, Fresh.nil _⟩
  have DA := Lib.hid (dec_true ha)
  have DB := Lib.hid (dec_true hb)
  have GA := Lib.hid ha
  have GB := Lib.hid hb
  clear ha hb
  go_enter Try.func25, Try.ntmps25
  go_wp2_with fail
  rw [← hW1]
  clear hW1 p0 p1 p2
  (with_reducible refine (neGood_any (HA.out.ext EW.out)).mono ?_)
  rintro e w1 ⟨rfl, hx1⟩
  rw [DA.out]
  have K1 := Lib.hid hx1
  obtain ⟨q0, q1, q2, -, -, -⟩ := row3_facts (row_ext RB.out hx1)
  clear hx1
  go_wp2_with fail
  (with_reducible refine (neGood_any (HB.out.ext (EW.out.trans' K1.out))).mono ?_)
  rintro e w2 ⟨rfl, hx2⟩
  rw [DB.out]
  have K2 := Lib.hid (K1.out.trans' hx2)
  clear q0 q1 q2
  obtain ⟨q0, q1, q2, -, -, -⟩ := row3_facts (row_ext RB.out K2.out)
  obtain ⟨p0, p1, p2, -, -, -⟩ := row3_facts (row_ext RA.out K2.out)
  clear hx2
  go_wp2_with (first | (go_at_call 54; (with_reducible refine (isFind_any (HA.out.ext (EW.out.trans' K2.out)) (HB.out.ext (EW.out.trans' K2.out)) GA.out GB.out).mono ?_); rintro e w3 ⟨v', bs, rfl, hx3, ho, hf⟩; have K3 := Lib.hid ((EW.out.trans' K2.out).trans' hx3); have OO := Lib.hid ho; have FF := Lib.hid (hf.of (EW.out.trans' K2.out).size); clear hx3 ho hf) | fail)
  go_ret2
  exact ⟨_, bs, rfl, K3.out, OO.out, FF.out⟩

set_option maxHeartbeats 1600000 in
set_option maxRecDepth 100000 in
theorem isSame_any {w : World} {va vb : Value} {A B : Net} (h : NetAt w va A) (k : NetAt w vb B) (ga : Good A) (gb : Good B) :
    Calls Try.prog 60 #[va, vb] w fun e w' => e = .returned (.bool (dec (IsoB A B))) ∧ Ext w w' := by
  have HA := Lib.hid h
  have HB := Lib.hid k
  obtain ⟨v0, v1, v2, rfl, -, -, -⟩ := h
  obtain ⟨u0, u1, u2, rfl, -, -, -⟩ := k
  obtain ⟨W1, hW1⟩ : ∃ W1, W1 = (w.alloc (.cells #[v0, v1, v2] 31)).alloc (.cells #[u0, u1, u2] 31) := ⟨_, rfl⟩
  have EW := Lib.hid (show Ext w W1 by rw [hW1]; exact (boxed_ext _ _ _ _ _).trans' (boxed_ext _ _ _ _ _))
  have RA := Lib.hid (show W1.rowIs w.heap.size 31 3 (tri v0 v1 v2) by rw [hW1]; exact (boxed_row _ _ _ _ _).alloc _)
  have RB := Lib.hid (show W1.rowIs (w.heap.size + 1) 31 3 (tri u0 u1 u2) by rw [hW1]; simpa using boxed_row (boxed w v0 v1 v2 31) u0 u1 u2 31)
  obtain ⟨p0, p1, p2, -, -, -⟩ := row3_facts RA.out
  obtain ⟨q0, q1, q2, -, -, -⟩ := row3_facts RB.out
  rw [hW1] at p0 p1 p2 q0 q1 q2
  go_enter Try.func60, Try.ntmps60
  go_wp2_with fail
  rw [← hW1]
  clear hW1 p0 p1 p2 q0 q1 q2
  (with_reducible refine (isFind_any (HA.out.ext EW.out) (HB.out.ext EW.out) ga gb).mono ?_)
  rintro e w3 ⟨v', bs, rfl, hx3, -, -⟩
  have K3 := Lib.hid (EW.out.trans' hx3)
  clear hx3
  go_wp2
  go_ret
  exact ⟨rfl, K3.out⟩

set_option maxHeartbeats 1600000 in
set_option maxRecDepth 100000 in
theorem specSameNetworks_any {w : World} {va vb : Value} {A B : Net} (h : NetAt w va A) (k : NetAt w vb B) :
    Calls Try.prog 27 #[va, vb] w fun e w' => e = .returned (.tuple #[.bool (dec (IsoB A B)), .bool (dec (TwoB A B))]) ∧ Ext w w' := by
  have HA := Lib.hid h
  have HB := Lib.hid k
  obtain ⟨v0, v1, v2, rfl, -, -, -⟩ := h
  obtain ⟨u0, u1, u2, rfl, -, -, -⟩ := k
  obtain ⟨W1, hW1⟩ : ∃ W1, W1 = (w.alloc (.cells #[v0, v1, v2] 31)).alloc (.cells #[u0, u1, u2] 31) := ⟨_, rfl⟩
  have EW := Lib.hid (show Ext w W1 by rw [hW1]; exact (boxed_ext _ _ _ _ _).trans' (boxed_ext _ _ _ _ _))
  have RA := Lib.hid (show W1.rowIs w.heap.size 31 3 (tri v0 v1 v2) by rw [hW1]; exact (boxed_row _ _ _ _ _).alloc _)
  have RB := Lib.hid (show W1.rowIs (w.heap.size + 1) 31 3 (tri u0 u1 u2) by rw [hW1]; simpa using boxed_row (boxed w v0 v1 v2 31) u0 u1 u2 31)
  obtain ⟨p0, p1, p2, -, -, -⟩ := row3_facts RA.out
  rw [hW1] at p0 p1 p2
  by_cases ha : Good A
  case neg =>
    have DA := Lib.hid (dec_false ha)
    have D := Lib.hid (dec_false (p := IsoB A B) fun h => ha h.1)
    have D2 := Lib.hid (dec_false (p := TwoB A B) fun h => ha h.1)
    clear ha
    go_enter Try.func27, Try.ntmps27
    go_wp2_with fail
    rw [← hW1]
    clear hW1 p0 p1 p2
    (with_reducible refine (neGood_any (HA.out.ext EW.out)).mono ?_)
    rintro e w1 ⟨rfl, hx1⟩
    rw [DA.out]
    have K1 := Lib.hid hx1
    clear hx1
    go_wp2
    go_ret2
    exact ⟨ret_bb D.out.symm D2.out.symm, EW.out.trans' K1.out⟩
  by_cases hb : Good B
  case neg =>
    have DA := Lib.hid (dec_true ha)
    have DB := Lib.hid (dec_false hb)
    have D := Lib.hid (dec_false (p := IsoB A B) fun h => hb h.2.1)
    have D2 := Lib.hid (dec_false (p := TwoB A B) fun h => hb h.2)
    clear ha hb
    go_enter Try.func27, Try.ntmps27
    go_wp2_with fail
    rw [← hW1]
    clear hW1 p0 p1 p2
    (with_reducible refine (neGood_any (HA.out.ext EW.out)).mono ?_)
    rintro e w1 ⟨rfl, hx1⟩
    rw [DA.out]
    have K1 := Lib.hid hx1
    obtain ⟨q0, q1, q2, -, -, -⟩ := row3_facts (row_ext RB.out hx1)
    clear hx1
    go_wp2_with fail
    (with_reducible refine (neGood_any (HB.out.ext (EW.out.trans' K1.out))).mono ?_)
    rintro e w2 ⟨rfl, hx2⟩
    rw [DB.out]
    have K2 := Lib.hid (K1.out.trans' hx2)
    clear hx2
    go_wp2
    go_ret2
    exact ⟨ret_bb D.out.symm D2.out.symm, EW.out.trans' K2.out⟩
  have DA := Lib.hid (dec_true ha)
  have DB := Lib.hid (dec_true hb)
  have D2 := Lib.hid (dec_true (p := TwoB A B) ⟨ha, hb⟩)
  have GA := Lib.hid ha
  have GB := Lib.hid hb
  clear ha hb
  go_enter Try.func27, Try.ntmps27
  go_wp2_with fail
  rw [← hW1]
  clear hW1 p0 p1 p2
  (with_reducible refine (neGood_any (HA.out.ext EW.out)).mono ?_)
  rintro e w1 ⟨rfl, hx1⟩
  rw [DA.out]
  have K1 := Lib.hid hx1
  obtain ⟨q0, q1, q2, -, -, -⟩ := row3_facts (row_ext RB.out hx1)
  clear hx1
  go_wp2_with fail
  (with_reducible refine (neGood_any (HB.out.ext (EW.out.trans' K1.out))).mono ?_)
  rintro e w2 ⟨rfl, hx2⟩
  rw [DB.out]
  have K2 := Lib.hid (K1.out.trans' hx2)
  clear q0 q1 q2
  obtain ⟨q0, q1, q2, -, -, -⟩ := row3_facts (row_ext RB.out K2.out)
  obtain ⟨p0, p1, p2, -, -, -⟩ := row3_facts (row_ext RA.out K2.out)
  clear hx2
  go_wp2_with (first | (go_at_call 60; (with_reducible refine (isSame_any (HA.out.ext (EW.out.trans' K2.out)) (HB.out.ext (EW.out.trans' K2.out)) GA.out GB.out).mono ?_); rintro e w3 ⟨rfl, hx3⟩; have K3 := Lib.hid ((EW.out.trans' K2.out).trans' hx3); clear hx3) | fail)
  go_ret2
  exact ⟨ret_bb rfl D2.out.symm, K3.out⟩

set_option maxHeartbeats 1600000 in
set_option maxRecDepth 100000 in
theorem sameNetworks_any {w : World} {va vb : Value} {A B : Net} (h : NetAt w va A) (k : NetAt w vb B) :
    Calls Try.prog 28 #[va, vb] w fun e w' => e = .returned (.tuple #[.bool (dec (IsoB A B)), .bool (dec (TwoB A B))]) ∧ Ext w w' := by
  have HA := Lib.hid h
  have HB := Lib.hid k
  obtain ⟨v0, v1, v2, rfl, -, -, -⟩ := h
  obtain ⟨u0, u1, u2, rfl, -, -, -⟩ := k
  obtain ⟨W1, hW1⟩ : ∃ W1, W1 = (w.alloc (.cells #[v0, v1, v2] 31)).alloc (.cells #[u0, u1, u2] 31) := ⟨_, rfl⟩
  have EW := Lib.hid (show Ext w W1 by rw [hW1]; exact (boxed_ext _ _ _ _ _).trans' (boxed_ext _ _ _ _ _))
  have RA := Lib.hid (show W1.rowIs w.heap.size 31 3 (tri v0 v1 v2) by rw [hW1]; exact (boxed_row _ _ _ _ _).alloc _)
  have RB := Lib.hid (show W1.rowIs (w.heap.size + 1) 31 3 (tri u0 u1 u2) by rw [hW1]; simpa using boxed_row (boxed w v0 v1 v2 31) u0 u1 u2 31)
  obtain ⟨p0, p1, p2, -, -, -⟩ := row3_facts RA.out
  obtain ⟨q0, q1, q2, -, -, -⟩ := row3_facts RB.out
  rw [hW1] at p0 p1 p2 q0 q1 q2
  go_enter Try.func28, Try.ntmps28
  go_wp2_with fail
  rw [← hW1]
  clear hW1 p0 p1 p2 q0 q1 q2
  (with_reducible refine (isomorphismOf_any (HA.out.ext EW.out) (HB.out.ext EW.out)).mono ?_)
  rintro e w1 ⟨v', bs, rfl, hx1, -, -⟩
  have K1 := Lib.hid hx1
  obtain ⟨p0, p1, p2, -, -, -⟩ := row3_facts (row_ext RA.out hx1)
  clear hx1
  by_cases ha : Good A
  case neg =>
    have DA := Lib.hid (dec_false ha)
    have D2 := Lib.hid (dec_false (p := TwoB A B) fun h => ha h.1)
    clear ha
    go_wp2_with (first | (go_at_call 41; (with_reducible refine (isNetwork_any (HA.out.ext (EW.out.trans' K1.out))).mono ?_); rintro e w2 ⟨rfl, hx2⟩; rw [DA.out]; have K2 := Lib.hid (K1.out.trans' hx2); clear hx2) | fail)
    go_ret2
    exact ⟨ret_bb rfl D2.out.symm, EW.out.trans' K2.out⟩
  have DA := Lib.hid (dec_true ha)
  have D2 := Lib.hid (show dec (Good B) = dec (TwoB A B) from dec_congr ⟨fun h => ⟨ha, h⟩, fun h => h.2⟩)
  clear ha
  go_wp2_with fail
  (with_reducible refine (isNetwork_any (HA.out.ext (EW.out.trans' K1.out))).mono ?_)
  rintro e w2 ⟨rfl, hx2⟩
  rw [DA.out]
  have K2 := Lib.hid (K1.out.trans' hx2)
  obtain ⟨q0, q1, q2, -, -, -⟩ := row3_facts (row_ext RB.out K2.out)
  clear hx2 p0 p1 p2
  go_wp2_with (first | (go_at_call 41; (with_reducible refine (isNetwork_any (HB.out.ext (EW.out.trans' K2.out))).mono ?_); rintro e w3 ⟨rfl, hx3⟩; rw [D2.out]; have K3 := Lib.hid (K2.out.trans' hx3); clear hx3) | fail)
  go_ret2
  exact ⟨rfl, EW.out.trans' K3.out⟩
end Go.Proofs.Ytcdfjckdkicggaa
