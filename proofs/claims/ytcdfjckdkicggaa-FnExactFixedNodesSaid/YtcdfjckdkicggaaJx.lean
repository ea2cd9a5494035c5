/- The contracts of both sides' ImagesOf. -/
import Derived.Test.YtcdfjckdkicggaaJv
namespace Go.Proofs.Ytcdfjckdkicggaa
open Go.RowKit

/-- The node is one of a network, and the other one is a network. -/
def ImgB (A : Net) (x : Int) (B : Net) : Prop := NodeAns A x ∧ Good B
noncomputable def imgAns (A : Net) (x : Int) (B : Net) : List Int := if dec (ImgB A x B ∧ IsoB A B) = true then withC B (code A x) else []
theorem imgAns_t {A B : Net} {x : Int} (h : ImgB A x B ∧ IsoB A B) : imgAns A x B = withC B (code A x) := by simp [imgAns, dec_true h]
theorem imgAns_f {A B : Net} {x : Int} (h : ¬ (ImgB A x B ∧ IsoB A B)) : imgAns A x B = [] := by simp [imgAns, dec_false h]
theorem field_code (a b : Option Addr) (n c m d : Nat) (w : World) : (Instr.field 59 (.agg #[.slice a n c, .slice b m d]) 1).run Try.prog w = .ok (.slice b m d) w := by
  first | kernel_rfl | rfl | (unfold Instr.field; simp [go_sem, Try.underlying59])
theorem own_empty (w : World) : OwnI (w.alloc (.cells #[] 3)) (.slice (some ⟨w.heap.size, 0, none⟩) 0 0) [] [w.heap.size] :=
  ⟨⟨0, Nat.le_refl _, by unfold maxLen; omega, .inr ⟨w.heap.size, 0, fun _ => undef, rfl, rfl, by simp, World.rowIs_alloc w #[] 3 _ fun i hi => absurd hi (by simp), fun i hi => absurd hi (by simp)⟩⟩, fun i hi => absurd hi (by simp)⟩
theorem imgAns_len (A : Net) (x : Int) (B : Net) : (imgAns A x B).length ≤ 1048576 := by
  by_cases h : ImgB A x B ∧ IsoB A B
  · rw [imgAns_t h]
    have := withCd_len B (code A x) B.ends.length
    have := (good_w h.1.2).most
    unfold withC; omega
  · rw [imgAns_f h]; simp

set_option maxHeartbeats 3200000 in
set_option maxRecDepth 100000 in
theorem imagesOf_any {w : World} {va vb : Value} {A B : Net} (x : Int) (h : NetAt w va A) (k : NetAt w vb B) :
    Calls Try.prog 30 #[va, .int .i64 x, vb] w fun e w' => ∃ v' bs, e = .returned (.tuple #[v', .bool (dec (ImgB A x B))]) ∧ Ext w w' ∧ OwnI w' v' (imgAns A x B) bs ∧ Fresh w bs := by
  have HA := Lib.hid h
  have HB := Lib.hid k
  obtain ⟨v0, v1, v2, rfl, -, -, -⟩ := h
  obtain ⟨u0, u1, u2, rfl, hEb, -, -⟩ := k
  obtain ⟨fa, -, -, fc, rfl, -, hfl, hfm, -⟩ := hEb
  unfold maxLen at hfm
  obtain ⟨W1, hW1⟩ : ∃ W1, W1 = (w.alloc (.cells #[v0, v1, v2] 31)).alloc (.cells #[.slice fa B.ends.length fc, u1, u2] 31) := ⟨_, rfl⟩
  have EW := Lib.hid (show Ext w W1 by rw [hW1]; exact (boxed_ext _ _ _ _ _).trans' (boxed_ext _ _ _ _ _))
  have RA := Lib.hid (show W1.rowIs w.heap.size 31 3 (tri v0 v1 v2) by rw [hW1]; exact (boxed_row _ _ _ _ _).alloc _)
  have RB := Lib.hid (show W1.rowIs (w.heap.size + 1) 31 3 (tri (.slice fa B.ends.length fc) u1 u2) by rw [hW1]; simpa using boxed_row (boxed w v0 v1 v2 31) (.slice fa B.ends.length fc) u1 u2 31)
  obtain ⟨p0, p1, p2, -, -, -⟩ := row3_facts RA.out
  obtain ⟨q0, q1, q2, -, -, -⟩ := row3_facts RB.out
  rw [hW1] at p0 p1 p2 q0 q1 q2
  by_cases ht : TwoB A B
  case neg =>
    have DT := Lib.hid (dec_false ht)
    have D := Lib.hid (dec_false (p := ImgB A x B) fun h => ht ⟨h.1.1, h.2⟩)
    have AN := Lib.hid (imgAns_f (A := A) (B := B) (x := x) fun h => ht ⟨h.1.1.1, h.1.2⟩)
    clear ht
    go_enter Try.func30, Try.ntmps30
    go_wp2_with fail
    rw [← hW1]
    clear hW1 p0 p1 p2 q0 q1 q2
    (with_reducible refine (sameNetworks_any (HA.out.ext EW.out) (HB.out.ext EW.out)).mono ?_)
    rintro e w1 ⟨rfl, hx1⟩
    rw [DT.out]
    have K1 := Lib.hid hx1
    obtain ⟨p0, p1, p2, -, -, -⟩ := row3_facts (row_ext RA.out hx1)
    clear hx1
    go_wp2
    go_ret2
    exact ⟨_, [], ret_lb D.out.symm, EW.out.trans' K1.out, by rw [AN.out]; exact own_nilI _, Fresh.nil _⟩
  have DT := Lib.hid (dec_true ht)
  have HT := Lib.hid ht
  clear ht
  by_cases hn : NodeOK A x
  case neg =>
    have DN := Lib.hid (dec_false hn)
    have D := Lib.hid (dec_false (p := ImgB A x B) fun h => hn h.1.2)
    have AN := Lib.hid (imgAns_f (A := A) (B := B) (x := x) fun h => hn h.1.1.2)
    clear hn
    go_enter Try.func30, Try.ntmps30
    go_wp2_with fail
    rw [← hW1]
    clear hW1 p0 p1 p2 q0 q1 q2
    (with_reducible refine (sameNetworks_any (HA.out.ext EW.out) (HB.out.ext EW.out)).mono ?_)
    rintro e w1 ⟨rfl, hx1⟩
    rw [DT.out]
    have K1 := Lib.hid hx1
    obtain ⟨p0, p1, p2, -, -, -⟩ := row3_facts (row_ext RA.out hx1)
    clear hx1
    go_wp2_with fail
    (with_reducible refine (hasNode_any x (HA.out.ext (EW.out.trans' K1.out))).mono ?_)
    rintro e w2 ⟨rfl, hx2⟩
    rw [DN.out]
    have K2 := Lib.hid (K1.out.trans' hx2)
    clear hx2 p0 p1 p2
    go_wp2
    go_ret2
    exact ⟨_, [], ret_lb D.out.symm, EW.out.trans' K2.out, by rw [AN.out]; exact own_nilI _, Fresh.nil _⟩
  have DN := Lib.hid (dec_true hn)
  have HI := Lib.hid (show ImgB A x B from ⟨⟨HT.out.1, hn⟩, HT.out.2⟩)
  clear hn
  by_cases hs : IsoB A B
  case neg =>
    have DS := Lib.hid (dec_false hs)
    have AN := Lib.hid (imgAns_f (A := A) (B := B) (x := x) fun h => hs h.2)
    clear hs
    go_enter Try.func30, Try.ntmps30
    go_wp2_with fail
    rw [← hW1]
    clear hW1 p0 p1 p2 q0 q1 q2
    (with_reducible refine (sameNetworks_any (HA.out.ext EW.out) (HB.out.ext EW.out)).mono ?_)
    rintro e w1 ⟨rfl, hx1⟩
    rw [DT.out, DS.out]
    have K1 := Lib.hid hx1
    obtain ⟨p0, p1, p2, -, -, -⟩ := row3_facts (row_ext RA.out hx1)
    clear hx1
    go_wp2_with fail
    (with_reducible refine (hasNode_any x (HA.out.ext (EW.out.trans' K1.out))).mono ?_)
    rintro e w2 ⟨rfl, hx2⟩
    rw [DN.out]
    have K2 := Lib.hid (K1.out.trans' hx2)
    clear hx2 p0 p1 p2
    go_wp2
    go_ret2
    exact ⟨_, [w2.heap.size], ret_lb (dec_true HI.out).symm, (EW.out.trans' K2.out).alloc' _, by rw [AN.out]; exact own_empty _, by simp, fun b hb => by obtain rfl := List.mem_singleton.1 hb; exact (EW.out.trans' K2.out).size⟩
  have DS := Lib.hid (dec_true hs)
  have AN := Lib.hid (imgAns_t (A := A) (B := B) (x := x) ⟨HI.out, hs⟩)
  have GA := Lib.hid (good_w HT.out.1)
  have GB := Lib.hid (good_w HT.out.2)
  have h41 := GB.out.most
  obtain ⟨i, rfl, hi⟩ := node_nat HI.out.1
  clear hs
  go_enter Try.func30, Try.ntmps30
  go_wp2_with fail
  rw [← hW1]
  clear hW1 p0 p1 p2 q0 q1 q2
  (with_reducible refine (sameNetworks_any (HA.out.ext EW.out) (HB.out.ext EW.out)).mono ?_)
  rintro e w1 ⟨rfl, hx1⟩
  rw [DT.out, DS.out]
  have K1 := Lib.hid hx1
  obtain ⟨p0, p1, p2, -, -, -⟩ := row3_facts (row_ext RA.out hx1)
  clear hx1
  go_wp2_with fail
  (with_reducible refine (hasNode_any _ (HA.out.ext (EW.out.trans' K1.out))).mono ?_)
  rintro e w2 ⟨rfl, hx2⟩
  rw [DN.out]
  have K2 := Lib.hid (K1.out.trans' hx2)
  clear hx2 p0 p1 p2
  obtain ⟨q0, q1, q2, -, -, -⟩ := row3_facts (row_ext RB.out K2.out)
  obtain ⟨p0, p1, p2, -, -, -⟩ := row3_facts (row_ext RA.out K2.out)
  go_wp2_with fail
  have hfld := field_code
  have mkS : ∀ w' : World, Ext w2 w' → w'.cell? ⟨w.heap.size, 0, none⟩ = some v0 ∧ w'.cell? ⟨w.heap.size, 1, none⟩ = some v1 ∧ w'.cell? ⟨w.heap.size, 2, none⟩ = some v2 ∧ w'.cell? ⟨w.heap.size + 1, 0, none⟩ = some (.slice fa B.ends.length fc) ∧ w'.cell? ⟨w.heap.size + 1, 1, none⟩ = some u1 ∧ w'.cell? ⟨w.heap.size + 1, 2, none⟩ = some u2 ∧ Hid (Ext w2 w') := fun w' h => ⟨h.cell' p0, h.cell' p1, h.cell' p2, h.cell' q0, h.cell' q1, h.cell' q2, h⟩
  go_cut [6, 7] from 27 to 34 (fun t6 t7 wx => ∃ (v : Value) (bs : List Nat), t6 = v ∧ t7 = .bool true ∧ Hid (Ext w2 wx ∧ OwnI wx v (withC B (code A i)) bs ∧ Fresh w2 bs))
  case first =>
    go_region_held3 (fun w' => w'.cell? ⟨w.heap.size, 0, none⟩ = some v0 ∧ w'.cell? ⟨w.heap.size, 1, none⟩ = some v1 ∧ w'.cell? ⟨w.heap.size, 2, none⟩ = some v2 ∧ w'.cell? ⟨w.heap.size + 1, 0, none⟩ = some (.slice fa B.ends.length fc) ∧ w'.cell? ⟨w.heap.size + 1, 1, none⟩ = some u1 ∧ w'.cell? ⟨w.heap.size + 1, 2, none⟩ = some u2 ∧ Hid (Ext w2 w'))
      (first | exact mkS _ (Ext.rfl' w2).drew' | exact mkS _ XS.out | exact mkS _ XB.out | exact mkS _ XA.out | fail)
      (first | (go_at_call 55; (with_reducible refine (walksOf_any (HB.out.ext ((EW.out.trans' K2.out).trans' ((‹_ ∧ _ ∧ _ ∧ _ ∧ _ ∧ _ ∧ Hid (Ext w2 _)›).2.2.2.2.2.2.out))) GB.out).mono ?_); rintro e wb ⟨bb, rfl, hxb, hwb, -⟩; have XB := Lib.hid (Ext.trans' ((‹_ ∧ _ ∧ _ ∧ _ ∧ _ ∧ _ ∧ Hid (Ext w2 _)›).2.2.2.2.2.2.out) hxb); have OB := Lib.hid hwb; (try (have OC' := Lib.hid (OC.out.ext hxb))); clear hwb) | (go_at_call 43; (with_reducible refine (walkFrom_any i hi (HA.out.ext ((EW.out.trans' K2.out).trans' ((‹_ ∧ _ ∧ _ ∧ _ ∧ _ ∧ _ ∧ Hid (Ext w2 _)›).2.2.2.2.2.2.out))) GA.out).mono ?_); rintro e wa ⟨vn, vc, bn, bc, rfl, hxa, hon, hoc, -⟩; obtain ⟨na', nc', rfl⟩ := hon.1.slice; obtain ⟨ca', cc', rfl⟩ := hoc.1.slice; clear hon; have XA := Lib.hid (Ext.trans' ((‹_ ∧ _ ∧ _ ∧ _ ∧ _ ∧ _ ∧ Hid (Ext w2 _)›).2.2.2.2.2.2.out) hxa); have OC := Lib.hid hoc; (try (have OB' := Lib.hid (OB.out.ext hxa))); clear hoc) | (go_at_call 61; (with_reducible refine (nodesWithCode_any (by first | exact OB'.out | exact OB.out) (by first | exact OC'.out.read | exact OC.out.read) h41).mono ?_); rintro e ws ⟨vs, bs, rfl, hxs, hos, hfs⟩; have XS := Lib.hid (Ext.trans' ((‹_ ∧ _ ∧ _ ∧ _ ∧ _ ∧ _ ∧ Hid (Ext w2 _)›).2.2.2.2.2.2.out) hxs); have OS := Lib.hid hos; have FS := Lib.hid (hfs.of ((‹_ ∧ _ ∧ _ ∧ _ ∧ _ ∧ _ ∧ Hid (Ext w2 _)›).2.2.2.2.2.2.out).size); clear hos hfs))
    all_goals go_wp2_with fail
    all_goals go_meet
    all_goals exact ⟨_, _, rfl, rfl, XS.out, OS.out, FS.out⟩
  case rest =>
    obtain ⟨vr, br, rfl, rfl, XC⟩ := hcut
    clear mkS p0 p1 p2 q0 q1 q2
    go_wp2
    go_ret2
    exact ⟨_, br, ret_lb (dec_true HI.out).symm, (EW.out.trans' K2.out).trans' XC.out.1, by rw [AN.out]; exact XC.out.2.1, XC.out.2.2.of (EW.out.trans' K2.out).size⟩

set_option maxHeartbeats 3200000 in
set_option maxRecDepth 100000 in
theorem specImagesOf_any {w : World} {va vb : Value} {A B : Net} (x : Int) (h : NetAt w va A) (k : NetAt w vb B) :
    Calls Try.prog 29 #[va, .int .i64 x, vb] w fun e w' => ∃ v' bs, e = .returned (.tuple #[v', .bool (dec (ImgB A x B))]) ∧ Ext w w' ∧ OwnI w' v' (imgAns A x B) bs ∧ Fresh w bs := by
  have HA := Lib.hid h
  have HB := Lib.hid k
  obtain ⟨v0, v1, v2, rfl, -, -, -⟩ := h
  obtain ⟨u0, u1, u2, rfl, hEb, -, -⟩ := k
  obtain ⟨fa, -, -, fc, rfl, -, hfl, hfm, -⟩ := hEb
  unfold maxLen at hfm
  obtain ⟨W1, hW1⟩ : ∃ W1, W1 = (w.alloc (.cells #[v0, v1, v2] 31)).alloc (.cells #[.slice fa B.ends.length fc, u1, u2] 31) := ⟨_, rfl⟩
  have EW := Lib.hid (show Ext w W1 by rw [hW1]; exact (boxed_ext _ _ _ _ _).trans' (boxed_ext _ _ _ _ _))
  have RA := Lib.hid (show W1.rowIs w.heap.size 31 3 (tri v0 v1 v2) by rw [hW1]; exact (boxed_row _ _ _ _ _).alloc _)
  have RB := Lib.hid (show W1.rowIs (w.heap.size + 1) 31 3 (tri (.slice fa B.ends.length fc) u1 u2) by rw [hW1]; simpa using boxed_row (boxed w v0 v1 v2 31) (.slice fa B.ends.length fc) u1 u2 31)
  obtain ⟨p0, p1, p2, -, -, -⟩ := row3_facts RA.out
  obtain ⟨q0, q1, q2, -, -, -⟩ := row3_facts RB.out
  rw [hW1] at p0 p1 p2 q0 q1 q2
  by_cases ha : NodeAns A x
  case neg =>
    have DA := Lib.hid (dec_false ha)
    have D := Lib.hid (dec_false (p := ImgB A x B) fun h => ha h.1)
    have AN := Lib.hid (imgAns_f (A := A) (B := B) (x := x) fun h => ha h.1.1)
    clear ha
    go_enter Try.func29, Try.ntmps29
    go_wp2_with fail
    rw [← hW1]
    clear hW1 p0 p1 p2 q0 q1 q2
    (with_reducible refine (neNode_any x (HA.out.ext EW.out)).mono ?_)
    rintro e w1 ⟨rfl, hx1⟩
    rw [DA.out]
    have K1 := Lib.hid hx1
    obtain ⟨q0, q1, q2, -, -, -⟩ := row3_facts (row_ext RB.out hx1)
    clear hx1
    go_wp2
    go_ret2
    exact ⟨_, [], ret_lb D.out.symm, EW.out.trans' K1.out, by rw [AN.out]; exact own_nilI _, Fresh.nil _⟩
  by_cases hb : Good B
  case neg =>
    have DA := Lib.hid (dec_true ha)
    have DB := Lib.hid (dec_false hb)
    have D := Lib.hid (dec_false (p := ImgB A x B) fun h => hb h.2)
    have AN := Lib.hid (imgAns_f (A := A) (B := B) (x := x) fun h => hb h.1.2)
    clear ha hb
    go_enter Try.func29, Try.ntmps29
    go_wp2_with fail
    rw [← hW1]
    clear hW1 p0 p1 p2 q0 q1 q2
    (with_reducible refine (neNode_any x (HA.out.ext EW.out)).mono ?_)
    rintro e w1 ⟨rfl, hx1⟩
    rw [DA.out]
    have K1 := Lib.hid hx1
    obtain ⟨q0, q1, q2, -, -, -⟩ := row3_facts (row_ext RB.out hx1)
    clear hx1
    go_wp2_with (first | (go_at_call 49; (with_reducible refine (neGood_any (HB.out.ext (EW.out.trans' K1.out))).mono ?_); rintro e w2 ⟨rfl, hx2⟩; rw [DB.out]; have K2 := Lib.hid (K1.out.trans' hx2); clear hx2) | fail)
    go_ret2
    exact ⟨_, [], ret_lb D.out.symm, EW.out.trans' K2.out, by rw [AN.out]; exact own_nilI _, Fresh.nil _⟩
  have DA := Lib.hid (dec_true ha)
  have DB := Lib.hid (dec_true hb)
  have HI := Lib.hid (show ImgB A x B from ⟨ha, hb⟩)
  have GA0 := Lib.hid ha.1
  have GB0 := Lib.hid hb
  clear ha hb
  by_cases hs : IsoB A B
  case neg =>
    have DS := Lib.hid (dec_false hs)
    have AN := Lib.hid (imgAns_f (A := A) (B := B) (x := x) fun h => hs h.2)
    clear hs
    go_enter Try.func29, Try.ntmps29
    go_wp2_with fail
    rw [← hW1]
    clear hW1 p0 p1 p2 q0 q1 q2
    (with_reducible refine (neNode_any x (HA.out.ext EW.out)).mono ?_)
    rintro e w1 ⟨rfl, hx1⟩
    rw [DA.out]
    have K1 := Lib.hid hx1
    obtain ⟨q0, q1, q2, -, -, -⟩ := row3_facts (row_ext RB.out hx1)
    clear hx1
    go_wp2_with fail
    (with_reducible refine (neGood_any (HB.out.ext (EW.out.trans' K1.out))).mono ?_)
    rintro e w2 ⟨rfl, hx2⟩
    rw [DB.out]
    have K2 := Lib.hid (K1.out.trans' hx2)
    clear q0 q1 q2
    obtain ⟨q0, q1, q2, -, -, -⟩ := row3_facts (row_ext RB.out K2.out)
    obtain ⟨p0, p1, p2, -, -, -⟩ := row3_facts (row_ext RA.out K2.out)
    clear hx2
    go_wp2_with fail
    (with_reducible refine (isSame_any (HA.out.ext (EW.out.trans' K2.out)) (HB.out.ext (EW.out.trans' K2.out)) GA0.out GB0.out).mono ?_)
    rintro e w3 ⟨rfl, hx3⟩
    rw [DS.out]
    have K3 := Lib.hid (K2.out.trans' hx3)
    clear q0 q1 q2 p0 p1 p2
    obtain ⟨q0, q1, q2, -, -, -⟩ := row3_facts (row_ext RB.out K3.out)
    obtain ⟨p0, p1, p2, -, -, -⟩ := row3_facts (row_ext RA.out K3.out)
    clear hx3
    go_wp2
    go_ret2
    exact ⟨_, [], ret_lb (dec_true HI.out).symm, EW.out.trans' K3.out, by rw [AN.out]; exact own_nilI _, Fresh.nil _⟩
  have DS := Lib.hid (dec_true hs)
  have AN := Lib.hid (imgAns_t (A := A) (B := B) (x := x) ⟨HI.out, hs⟩)
  have GA := Lib.hid (good_w HI.out.1.1)
  have GB := Lib.hid (good_w HI.out.2)
  have h41 := GB.out.most
  obtain ⟨i, rfl, hi⟩ := node_nat HI.out.1
  clear hs
  obtain ⟨i0, hii, hz0, hz1, hz2⟩ := info_parts Try.info3
  have I0 := Lib.hid (And.intro hii (And.intro hz0 (And.intro hz1 hz2)))
  clear hii hz0 hz1 hz2
  go_enter Try.func29, Try.ntmps29
  go_wp2_with fail
  rw [← hW1]
  clear hW1 p0 p1 p2 q0 q1 q2
  (with_reducible refine (neNode_any _ (HA.out.ext EW.out)).mono ?_)
  rintro e w1 ⟨rfl, hx1⟩
  rw [DA.out]
  have K1 := Lib.hid hx1
  obtain ⟨q0, q1, q2, -, -, -⟩ := row3_facts (row_ext RB.out hx1)
  clear hx1
  go_wp2_with fail
  (with_reducible refine (neGood_any (HB.out.ext (EW.out.trans' K1.out))).mono ?_)
  rintro e w2 ⟨rfl, hx2⟩
  rw [DB.out]
  have K2 := Lib.hid (K1.out.trans' hx2)
  clear q0 q1 q2
  obtain ⟨q0, q1, q2, -, -, -⟩ := row3_facts (row_ext RB.out K2.out)
  obtain ⟨p0, p1, p2, -, -, -⟩ := row3_facts (row_ext RA.out K2.out)
  clear hx2
  go_wp2_with fail
  (with_reducible refine (isSame_any (HA.out.ext (EW.out.trans' K2.out)) (HB.out.ext (EW.out.trans' K2.out)) GA0.out GB0.out).mono ?_)
  rintro e w3 ⟨rfl, hx3⟩
  rw [DS.out]
  have K3 := Lib.hid (K2.out.trans' hx3)
  clear q0 q1 q2 p0 p1 p2
  obtain ⟨q0, q1, q2, -, -, -⟩ := row3_facts (row_ext RB.out K3.out)
  obtain ⟨p0, p1, p2, -, -, -⟩ := row3_facts (row_ext RA.out K3.out)
  clear hx3
  go_wp2_with fail
  (with_reducible refine (isFrom_any i hi (HA.out.ext (EW.out.trans' K3.out)) GA.out).mono ?_)
  rintro e w4 ⟨vc, bc, rfl, hx4, oc, -⟩
  have K4 := Lib.hid (K3.out.trans' hx4)
  have OC := Lib.hid (show OwnI w4 vc (code A i) bc from oc)
  clear hx4 oc p0 p1 p2 q0 q1 q2
  obtain ⟨q0, q1, q2, -, -, -⟩ := row3_facts (row_ext RB.out K4.out)
  go_wp2
  clear q0 q1 q2
  go_loopg [8, 30] B.ends.length (fun g s i' wr => ∃ k : Nat, k ≤ B.ends.length ∧ g = B.ends.length - k ∧ i' = .int .i64 k ∧ Hid (Ext w4 wr ∧ GrowN w4.heap.size wr s (withCd B (code A i) k)))
  case atStart => exact ⟨0, Nat.zero_le _, rfl, rfl, Ext.rfl' _, GrowN.nil _ _⟩
  case round =>
    obtain ⟨k, hk, rfl, rfl, Hr⟩ := hrel
    by_cases hlt : k < B.ends.length
    · obtain ⟨q0, q1, q2, -, -, -⟩ := row3_facts (row_ext RB.out (K4.out.trans' Hr.out.1))
      have hcl := withCd_len B (code A i) k
      have SZ := Lib.hid Hr.out.1.size
      go_wp2_with fail
      (with_reducible refine (isFrom_any k hlt (HB.out.ext (EW.out.trans' (K4.out.trans' Hr.out.1))) GB.out).mono ?_)
      rintro e w5 ⟨vd, bd, rfl, hx5, od, -⟩
      have X5 := Lib.hid hx5
      have OD := Lib.hid (show OwnI w5 vd (code B k) bd from od)
      clear hx5 od q0 q1 q2
      by_cases he : code A (i : Int) = code B (k : Int)
      · have HE := Lib.hid (show decide (code A (i : Int) = code B (k : Int)) = true from decide_eq_true he)
        have HA' := Lib.hid (show withCd B (code A i) (k + 1) = withCd B (code A i) k ++ [(k : Int)] by simp only [withCd]; rw [if_pos he.symm])
        clear he
        go_wp2_with (first | (go_at_call 46; (with_reducible refine (l1Same_any (OC.out.ext (Hr.out.1.trans' X5.out)).read OD.out.read).mono ?_); rintro e w6 ⟨rfl, hx6⟩; rw [HE.out]; have X6 := Lib.hid (X5.out.trans' hx6); clear hx6) | (at_builtin; refine wpList_app2 rfl (.tmp 38) (.tmp 40) 23 rfl w4.heap.size 3 i0 (.int .i64 0) 1 8 Try.underlying23 I0.out.1 I0.out.2.1 I0.out.2.2.1 I0.out.2.2.2 rfl (by decide) _ (withCd B (code A i) k).length (intCells (withCd B (code A i) k)) rfl (Hr.out.2.ext (X6.out.alloc' _)) (some ⟨w6.heap.size, 0, none⟩) 1 1 (intCells [(k : Int)]) rfl (src_lits w6 [(k : Int)] 1 rfl 3) (by unfold maxLen; omega) (by omega) (by have := X6.out.size; have := SZ.out; simp; omega) ?_))
        intro v' w7 hg
        have FI := Lib.hid (show Ext w4 w7 ∧ GrowN w4.heap.size w7 v' (withCd B (code A i) k ++ [(k : Int)]) from ⟨grown_ext (Hr.out.1.trans' (X6.out.alloc' _)) (Nat.le_refl _) (Hr.out.2.ext (X6.out.alloc' _)) hg.1.2.1, GrowN.step hg.1 rfl⟩)
        clear hg
        go_wp2
        go_roundg (B.ends.length - (k + 1))
        case measure => omega
        case rel => exact ⟨k + 1, by omega, rfl, by go_num, FI.out.1, by rw [HA'.out]; exact FI.out.2⟩
      · have HE := Lib.hid (show decide (code A (i : Int) = code B (k : Int)) = false from decide_eq_false he)
        have HA' := Lib.hid (show withCd B (code A i) (k + 1) = withCd B (code A i) k by simp only [withCd]; rw [if_neg fun e => he e.symm])
        clear he
        go_wp2_with (first | (go_at_call 46; (with_reducible refine (l1Same_any (OC.out.ext (Hr.out.1.trans' X5.out)).read OD.out.read).mono ?_); rintro e w6 ⟨rfl, hx6⟩; rw [HE.out]; have X6 := Lib.hid (X5.out.trans' hx6); clear hx6) | fail)
        go_roundg (B.ends.length - (k + 1))
        case measure => omega
        case rel => exact ⟨k + 1, by omega, rfl, by go_num, Hr.out.1.trans' X6.out, by rw [HA'.out]; exact Hr.out.2.ext X6.out⟩
    · obtain rfl : k = B.ends.length := by omega
      go_wp2
      go_ret2
      obtain ⟨bs, ho, hn, hb⟩ := Hr.out.2.own fun j hj => by have := withCd_range B (code A i) _ j hj; unfold inI64; omega
      exact ⟨_, bs, ret_lb (dec_true HI.out).symm, (EW.out.trans' K4.out).trans' Hr.out.1, by rw [AN.out]; exact ho, hn, fun b hb' => by have := hb b hb'; have := (EW.out.trans' K4.out).size; omega⟩
end Go.Proofs.Ytcdfjckdkicggaa
