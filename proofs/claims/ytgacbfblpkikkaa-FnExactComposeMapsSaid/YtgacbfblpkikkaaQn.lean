/- The contracts of ComposeMaps. -/
import Derived.Test.YtgacbfblpkikkaaQk
namespace Go.Proofs.Ytgacbfblpkikkaa
open Go.RowKit Go.Maps

def CmpB (A B C : Net) (f g : List Int) : Prop := PmAns A B f ∧ PmAns B C g
noncomputable def cmpAns (A B C : Net) (f g : List Int) : List Int := if dec (CmpB A B C f g) = true then thr g f else []
theorem cmpAns_t {A B C : Net} {f g : List Int} (h : CmpB A B C f g) : cmpAns A B C f g = thr g f := by unfold cmpAns; rw [if_pos (dec_true h)]
theorem cmpAns_f {A B C : Net} {f g : List Int} (h : ¬ CmpB A B C f g) : cmpAns A B C f g = [] := by unfold cmpAns; rw [if_neg (by rw [dec_false h]; simp)]
theorem cmpAns_len (A B C : Net) (f g : List Int) : (cmpAns A B C f g).length ≤ 1048576 := by
  by_cases h : CmpB A B C f g
  · rw [cmpAns_t h, length_thr]; have := (fib_small h.1).1; omega
  · rw [cmpAns_f h]; simp
theorem CmpB.in {A B C : Net} {f g : List Int} (h : CmpB A B C f g) : ImIn f g.length := by
  have := h.2.ok.1
  rw [this]; exact pm_in h.1.ok

set_option maxHeartbeats 3200000 in
set_option maxRecDepth 100000 in
theorem composeMaps_any {w : World} {va vb vc vf vg : Value} {A B C : Net} {f g : List Int} (h : NetAt w va A) (k : NetAt w vb B) (j : NetAt w vc C) (hf : IntSl w vf f) (hg : IntSl w vg g) :
    Calls Try.prog 45 #[va, vb, vc, vf, vg] w fun e w' => ∃ v' bs, e = .returned (.tuple #[v', .bool (dec (CmpB A B C f g))]) ∧ Ext w w' ∧ OwnI w' v' (cmpAns A B C f g) bs ∧ Fresh w bs := by
  have HF := Lib.hid hf
  have HG := Lib.hid hg
  clear hf hg
  have HA := Lib.hid h
  have HB := Lib.hid k
  have HC := Lib.hid j
  obtain ⟨v0, v1, v2, rfl, -, -, -⟩ := h
  obtain ⟨u0, u1, u2, rfl, -, -, -⟩ := k
  obtain ⟨t0, t1, t2, rfl, -, -, -⟩ := j
  obtain ⟨W1, hW1⟩ : ∃ W1, W1 = ((w.alloc (.cells #[v0, v1, v2] 29)).alloc (.cells #[u0, u1, u2] 29)).alloc (.cells #[t0, t1, t2] 29) := ⟨_, rfl⟩
  have EW := Lib.hid (show Ext w W1 by rw [hW1]; exact ((boxed_ext _ _ _ _ _).trans' (boxed_ext _ _ _ _ _)).trans' (boxed_ext _ _ _ _ _))
  have RA := Lib.hid (show W1.rowIs w.heap.size 29 3 (tri v0 v1 v2) by rw [hW1]; exact ((boxed_row _ _ _ _ _).alloc _).alloc _)
  have RB := Lib.hid (show W1.rowIs (w.heap.size + 1) 29 3 (tri u0 u1 u2) by rw [hW1]; exact World.rowIs.alloc (by simpa using boxed_row (boxed w v0 v1 v2 29) u0 u1 u2 29) _)
  have RC := Lib.hid (show W1.rowIs (w.heap.size + 1 + 1) 29 3 (tri t0 t1 t2) by rw [hW1]; simpa using boxed_row (boxed (boxed w v0 v1 v2 29) u0 u1 u2 29) t0 t1 t2 29)
  obtain ⟨p0, p1, p2, -, -, -⟩ := row3_facts RA.out
  obtain ⟨q0, q1, q2, -, -, -⟩ := row3_facts RB.out
  obtain ⟨s0, s1, s2, -, -, -⟩ := row3_facts RC.out
  rw [hW1] at p0 p1 p2 q0 q1 q2 s0 s1 s2
  by_cases hp : PmAns B C g
  case neg =>
    have D := Lib.hid (dec_false hp)
    have E := Lib.hid (show ¬ CmpB A B C f g from fun h => hp h.2)
    clear hp
    go_enter Try.func45, Try.ntmps45
    go_wp2_with fail
    rw [← hW1]
    clear hW1 p0 p1 p2 q0 q1 q2 s0 s1 s2
    (with_reducible refine (keepsPorts_any (HB.out.ext EW.out) (HC.out.ext EW.out) (HG.out.ext EW.out)).mono ?_)
    rintro e w1 ⟨rfl, hx1⟩
    have K1 := Lib.hid (EW.out.trans' hx1)
    rw [D.out]
    clear hx1
    go_wp2
    go_ret2
    exact ⟨_, [], ret_mb (dec_false E.out).symm, K1.out, by rw [cmpAns_f E.out]; exact own_nilI _, Fresh.nil _⟩
  have D := Lib.hid (dec_true hp)
  have HP := Lib.hid hp
  clear hp
  go_enter Try.func45, Try.ntmps45
  go_wp2_with fail
  rw [← hW1]
  clear hW1 p0 p1 p2 q0 q1 q2 s0 s1 s2
  (with_reducible refine (keepsPorts_any (HB.out.ext EW.out) (HC.out.ext EW.out) (HG.out.ext EW.out)).mono ?_)
  rintro e w1 ⟨rfl, hx1⟩
  have K1 := Lib.hid (EW.out.trans' hx1)
  rw [D.out]
  obtain ⟨p0, p1, p2, -, -, -⟩ := row3_facts (row_ext RA.out hx1)
  obtain ⟨q0, q1, q2, -, -, -⟩ := row3_facts (row_ext RB.out hx1)
  clear hx1
  go_wp2_with fail
  (with_reducible refine (pullNodes_any (HA.out.ext K1.out) (HB.out.ext K1.out) (HF.out.ext K1.out) (HG.out.ext K1.out)).mono ?_)
  rintro e w2 ⟨v', bs, rfl, hx2, ho, hfr⟩
  have K2 := Lib.hid (K1.out.trans' hx2)
  have HO := Lib.hid ho
  have HFR := Lib.hid (hfr.of K1.out.size)
  clear hx2 ho hfr p0 p1 p2 q0 q1 q2
  have HE := Lib.hid (show PullB A B f g ↔ CmpB A B C f g from ⟨fun h => ⟨h.1, HP.out⟩, fun h => ⟨h.1, HP.out.ok.1⟩⟩)
  have HQ := Lib.hid (show pullAns A B f g = cmpAns A B C f g by unfold pullAns cmpAns; rw [dec_congr HE.out])
  go_wp2
  go_ret2
  exact ⟨_, bs, ret_mb (dec_congr HE.out), K2.out, by rw [← HQ.out]; exact HO.out, HFR.out⟩

set_option maxHeartbeats 3200000 in
set_option maxRecDepth 100000 in
theorem specComposeMaps_any {w : World} {va vb vc vf vg : Value} {A B C : Net} {f g : List Int} (h : NetAt w va A) (k : NetAt w vb B) (j : NetAt w vc C) (hf : IntSl w vf f) (hg : IntSl w vg g) :
    Calls Try.prog 44 #[va, vb, vc, vf, vg] w fun e w' => ∃ v' bs, e = .returned (.tuple #[v', .bool (dec (CmpB A B C f g))]) ∧ Ext w w' ∧ OwnI w' v' (cmpAns A B C f g) bs ∧ Fresh w bs := by
  have HF := Lib.hid hf
  have HG := Lib.hid hg
  clear hf hg
  have HA := Lib.hid h
  have HB := Lib.hid k
  have HC := Lib.hid j
  obtain ⟨v0, v1, v2, rfl, -, -, -⟩ := h
  obtain ⟨u0, u1, u2, rfl, -, -, -⟩ := k
  obtain ⟨t0, t1, t2, rfl, -, -, -⟩ := j
  obtain ⟨W1, hW1⟩ : ∃ W1, W1 = ((w.alloc (.cells #[v0, v1, v2] 29)).alloc (.cells #[u0, u1, u2] 29)).alloc (.cells #[t0, t1, t2] 29) := ⟨_, rfl⟩
  have EW := Lib.hid (show Ext w W1 by rw [hW1]; exact ((boxed_ext _ _ _ _ _).trans' (boxed_ext _ _ _ _ _)).trans' (boxed_ext _ _ _ _ _))
  have RA := Lib.hid (show W1.rowIs w.heap.size 29 3 (tri v0 v1 v2) by rw [hW1]; exact ((boxed_row _ _ _ _ _).alloc _).alloc _)
  have RB := Lib.hid (show W1.rowIs (w.heap.size + 1) 29 3 (tri u0 u1 u2) by rw [hW1]; exact World.rowIs.alloc (by simpa using boxed_row (boxed w v0 v1 v2 29) u0 u1 u2 29) _)
  have RC := Lib.hid (show W1.rowIs (w.heap.size + 1 + 1) 29 3 (tri t0 t1 t2) by rw [hW1]; simpa using boxed_row (boxed (boxed w v0 v1 v2 29) u0 u1 u2 29) t0 t1 t2 29)
  obtain ⟨p0, p1, p2, -, -, -⟩ := row3_facts RA.out
  obtain ⟨q0, q1, q2, -, -, -⟩ := row3_facts RB.out
  obtain ⟨s0, s1, s2, -, -, -⟩ := row3_facts RC.out
  rw [hW1] at p0 p1 p2 q0 q1 q2 s0 s1 s2
  by_cases hp : PmAns A B f
  case neg =>
    have D := Lib.hid (dec_false hp)
    have E := Lib.hid (show ¬ CmpB A B C f g from fun h => hp h.1)
    clear hp
    go_enter Try.func44, Try.ntmps44
    go_wp2_with fail
    rw [← hW1]
    clear hW1 p0 p1 p2 q0 q1 q2 s0 s1 s2
    (with_reducible refine (coAsked_any (HA.out.ext EW.out) (HB.out.ext EW.out) (HF.out.ext EW.out)).mono ?_)
    rintro e w1 ⟨rfl, hx1⟩
    have K1 := Lib.hid (EW.out.trans' hx1)
    rw [D.out]
    clear hx1
    go_wp2
    go_ret2
    exact ⟨_, [], ret_mb (dec_false E.out).symm, K1.out, by rw [cmpAns_f E.out]; exact own_nilI _, Fresh.nil _⟩
  have D := Lib.hid (dec_true hp)
  have HP := Lib.hid hp
  clear hp
  by_cases hp : PmAns B C g
  case neg =>
    have D2 := Lib.hid (dec_false hp)
    have E := Lib.hid (show ¬ CmpB A B C f g from fun h => hp h.2)
    clear hp
    go_enter Try.func44, Try.ntmps44
    go_wp2_with fail
    rw [← hW1]
    clear hW1 p0 p1 p2 q0 q1 q2 s0 s1 s2
    (with_reducible refine (coAsked_any (HA.out.ext EW.out) (HB.out.ext EW.out) (HF.out.ext EW.out)).mono ?_)
    rintro e w0 ⟨rfl, hx1⟩
    have K0 := Lib.hid (EW.out.trans' hx1)
    rw [D.out]
    obtain ⟨q0, q1, q2, -, -, -⟩ := row3_facts (row_ext RB.out hx1)
    obtain ⟨s0, s1, s2, -, -, -⟩ := row3_facts (row_ext RC.out hx1)
    clear hx1
    go_wp2_with fail
    (with_reducible refine (coAsked_any (HB.out.ext K0.out) (HC.out.ext K0.out) (HG.out.ext K0.out)).mono ?_)
    rintro e w1 ⟨rfl, hx1⟩
    have K1 := Lib.hid (K0.out.trans' hx1)
    rw [D2.out]
    clear hx1 q0 q1 q2 s0 s1 s2
    go_wp2
    go_ret2
    exact ⟨_, [], ret_mb (dec_false E.out).symm, K1.out, by rw [cmpAns_f E.out]; exact own_nilI _, Fresh.nil _⟩
  have D2 := Lib.hid (dec_true hp)
  have E := Lib.hid (show CmpB A B C f g from ⟨HP.out, hp⟩)
  have hl40 := (fib_small HP.out).1
  clear hp
  go_enter Try.func44, Try.ntmps44
  go_wp2_with fail
  rw [← hW1]
  clear hW1 p0 p1 p2 q0 q1 q2 s0 s1 s2
  (with_reducible refine (coAsked_any (HA.out.ext EW.out) (HB.out.ext EW.out) (HF.out.ext EW.out)).mono ?_)
  rintro e w0 ⟨rfl, hx1⟩
  have K0 := Lib.hid (EW.out.trans' hx1)
  rw [D.out]
  obtain ⟨q0, q1, q2, -, -, -⟩ := row3_facts (row_ext RB.out hx1)
  obtain ⟨s0, s1, s2, -, -, -⟩ := row3_facts (row_ext RC.out hx1)
  clear hx1
  go_wp2_with fail
  (with_reducible refine (coAsked_any (HB.out.ext K0.out) (HC.out.ext K0.out) (HG.out.ext K0.out)).mono ?_)
  rintro e w1 ⟨rfl, hx1⟩
  have K1 := Lib.hid (K0.out.trans' hx1)
  rw [D2.out]
  clear hx1 q0 q1 q2 s0 s1 s2
  go_wp2_with fail
  (with_reducible refine (coThrough_any (HG.out.ext K1.out) (HF.out.ext K1.out) E.out.in (by omega)).mono ?_)
  rintro e w2 ⟨v', bs, rfl, hx2, ho, hfr⟩
  have K2 := Lib.hid (K1.out.trans' hx2)
  have HO := Lib.hid ho
  have HFR := Lib.hid (hfr.of K1.out.size)
  clear hx2 ho hfr
  go_wp2
  go_ret2
  exact ⟨_, bs, ret_mb (dec_true E.out).symm, K2.out, by rw [cmpAns_t E.out]; exact HO.out, HFR.out⟩

theorem composeMapsL_any {w : World} {va vb vc vf vg : Value} {A B C : Net} {f g : List Int} (h : NetAt w va A) (k : NetAt w vb B) (j : NetAt w vc C) (hf : IntSl w vf f) (_ : f.length ≤ 1048576) (hg : IntSl w vg g) (_ : g.length ≤ 1048576) :
    Calls Try.prog 45 #[va, vb, vc, vf, vg] w fun e w' => ∃ v' bs, e = .returned (.tuple #[v', .bool (dec (CmpB A B C f g))]) ∧ Ext w w' ∧ OwnI w' v' (cmpAns A B C f g) bs ∧ Fresh w bs := composeMaps_any h k j hf hg
theorem specComposeMapsL_any {w : World} {va vb vc vf vg : Value} {A B C : Net} {f g : List Int} (h : NetAt w va A) (k : NetAt w vb B) (j : NetAt w vc C) (hf : IntSl w vf f) (_ : f.length ≤ 1048576) (hg : IntSl w vg g) (_ : g.length ≤ 1048576) :
    Calls Try.prog 44 #[va, vb, vc, vf, vg] w fun e w' => ∃ v' bs, e = .returned (.tuple #[v', .bool (dec (CmpB A B C f g))]) ∧ Ext w w' ∧ OwnI w' v' (cmpAns A B C f g) bs ∧ Fresh w bs := specComposeMaps_any h k j hf hg
end Go.Proofs.Ytgacbfblpkikkaa
