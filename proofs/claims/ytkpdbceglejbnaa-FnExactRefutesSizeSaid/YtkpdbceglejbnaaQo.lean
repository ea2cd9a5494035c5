/- The contracts of IsCovering. -/
import Derived.Test.YtkpdbceglejbnaaQj
namespace Go.Proofs.Ytkpdbceglejbnaa
open Go.RowKit Go.Maps

def CovAns (A B : Net) (m : List Int) : Prop := PmAns A B m ∧ Onto B m
theorem cntF_all {m : List Int} : ∀ k, cntF m k = k ↔ ∀ z : Nat, z < k → 0 < (fib m (z : Int)).length
  | 0 => by simp [cntF]
  | k + 1 => by
    have ih := cntF_all (m := m) k
    have hle := cntF_le m k
    simp only [cntF]
    split
    · rename_i h0
      constructor
      · intro h; omega
      · intro h; have := h k (by omega); omega
    · rename_i h0
      constructor
      · intro h z hz
        by_cases e : z = k
        · subst e; omega
        · exact ih.1 (by omega) z (by omega)
      · intro h
        have := ih.2 fun z hz => h z (by omega)
        omega

set_option maxHeartbeats 3200000 in
set_option maxRecDepth 100000 in
theorem specIsCovering_any {w : World} {va vb vm : Value} {A B : Net} {m : List Int} (h : NetAt w va A) (k : NetAt w vb B) (hf : IntSl w vm m) :
    Calls Try.prog 96 #[va, vb, vm] w fun e w' => e = .returned (.tuple #[.bool (dec (CovAns A B m)), .bool (dec (TwoG A B))]) ∧ Ext w w' := by
  have HA := Lib.hid h
  have HB := Lib.hid k
  have HF := Lib.hid hf
  obtain ⟨v0, v1, v2, rfl, -, -, -⟩ := h
  obtain ⟨u0, u1, u2, rfl, hEb, -, -⟩ := k
  obtain ⟨fa, fb, fo, fc, rfl, -, hfl, hfm, -⟩ := hEb
  unfold maxLen at hfm
  clear hf
  obtain ⟨W1, hW1⟩ : ∃ W1, W1 = (w.alloc (.cells #[v0, v1, v2] 34)).alloc (.cells #[.slice fa B.ends.length fc, u1, u2] 34) := ⟨_, rfl⟩
  have EW := Lib.hid (show Ext w W1 by rw [hW1]; exact (boxed_ext _ _ _ _ _).trans' (boxed_ext _ _ _ _ _))
  have RA := Lib.hid (show W1.rowIs w.heap.size 34 3 (tri v0 v1 v2) by rw [hW1]; exact (boxed_row _ _ _ _ _).alloc _)
  have RB := Lib.hid (show W1.rowIs (w.heap.size + 1) 34 3 (tri (.slice fa B.ends.length fc) u1 u2) by rw [hW1]; simpa using boxed_row (boxed w v0 v1 v2 34) (.slice fa B.ends.length fc) u1 u2 34)
  obtain ⟨p0, p1, p2, -, -, -⟩ := row3_facts RA.out
  obtain ⟨q0, q1, q2, -, -, -⟩ := row3_facts RB.out
  rw [hW1] at p0 p1 p2 q0 q1 q2
  by_cases ha : Good A
  case neg =>
    have DA := Lib.hid (dec_false ha)
    have D := Lib.hid (dec_false (p := TwoG A B) fun h => ha h.1)
    have E := Lib.hid (dec_false (p := CovAns A B m) fun h => ha h.1.two.1)
    clear ha
    go_enter Try.func96, Try.ntmps96
    go_wp2_with fail
    rw [← hW1]
    clear hW1 p0 p1 p2 q0 q1 q2
    (with_reducible refine (neGood_any (HA.out.ext EW.out)).mono ?_)
    rintro e w1 ⟨rfl, hx1⟩
    rw [DA.out]
    have K1 := Lib.hid (EW.out.trans' hx1)
    have X1 := Lib.hid hx1
    clear hx1
    go_wp2
    go_ret2
    exact ⟨ret_bb E.out.symm D.out.symm, K1.out⟩
  by_cases hb : Good B
  case neg =>
    have DA := Lib.hid (dec_true ha)
    have DB := Lib.hid (dec_false hb)
    have D := Lib.hid (dec_false (p := TwoG A B) fun h => hb h.2)
    have E := Lib.hid (dec_false (p := CovAns A B m) fun h => hb h.1.two.2)
    clear ha hb
    go_enter Try.func96, Try.ntmps96
    go_wp2_with fail
    rw [← hW1]
    clear hW1 p0 p1 p2 q0 q1 q2
    (with_reducible refine (neGood_any (HA.out.ext EW.out)).mono ?_)
    rintro e w1 ⟨rfl, hx1⟩
    rw [DA.out]
    have K1 := Lib.hid (EW.out.trans' hx1)
    have X1 := Lib.hid hx1
    clear hx1
    obtain ⟨q0, q1, q2, -, -, -⟩ := row3_facts (row_ext RB.out X1.out)
    go_wp2_with fail
    clear q0 q1 q2
    (with_reducible refine (neGood_any (HB.out.ext K1.out)).mono ?_)
    rintro e w2 ⟨rfl, hx2⟩
    rw [DB.out]
    have X2 := Lib.hid (X1.out.trans' hx2)
    have K2 := Lib.hid (K1.out.trans' hx2)
    clear hx2
    go_wp2
    go_ret2
    exact ⟨ret_bb E.out.symm D.out.symm, K2.out⟩
  have DA := Lib.hid (dec_true ha)
  have DB := Lib.hid (dec_true hb)
  have HGG := Lib.hid (show TwoG A B from ⟨ha, hb⟩)
  have D := Lib.hid (dec_true HGG.out)
  have GA := Lib.hid (good_w ha)
  have GB := Lib.hid (good_w hb)
  clear ha hb
  by_cases hp : PmOK A B m
  case neg =>
    have DP := Lib.hid (dec_false hp)
    have E := Lib.hid (dec_false (p := CovAns A B m) fun h => hp h.1.ok)
    clear hp
    go_enter Try.func96, Try.ntmps96
    go_wp2_with fail
    rw [← hW1]
    clear hW1 p0 p1 p2 q0 q1 q2
    (with_reducible refine (neGood_any (HA.out.ext EW.out)).mono ?_)
    rintro e w1 ⟨rfl, hx1⟩
    rw [DA.out]
    have K1 := Lib.hid (EW.out.trans' hx1)
    have X1 := Lib.hid hx1
    clear hx1
    obtain ⟨q0, q1, q2, -, -, -⟩ := row3_facts (row_ext RB.out X1.out)
    go_wp2_with fail
    clear q0 q1 q2
    (with_reducible refine (neGood_any (HB.out.ext K1.out)).mono ?_)
    rintro e w2 ⟨rfl, hx2⟩
    rw [DB.out]
    have X2 := Lib.hid (X1.out.trans' hx2)
    have K2 := Lib.hid (K1.out.trans' hx2)
    clear hx2
    obtain ⟨p0, p1, p2, -, -, -⟩ := row3_facts (row_ext RA.out X2.out)
    obtain ⟨q0, q1, q2, -, -, -⟩ := row3_facts (row_ext RB.out X2.out)
    go_wp2_with fail
    clear p0 p1 p2 q0 q1 q2
    (with_reducible refine (coMap_any (HA.out.ext K2.out) (HB.out.ext K2.out) (HF.out.ext K2.out) GA.out GB.out).mono ?_)
    rintro e w3 ⟨rfl, hx3⟩
    rw [DP.out]
    have K3 := Lib.hid (K2.out.trans' hx3)
    clear hx3
    go_wp2
    go_ret2
    exact ⟨ret_bb E.out.symm D.out.symm, K3.out⟩
  have DP := Lib.hid (dec_true hp)
  have HP := Lib.hid (show PmAns A B m from ⟨HGG.out, hp⟩)
  obtain ⟨h1, h2, h3⟩ := fib_small HP.out
  have E := Lib.hid (show dec (Onto B m) = dec (CovAns A B m) from dec_congr ⟨fun h => ⟨HP.out, h⟩, fun h => h.2⟩)
  clear hp
  go_enter Try.func96, Try.ntmps96
  go_wp2_with fail
  rw [← hW1]
  clear hW1 p0 p1 p2 q0 q1 q2
  (with_reducible refine (neGood_any (HA.out.ext EW.out)).mono ?_)
  rintro e w1 ⟨rfl, hx1⟩
  rw [DA.out]
  have K1 := Lib.hid (EW.out.trans' hx1)
  have X1 := Lib.hid hx1
  clear hx1
  obtain ⟨q0, q1, q2, -, -, -⟩ := row3_facts (row_ext RB.out X1.out)
  go_wp2_with fail
  clear q0 q1 q2
  (with_reducible refine (neGood_any (HB.out.ext K1.out)).mono ?_)
  rintro e w2 ⟨rfl, hx2⟩
  rw [DB.out]
  have X2 := Lib.hid (X1.out.trans' hx2)
  have K2 := Lib.hid (K1.out.trans' hx2)
  clear hx2
  obtain ⟨p0, p1, p2, -, -, -⟩ := row3_facts (row_ext RA.out X2.out)
  obtain ⟨q0, q1, q2, -, -, -⟩ := row3_facts (row_ext RB.out X2.out)
  go_wp2_with fail
  clear p0 p1 p2 q0 q1 q2
  (with_reducible refine (coMap_any (HA.out.ext K2.out) (HB.out.ext K2.out) (HF.out.ext K2.out) GA.out GB.out).mono ?_)
  rintro e w3 ⟨rfl, hx3⟩
  rw [DP.out]
  have X3 := Lib.hid (X2.out.trans' hx3)
  have K3 := Lib.hid (K2.out.trans' hx3)
  clear hx3
  obtain ⟨q0, q1, q2, -, -, -⟩ := row3_facts (row_ext RB.out X3.out)
  go_wp2_with fail
  clear q0 q1 q2
  (with_reducible refine (coOnto_any (HB.out.ext K3.out) (HF.out.ext K3.out) (pm_in HP.out.ok) (by omega) (by omega)).mono ?_)
  rintro e w4 ⟨rfl, hx4⟩
  rw [E.out]
  have K4 := Lib.hid (K3.out.trans' hx4)
  clear hx4
  go_wp2
  go_ret2
  exact ⟨ret_bb rfl D.out.symm, K4.out⟩

set_option maxHeartbeats 3200000 in
set_option maxRecDepth 100000 in
theorem isCovering_any {w : World} {va vb vm : Value} {A B : Net} {m : List Int} (h : NetAt w va A) (k : NetAt w vb B) (hf : IntSl w vm m) :
    Calls Try.prog 97 #[va, vb, vm] w fun e w' => e = .returned (.tuple #[.bool (dec (CovAns A B m)), .bool (dec (TwoG A B))]) ∧ Ext w w' := by
  have HA := Lib.hid h
  have HB := Lib.hid k
  have HF := Lib.hid hf
  obtain ⟨v0, v1, v2, rfl, -, -, -⟩ := h
  obtain ⟨u0, u1, u2, rfl, hEb, -, -⟩ := k
  obtain ⟨fa, fb, fo, fc, rfl, -, hfl, hfm, -⟩ := hEb
  unfold maxLen at hfm
  clear hf
  obtain ⟨W1, hW1⟩ : ∃ W1, W1 = (w.alloc (.cells #[v0, v1, v2] 34)).alloc (.cells #[.slice fa B.ends.length fc, u1, u2] 34) := ⟨_, rfl⟩
  have EW := Lib.hid (show Ext w W1 by rw [hW1]; exact (boxed_ext _ _ _ _ _).trans' (boxed_ext _ _ _ _ _))
  have RA := Lib.hid (show W1.rowIs w.heap.size 34 3 (tri v0 v1 v2) by rw [hW1]; exact (boxed_row _ _ _ _ _).alloc _)
  have RB := Lib.hid (show W1.rowIs (w.heap.size + 1) 34 3 (tri (.slice fa B.ends.length fc) u1 u2) by rw [hW1]; simpa using boxed_row (boxed w v0 v1 v2 34) (.slice fa B.ends.length fc) u1 u2 34)
  obtain ⟨p0, p1, p2, -, -, -⟩ := row3_facts RA.out
  obtain ⟨q0, q1, q2, -, -, -⟩ := row3_facts RB.out
  rw [hW1] at p0 p1 p2 q0 q1 q2
  go_enter Try.func97, Try.ntmps97
  go_wp2_with fail
  rw [← hW1]
  clear hW1 p0 p1 p2 q0 q1 q2
  (with_reducible refine (fibresUnder_any (HA.out.ext EW.out) (HB.out.ext EW.out) (HF.out.ext EW.out)).mono ?_)
  rintro e w1 (⟨hp, b, R, rfl, hx1, hM⟩ | ⟨hp, rfl, hx1⟩)
  case inr =>
    have K1 := Lib.hid (EW.out.trans' hx1)
    have E := Lib.hid (dec_false (p := CovAns A B m) fun h => hp h.1)
    obtain ⟨p0, p1, p2, -, -, -⟩ := row3_facts (row_ext RA.out hx1)
    obtain ⟨q0, q1, q2, -, -, -⟩ := row3_facts (row_ext RB.out hx1)
    have P0 : ∀ x' : Wx w1, x'.w.cell? ⟨w.heap.size, 0, none⟩ = some v0 := fun x' => x'.ok.cell' p0
    have P1 : ∀ x' : Wx w1, x'.w.cell? ⟨w.heap.size, 1, none⟩ = some v1 := fun x' => x'.ok.cell' p1
    have P2 : ∀ x' : Wx w1, x'.w.cell? ⟨w.heap.size, 2, none⟩ = some v2 := fun x' => x'.ok.cell' p2
    have Q0 : ∀ x' : Wx w1, x'.w.cell? ⟨w.heap.size + 1, 0, none⟩ = some (.slice fa B.ends.length fc) := fun x' => x'.ok.cell' q0
    have Q1 : ∀ x' : Wx w1, x'.w.cell? ⟨w.heap.size + 1, 1, none⟩ = some u1 := fun x' => x'.ok.cell' q1
    have Q2 : ∀ x' : Wx w1, x'.w.cell? ⟨w.heap.size + 1, 2, none⟩ = some u2 := fun x' => x'.ok.cell' q2
    clear p0 p1 p2 q0 q1 q2
    clear hx1 hp
    by_cases ha : Good A
    · have DA := Lib.hid (dec_true ha)
      by_cases hb : Good B
      · have DB := Lib.hid (dec_true hb)
        have D := Lib.hid (dec_true (p := TwoG A B) ⟨ha, hb⟩)
        clear ha hb
        go_wp2_with fail
        refine wp_region_ext (by kernel_rfl) (by kernel_rfl) ?_
        repeat (go_big_quiet_step (first | (go_at_call_of 73 (Value.agg #[v0, v1, v2]); exact in_ext_bool (isNetwork_any (HA.out.ext (K1.out.trans' (Wx.ok _)))) DA.out) | (go_at_call_of 73 (Value.agg #[.slice fa B.ends.length fc, u1, u2]); exact in_ext_bool (isNetwork_any (HB.out.ext (K1.out.trans' (Wx.ok _)))) DB.out)))
        refine wpQuiet_nil ?_
        rintro wq ⟨⟨_, hq⟩, rfl⟩
        have EQ := Lib.hid (K1.out.trans' hq)
        clear hq
        go_wp2
        go_ret2
        exact ⟨ret_bb E.out.symm D.out.symm, EQ.out⟩
      · have DB := Lib.hid (dec_false hb)
        have D := Lib.hid (dec_false (p := TwoG A B) fun h => hb h.2)
        clear ha hb
        go_wp2_with fail
        refine wp_region_ext (by kernel_rfl) (by kernel_rfl) ?_
        repeat (go_big_quiet_step (first | (go_at_call_of 73 (Value.agg #[v0, v1, v2]); exact in_ext_bool (isNetwork_any (HA.out.ext (K1.out.trans' (Wx.ok _)))) DA.out) | (go_at_call_of 73 (Value.agg #[.slice fa B.ends.length fc, u1, u2]); exact in_ext_bool (isNetwork_any (HB.out.ext (K1.out.trans' (Wx.ok _)))) DB.out)))
        refine wpQuiet_nil ?_
        rintro wq ⟨⟨_, hq⟩, rfl⟩
        have EQ := Lib.hid (K1.out.trans' hq)
        clear hq
        go_wp2
        go_ret2
        exact ⟨ret_bb E.out.symm D.out.symm, EQ.out⟩
    · have DA := Lib.hid (dec_false ha)
      have DB := Lib.hid (show dec (Good B) = dec (Good B) from rfl)
      have D := Lib.hid (dec_false (p := TwoG A B) fun h => ha h.1)
      clear ha
      go_wp2_with fail
      refine wp_region_ext (by kernel_rfl) (by kernel_rfl) ?_
      repeat (go_big_quiet_step (first | (go_at_call_of 73 (Value.agg #[v0, v1, v2]); exact in_ext_bool (isNetwork_any (HA.out.ext (K1.out.trans' (Wx.ok _)))) DA.out) | (go_at_call_of 73 (Value.agg #[.slice fa B.ends.length fc, u1, u2]); exact in_ext_bool (isNetwork_any (HB.out.ext (K1.out.trans' (Wx.ok _)))) DB.out)))
      refine wpQuiet_nil ?_
      rintro wq ⟨⟨_, hq⟩, rfl⟩
      have EQ := Lib.hid (K1.out.trans' hq)
      clear hq
      go_wp2
      go_ret2
      exact ⟨ret_bb E.out.symm D.out.symm, EQ.out⟩
  have K1 := Lib.hid (EW.out.trans' hx1)
  have HP := Lib.hid hp
  have DA := Lib.hid (dec_true hp.two.1)
  have DB := Lib.hid (dec_true hp.two.2)
  have D := Lib.hid (dec_true (p := TwoG A B) hp.two)
  have M := Lib.hid hM
  obtain ⟨p0, p1, p2, -, -, -⟩ := row3_facts (row_ext RA.out hx1)
  obtain ⟨q0, q1, q2, -, -, -⟩ := row3_facts (row_ext RB.out hx1)
  have P0 : ∀ x' : Wx w1, x'.w.cell? ⟨w.heap.size, 0, none⟩ = some v0 := fun x' => x'.ok.cell' p0
  have P1 : ∀ x' : Wx w1, x'.w.cell? ⟨w.heap.size, 1, none⟩ = some v1 := fun x' => x'.ok.cell' p1
  have P2 : ∀ x' : Wx w1, x'.w.cell? ⟨w.heap.size, 2, none⟩ = some v2 := fun x' => x'.ok.cell' p2
  have Q0 : ∀ x' : Wx w1, x'.w.cell? ⟨w.heap.size + 1, 0, none⟩ = some (.slice fa B.ends.length fc) := fun x' => x'.ok.cell' q0
  have Q1 : ∀ x' : Wx w1, x'.w.cell? ⟨w.heap.size + 1, 1, none⟩ = some u1 := fun x' => x'.ok.cell' q1
  have Q2 : ∀ x' : Wx w1, x'.w.cell? ⟨w.heap.size + 1, 2, none⟩ = some u2 := fun x' => x'.ok.cell' q2
  clear p0 p1 p2 q0 q1 q2
  clear hx1 hp hM
  obtain ⟨c, hc⟩ : ∃ c, c = cntF m B.ends.length := ⟨_, rfl⟩
  have HL : ∀ (ty : TypeId) (x' : Wx w1), (Builtin.len_ #[150] ty #[.map (some b)]).run Try.prog x'.w = .ok (.int .i64 c) x'.w := fun ty x' => by
    obtain ⟨n, hn⟩ := M.out.map
    rw [hc]
    exact MapV.len (hn.ext x'.ok) Try.underlying150 ty
  have HC := Lib.hid hc
  clear hc
  by_cases ho : c = B.ends.length
  · have hob : ((c : Int) == (B.ends.length : Int)) = true := by simp; omega
    have E := Lib.hid (dec_true (p := CovAns A B m) ⟨HP.out, (cntF_all _).1 (by rw [← HC.out]; exact ho)⟩)
    clear ho
    go_wp2_with fail
    refine wp_region_ext (by kernel_rfl) (by kernel_rfl) ?_
    repeat (go_big_quiet_step (first | (go_at_call_of 73 (Value.agg #[v0, v1, v2]); exact in_ext_bool (isNetwork_any (HA.out.ext (K1.out.trans' (Wx.ok _)))) DA.out) | (go_at_call_of 73 (Value.agg #[.slice fa B.ends.length fc, u1, u2]); exact in_ext_bool (isNetwork_any (HB.out.ext (K1.out.trans' (Wx.ok _)))) DB.out)))
    refine wpQuiet_nil ?_
    rintro wq ⟨⟨_, hq⟩, rfl⟩
    have EQ := Lib.hid (K1.out.trans' hq)
    clear hq
    go_wp2
    go_ret2
    exact ⟨ret_bb E.out.symm D.out.symm, EQ.out⟩
  · have hob : ((c : Int) == (B.ends.length : Int)) = false := beq_eq_false_iff_ne.2 (by omega)
    have E := Lib.hid (dec_false (p := CovAns A B m) fun h => ho (by rw [HC.out]; exact (cntF_all _).2 h.2))
    clear ho
    go_wp2_with fail
    refine wp_region_ext (by kernel_rfl) (by kernel_rfl) ?_
    repeat (go_big_quiet_step (first | (go_at_call_of 73 (Value.agg #[v0, v1, v2]); exact in_ext_bool (isNetwork_any (HA.out.ext (K1.out.trans' (Wx.ok _)))) DA.out) | (go_at_call_of 73 (Value.agg #[.slice fa B.ends.length fc, u1, u2]); exact in_ext_bool (isNetwork_any (HB.out.ext (K1.out.trans' (Wx.ok _)))) DB.out)))
    refine wpQuiet_nil ?_
    rintro wq ⟨⟨_, hq⟩, rfl⟩
    have EQ := Lib.hid (K1.out.trans' hq)
    clear hq
    go_wp2
    go_ret2
    exact ⟨ret_bb E.out.symm D.out.symm, EQ.out⟩

theorem isCoveringL_any {w : World} {va vb vm : Value} {A B : Net} {m : List Int} (h : NetAt w va A) (k : NetAt w vb B) (hf : IntSl w vm m) (_ : m.length ≤ 1048576) :
    Calls Try.prog 97 #[va, vb, vm] w fun e w' => e = .returned (.tuple #[.bool (dec (CovAns A B m)), .bool (dec (TwoG A B))]) ∧ Ext w w' := isCovering_any h k hf
theorem specIsCoveringL_any {w : World} {va vb vm : Value} {A B : Net} {m : List Int} (h : NetAt w va A) (k : NetAt w vb B) (hf : IntSl w vm m) (_ : m.length ≤ 1048576) :
    Calls Try.prog 96 #[va, vb, vm] w fun e w' => e = .returned (.tuple #[.bool (dec (CovAns A B m)), .bool (dec (TwoG A B))]) ∧ Ext w w' := specIsCovering_any h k hf
end Go.Proofs.Ytkpdbceglejbnaa
