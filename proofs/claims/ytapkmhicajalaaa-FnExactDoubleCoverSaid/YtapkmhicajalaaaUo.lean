/- The contract of the program's UnionOf. -/
import Derived.Test.YtapkmhicajalaaaSs
namespace Go.Proofs.Ytapkmhicajalaaa
open Go.RowKit

set_option maxHeartbeats 3200000 in
set_option maxRecDepth 100000 in
theorem unionOf_any {w : World} {v u : Value} {A B : Net} (h : NetAt w v A) (k : NetAt w u B) :
    Calls Try.prog 45 #[v, u] w fun e w' => ∃ v' bs, e = .returned (.tuple #[v', .bool (dec (UnionB A B))]) ∧ Ext w w' ∧ OwnNet w' v' (unionAns A B) bs ∧ Fresh w bs := by
  have HA := Lib.hid h
  have HB := Lib.hid k
  obtain ⟨v0, v1, v2, rfl, hE, hI, hP⟩ := h
  obtain ⟨av, _, _, cv, rfl, -, -, cvm, -⟩ := hE
  obtain ⟨ia, _, _, ic, rfl, -, -, icm, -⟩ := hI
  clear hP
  obtain ⟨u0, u1, u2, rfl, hE, hI, hP⟩ := k
  have HIB := Lib.hid hI
  have HPB := Lib.hid hP
  have HIr := Lib.hid hI.range
  have HPr := Lib.hid hP.range
  obtain ⟨bi, _, _, ci, rfl, -, -, cim, -⟩ := hI
  obtain ⟨bp, _, _, cp, rfl, -, -, cpm, -⟩ := hP
  obtain ⟨bu, eb, eo, cu, rfl, ha, hl, hm, hc⟩ := hE
  unfold maxLen at icm cvm cim cpm hm
  have Hc := Lib.hid hc
  have Ha := Lib.hid ha
  clear hc ha
  obtain ⟨i3, hi, hz0, hz1, hz2⟩ := info_parts Try.info3
  obtain ⟨i44, hj, hy0, hy1, hy2⟩ := info_parts Try.info44
  obtain ⟨i70, hk, hx0, hx1, hx2⟩ := info_parts Try.info70
  have I3 := Lib.hid (And.intro hi (And.intro hz0 (And.intro hz1 hz2)))
  have I44 := Lib.hid (And.intro hj (And.intro hy0 (And.intro hy1 hy2)))
  have I70 := Lib.hid (And.intro hk (And.intro hx0 (And.intro hx1 hx2)))
  clear hi hz0 hz1 hz2 hj hy0 hy1 hy2 hk hx0 hx1 hx2
  obtain ⟨W0, hW0⟩ : ∃ W0, W0 = (((boxed (boxed w (.slice av A.ends.length cv) (.slice ia A.ids.length ic) v2 31) (.slice bu B.ends.length cu) (.slice bi B.ids.length ci) (.slice bp B.inputs.length cp) 31).alloc (.cells #[.slice none 0 0, .slice none 0 0, .slice none 0 0] 31))) := ⟨_, rfl⟩
  have EW : Hid (Ext w W0) := by rw [hW0]; exact ((boxed_ext _ _ _ _ _).trans' (boxed_ext _ _ _ _ _)).alloc' _
  have RA : Hid (W0.rowIs w.heap.size 31 3 (tri (.slice av A.ends.length cv) (.slice ia A.ids.length ic) v2)) := by rw [hW0]; exact ((boxed_row _ _ _ _ _).alloc _).alloc _
  have RB : Hid (W0.rowIs (w.heap.size + 1) 31 3 (tri (.slice bu B.ends.length cu) (.slice bi B.ids.length ci) (.slice bp B.inputs.length cp))) := by rw [hW0]; exact (show World.rowIs _ _ _ _ _ by simpa using boxed_row (boxed w (.slice av A.ends.length cv) (.slice ia A.ids.length ic) v2 31) (.slice bu B.ends.length cu) (.slice bi B.ids.length ci) (.slice bp B.inputs.length cp) 31).alloc _
  have RQ := Lib.hid (show W0.rowIs (w.heap.size + 2) 31 3 (tri (.slice none 0 0) (.slice none 0 0) (.slice none 0 0)) from (show W0.rowIs (w.heap.size + 1 + 1) 31 3 (tri (.slice none 0 0) (.slice none 0 0) (.slice none 0 0)) by rw [hW0]; simpa using row3_made (boxed (boxed w (.slice av A.ends.length cv) (.slice ia A.ids.length ic) v2 31) (.slice bu B.ends.length cu) (.slice bi B.ids.length ci) (.slice bp B.inputs.length cp) 31) (.slice none 0 0) (.slice none 0 0) (.slice none 0 0) 31))
  have hW0s : w.heap.size + 3 = W0.heap.size := by rw [hW0]; simp
  have ZW := Lib.hid hW0s
  clear hW0s
  by_cases hA : Good A
  case neg =>
    have G := Lib.hid (dec_false hA)
    have D : Hid (dec (UnionB A B) = false) := dec_false fun j => hA j.1
    have E : Hid (unionAns A B = zeroNet) := unionAns_f fun j => hA j.1
    clear hA
    go_enter Try.func45, Try.ntmps45
    go_wp2_with fail
    rw [← hW0]
    clear hW0
    (with_reducible refine (isNetwork_any (HA.out.ext EW.out)).mono ?_)
    rintro e w1 ⟨rfl, hw⟩
    rw [G.out]
    have X1 := Lib.hid hw
    obtain ⟨q0, q1, q2, t0, t1, t2⟩ := row3_facts (row_ext RQ.out hw)
    clear hw
    go_wp2
    refine bodyPost_ret (v := .tuple #[znet, .bool false]) (by simp [results, Try.results45, go_sem, q0, q1, q2, znet]) rfl ⟨_, [], ret_net D.out.symm, store3_ext (EW.out.trans' X1.out) (by omega) _ _ _, by rw [E.out]; exact own_zero _, Fresh.nil _⟩
  have GA1 := Lib.hid (dec_true hA)
  by_cases hB : Good B
  case neg =>
    have G := Lib.hid (dec_false hB)
    have D : Hid (dec (UnionB A B) = false) := dec_false fun j => hB j.2.1
    have E : Hid (unionAns A B = zeroNet) := unionAns_f fun j => hB j.2.1
    clear hB
    go_enter Try.func45, Try.ntmps45
    go_wp2_with fail
    rw [← hW0]
    clear hW0
    (with_reducible refine (isNetwork_any (HA.out.ext EW.out)).mono ?_)
    rintro e w1 ⟨rfl, hw⟩
    rw [GA1.out]
    have X1 := Lib.hid hw
    obtain ⟨q0, q1, q2, _, _, _⟩ := row3_facts (row_ext RB.out hw)
    clear hw
    go_wp2_with fail
    (with_reducible refine (isNetwork_any (HB.out.ext (EW.out.trans' X1.out))).mono ?_)
    rintro e w2 ⟨rfl, hw⟩
    rw [G.out]
    have X2 := Lib.hid (X1.out.trans' hw)
    clear q0 q1 q2 hw
    obtain ⟨q0, q1, q2, t0, t1, t2⟩ := row3_facts (row_ext RQ.out X2.out)
    go_wp2
    refine bodyPost_ret (v := .tuple #[znet, .bool false]) (by simp [results, Try.results45, go_sem, q0, q1, q2, znet]) rfl ⟨_, [], ret_net D.out.symm, store3_ext (EW.out.trans' X2.out) (by omega) _ _ _, by rw [E.out]; exact own_zero _, Fresh.nil _⟩
  have GB1 := Lib.hid (dec_true hB)
  by_cases hI : ((A.ids.length : Int) == 0) = ((B.ids.length : Int) == 0)
  case neg =>
    have hne : (!(((A.ids.length : Int) == 0) == ((B.ids.length : Int) == 0))) = true := by simpa using hI
    have D : Hid (dec (UnionB A B) = false) := dec_false fun j => hI j.2.2.1
    have E : Hid (unionAns A B = zeroNet) := unionAns_f fun j => hI j.2.2.1
    clear hI
    go_enter Try.func45, Try.ntmps45
    go_wp2_with fail
    rw [← hW0]
    clear hW0
    (with_reducible refine (isNetwork_any (HA.out.ext EW.out)).mono ?_)
    rintro e w1 ⟨rfl, hw⟩
    rw [GA1.out]
    have X1 := Lib.hid hw
    obtain ⟨q0, q1, q2, _, _, _⟩ := row3_facts (row_ext RB.out hw)
    clear hw
    go_wp2_with fail
    (with_reducible refine (isNetwork_any (HB.out.ext (EW.out.trans' X1.out))).mono ?_)
    rintro e w2 ⟨rfl, hw⟩
    rw [GB1.out]
    have X2 := Lib.hid (X1.out.trans' hw)
    clear q0 q1 q2 hw
    obtain ⟨q0, q1, q2, _, _, _⟩ := row3_facts (row_ext RB.out X2.out)
    obtain ⟨p0, p1, p2, _, _, _⟩ := row3_facts (row_ext RA.out X2.out)
    obtain ⟨r0, r1, r2, t0, t1, t2⟩ := row3_facts (row_ext RQ.out X2.out)
    go_wp2
    refine bodyPost_ret (v := .tuple #[znet, .bool false]) (by simp [results, Try.results45, go_sem, r0, r1, r2, znet]) rfl ⟨_, [], ret_net D.out.symm, store3_ext (EW.out.trans' X2.out) (by omega) _ _ _, by rw [E.out]; exact own_zero _, Fresh.nil _⟩
  have hne : (!(((A.ids.length : Int) == 0) == ((B.ids.length : Int) == 0))) = false := by rw [hI]; simp
  have GU : Hid (Good (unionNet A B) ↔ UnionB A B) := ⟨fun j => ⟨hA, hB, hI, j⟩, fun j => j.2.2.2⟩
  have GS := Lib.hid (good_small hA)
  have h40A : A.ends.length ≤ 40 := hA.1.2
  have h40B : B.ends.length ≤ 40 := hB.1.2
  have hiA := (good_small hA).2.2.1
  have hpA := (good_small hA).2.2.2
  have hiB := (good_small hB).2.2.1
  have hpB := (good_small hB).2.2.2
  have GB := Lib.hid hB
  have GA := Lib.hid hA
  clear hA hB hI
  go_enter Try.func45, Try.ntmps45
  go_wp2_with fail
  rw [← hW0]
  clear hW0
  (with_reducible refine (isNetwork_any (HA.out.ext EW.out)).mono ?_)
  rintro e w1 ⟨rfl, hw⟩
  rw [GA1.out]
  have X1 := Lib.hid hw
  obtain ⟨q0, q1, q2, _, _, _⟩ := row3_facts (row_ext RB.out hw)
  clear hw
  go_wp2_with fail
  (with_reducible refine (isNetwork_any (HB.out.ext (EW.out.trans' X1.out))).mono ?_)
  rintro e w2 ⟨rfl, hw⟩
  rw [GB1.out]
  have X2 := Lib.hid (X1.out.trans' hw)
  clear q0 q1 q2 hw
  obtain ⟨q0, q1, q2, _, _, _⟩ := row3_facts (row_ext RB.out X2.out)
  obtain ⟨p0, p1, p2, _, _, _⟩ := row3_facts (row_ext RA.out X2.out)
  go_wp2_with fail
  (with_reducible refine (sideBySide_any (HA.out.ext (EW.out.trans' X2.out)) (HB.out.ext (EW.out.trans' X2.out)) GA.out GB.out).mono ?_)
  rintro e w6 ⟨y, bs, rfl, hw, ho, hf⟩
  clear hne p0 p1 p2 q0 q1 q2
  obtain ⟨a0, c0, a1, c1, a2, c2, rfl⟩ := ho.agg
  have X6 := Lib.hid (EW.out.trans' (X2.out.trans' hw))
  have HN := Lib.hid (show OwnNet w6 _ (unionNet A B) bs ∧ bs.Nodup ∧ ∀ b ∈ bs, W0.heap.size ≤ b from ⟨ho, hf.1, fun b hb => Nat.le_trans X2.out.size (hf.2 b hb)⟩)
  have RQ6 := Lib.hid (row_ext RQ.out (X2.out.trans' hw))
  clear hw ho hf
  by_cases hb : UnionB A B
  case pos =>
    have Bt := Lib.hid hb
    clear hb
    go_wp2_with fail
    (with_reducible refine (networkOrNone_t HN.out.1.read (GU.out.2 Bt.out)).mono ?_)
    rintro e w7 ⟨rfl, hw⟩
    have K7 := Lib.hid (X6.out.trans' hw)
    obtain ⟨u0, u1, u2, v0, v1, v2⟩ := row3_facts (row_ext RQ6.out hw)
    have O7 := Lib.hid (HN.out.1.ext hw)
    have D := Lib.hid (dec_true Bt.out)
    have E := Lib.hid (unionAns_t Bt.out)
    clear hw
    go_wp2
    refine bodyPost_ret (v := .tuple #[.agg #[.slice a0 (unionNet A B).ends.length c0, .slice a1 (unionNet A B).ids.length c1, .slice a2 (unionNet A B).inputs.length c2], .bool true]) (by simp [results, Try.results45, go_sem, u0, u1, u2]) rfl ?_
    have hc := close_ge K7.out (by omega) O7.out HN.out.2.1 (q := w.heap.size + 2) (fun b hb => by have := HN.out.2.2 b hb; have := ZW.out; omega)
    exact ⟨_, _, ret_net D.out.symm, hc.1, by rw [E.out]; exact hc.2.1, hc.2.2⟩
  case neg =>
    have Bt := Lib.hid hb
    clear hb
    go_wp2_with fail
    (with_reducible refine (networkOrNone_f HN.out.1.read (fun j => absurd (GU.out.1 j) Bt.out)).mono ?_)
    rintro e w7 ⟨rfl, hw⟩
    unfold znet
    have K7 := Lib.hid (X6.out.trans' hw)
    obtain ⟨u0, u1, u2, v0, v1, v2⟩ := row3_facts (row_ext RQ6.out hw)
    have D := Lib.hid (dec_false Bt.out)
    have E := Lib.hid (unionAns_f Bt.out)
    clear hw
    go_wp2
    refine bodyPost_ret (v := .tuple #[znet, .bool false]) (by simp [results, Try.results45, go_sem, u0, u1, u2, znet]) rfl ⟨_, [], ret_net D.out.symm, store3_ext K7.out (by omega) _ _ _, by rw [E.out]; exact own_zero _, Fresh.nil _⟩
end Go.Proofs.Ytapkmhicajalaaa
