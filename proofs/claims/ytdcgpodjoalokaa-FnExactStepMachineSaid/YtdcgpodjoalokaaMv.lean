/- StepMachine: the contracts that its law takes. -/
import Derived.Test.YtdcgpodjoalokaaMu
namespace Go.Proofs.Ytdcgpodjoalokaa
open Go.RowKit

noncomputable def stAns (M : Mach) (N : Net) (s : List Int) : List Int := if dec (Sts M N s) = true then stepL M N s else []
theorem stAns_t {M : Mach} {N : Net} {s : List Int} (h : Sts M N s) : stAns M N s = stepL M N s := by unfold stAns; rw [if_pos (dec_true h)]
theorem stAns_f {M : Mach} {N : Net} {s : List Int} (h : ¬ Sts M N s) : stAns M N s = [] := by unfold stAns; rw [dec_false h]; rfl
theorem stAns_small (M : Mach) (N : Net) (s : List Int) : (stAns M N s).length ≤ 1048576 := by
  by_cases h : Sts M N s
  · rw [stAns_t h, length_stepL]; have := h.1.2.1.1.2; omega
  · rw [stAns_f h]; simp

set_option maxHeartbeats 6400000 in
set_option maxRecDepth 100000 in
theorem implStepMachine_any {w : World} {vm vn vs : Value} {M : Mach} {N : Net} {s : List Int} (h : MachAt w vm M) (k : NetAt w vn N) (hs : IntSl w vs s) (_ : s.length ≤ 1048576) : Calls Try.prog 45 #[vm, vn, vs] w fun e w' => ∃ v' bs, e = .returned (.tuple #[v', .bool (dec (Sts M N s))]) ∧ Ext w w' ∧ OwnI w' v' (stAns M N s) bs ∧ Fresh w bs := by
  have HSS := Lib.hid hs
  obtain ⟨ssa, ssc, rfl⟩ := hs.isSlice
  obtain ⟨-, ssm, ssn⟩ := isLen hs
  unfold maxLen at ssm
  clear hs
  have HM := Lib.hid h
  have HN := Lib.hid k
  obtain ⟨a3, c3, a4, c4, a5, c5, a6, c6, rfl, h3, h4, -⟩ := h
  obtain ⟨v0, v1, v2, rfl, hE, -, hP⟩ := k
  obtain ⟨W1, hW1⟩ : ∃ W1, W1 = twoBox w (.int .i64 M.deg) (.int .i64 M.sts) (.int .i64 M.msgs) (.slice a3 M.start.length c3) (.slice a4 M.send.length c4) (.slice a5 M.cls.length c5) (.slice a6 M.out.length c6) v0 v1 v2 := ⟨_, rfl⟩
  have EW := Lib.hid (show Ext w W1 by rw [hW1]; exact twoBox_ext _ _ _ _ _ _ _ _ _ _ _)
  have RA := Lib.hid (show W1.rowIs w.heap.size 31 7 (sept (.int .i64 M.deg) (.int .i64 M.sts) (.int .i64 M.msgs) (.slice a3 M.start.length c3) (.slice a4 M.send.length c4) (.slice a5 M.cls.length c5) (.slice a6 M.out.length c6)) by rw [hW1]; exact twoBox_m _ _ _ _ _ _ _ _ _ _ _)
  have RB := Lib.hid (show W1.rowIs (w.heap.size + 1) 43 3 (tri v0 v1 v2) by rw [hW1]; exact twoBox_n _ _ _ _ _ _ _ _ _ _ _)
  have hsz : W1.heap.size = w.heap.size + 2 := by rw [hW1]; simp [twoBox]
  have HSZ := Lib.hid hsz
  have HE3 := Lib.hid (h3.ext EW.out)
  have HE4 := Lib.hid (h4.ext EW.out)
  have HNE := Lib.hid (hE.ext EW.out)
  have HNP := Lib.hid (hP.ext EW.out)
  obtain ⟨-, ms3, ns3⟩ := ssLen h3
  obtain ⟨-, ms4, ns4⟩ := ssLen h4
  unfold maxLen at ms3 ms4
  clear h3 h4 hE hP hsz
  obtain ⟨p0, p1, p2, p3, p4, p5, p6⟩ := row7_facts RA.out
  obtain ⟨q0, q1, q2, -, -, -⟩ := row3_facts RB.out
  unfold twoBox at hW1
  go_enter Try.func45, Try.ntmps45
  go_upto_region 1 with fail
  rw [← hW1]
  clear hW1
  go_wp2_with fail
  (with_reducible refine (areStatesOn_any (HM.out.ext EW.out) (HN.out.ext EW.out) (HSS.out.ext EW.out)).mono ?_)
  rintro e w2 ⟨rfl, hx⟩
  have Y1 := Lib.hid hx
  clear hx p0 p1 p2 p3 p4 p5 p6 q0 q1 q2
  obtain ⟨p0, p1, p2, p3, p4, p5, p6⟩ := row7_facts (row_ext RA.out Y1.out)
  obtain ⟨q0, q1, q2, -, -, -⟩ := row3_facts (row_ext RB.out Y1.out)
  have K1 := Lib.hid (EW.out.trans' Y1.out)
  by_cases e1 : Sts M N s
  case neg =>
    have D := Lib.hid (dec_false e1)
    have A := Lib.hid (stAns_f e1)
    rw [D.out]
    clear e1
    go_wp2
    go_ret2
    exact ⟨_, [], ret_vb D.out.symm, K1.out, by rw [A.out]; exact own_nilI _, Fresh.nil _⟩
  have D := Lib.hid (dec_true e1)
  have A := Lib.hid (stAns_t e1)
  have E1 := Lib.hid e1
  rw [D.out]
  clear e1
  go_wp2_with fail
  (with_reducible refine (nextStates_any (HM.out.ext K1.out) (HN.out.ext K1.out) (HSS.out.ext K1.out) E1.out).mono ?_)
  rintro e w3 ⟨v', bs, rfl, hx, ho, hf⟩
  have K3 := Lib.hid (K1.out.trans' hx)
  have HO := Lib.hid ho
  have HF := Lib.hid (hf.of K1.out.size)
  clear hx ho hf
  go_wp2
  go_ret2
  exact ⟨_, bs, ret_vb D.out.symm, K3.out, by rw [A.out]; exact HO.out, HF.out⟩

set_option maxHeartbeats 6400000 in
set_option maxRecDepth 100000 in
theorem specStepMachine_any {w : World} {vm vn vs : Value} {M : Mach} {N : Net} {s : List Int} (h : MachAt w vm M) (k : NetAt w vn N) (hs : IntSl w vs s) (_ : s.length ≤ 1048576) : Calls Try.prog 44 #[vm, vn, vs] w fun e w' => ∃ v' bs, e = .returned (.tuple #[v', .bool (dec (Sts M N s))]) ∧ Ext w w' ∧ OwnI w' v' (stAns M N s) bs ∧ Fresh w bs := by
  have HSS := Lib.hid hs
  obtain ⟨ssa, ssc, rfl⟩ := hs.isSlice
  obtain ⟨-, ssm, ssn⟩ := isLen hs
  unfold maxLen at ssm
  clear hs
  have HM := Lib.hid h
  have HN := Lib.hid k
  obtain ⟨a3, c3, a4, c4, a5, c5, a6, c6, rfl, h3, h4, -⟩ := h
  obtain ⟨v0, v1, v2, rfl, hE, -, hP⟩ := k
  obtain ⟨W1, hW1⟩ : ∃ W1, W1 = twoBox w (.int .i64 M.deg) (.int .i64 M.sts) (.int .i64 M.msgs) (.slice a3 M.start.length c3) (.slice a4 M.send.length c4) (.slice a5 M.cls.length c5) (.slice a6 M.out.length c6) v0 v1 v2 := ⟨_, rfl⟩
  have EW := Lib.hid (show Ext w W1 by rw [hW1]; exact twoBox_ext _ _ _ _ _ _ _ _ _ _ _)
  have RA := Lib.hid (show W1.rowIs w.heap.size 31 7 (sept (.int .i64 M.deg) (.int .i64 M.sts) (.int .i64 M.msgs) (.slice a3 M.start.length c3) (.slice a4 M.send.length c4) (.slice a5 M.cls.length c5) (.slice a6 M.out.length c6)) by rw [hW1]; exact twoBox_m _ _ _ _ _ _ _ _ _ _ _)
  have RB := Lib.hid (show W1.rowIs (w.heap.size + 1) 43 3 (tri v0 v1 v2) by rw [hW1]; exact twoBox_n _ _ _ _ _ _ _ _ _ _ _)
  have hsz : W1.heap.size = w.heap.size + 2 := by rw [hW1]; simp [twoBox]
  have HSZ := Lib.hid hsz
  have HE3 := Lib.hid (h3.ext EW.out)
  have HE4 := Lib.hid (h4.ext EW.out)
  have HNE := Lib.hid (hE.ext EW.out)
  have HNP := Lib.hid (hP.ext EW.out)
  obtain ⟨-, ms3, ns3⟩ := ssLen h3
  obtain ⟨-, ms4, ns4⟩ := ssLen h4
  unfold maxLen at ms3 ms4
  clear h3 h4 hE hP hsz
  obtain ⟨p0, p1, p2, p3, p4, p5, p6⟩ := row7_facts RA.out
  obtain ⟨q0, q1, q2, -, -, -⟩ := row3_facts RB.out
  unfold twoBox at hW1
  go_enter Try.func44, Try.ntmps44
  go_upto_region 1 with fail
  rw [← hW1]
  clear hW1
  go_wp2_with fail
  (with_reducible refine (maStates_any (HM.out.ext EW.out) (HN.out.ext EW.out) (HSS.out.ext EW.out)).mono ?_)
  rintro e w2 ⟨rfl, hx⟩
  have Y1 := Lib.hid hx
  clear hx p0 p1 p2 p3 p4 p5 p6 q0 q1 q2
  obtain ⟨p0, p1, p2, p3, p4, p5, p6⟩ := row7_facts (row_ext RA.out Y1.out)
  obtain ⟨q0, q1, q2, -, -, -⟩ := row3_facts (row_ext RB.out Y1.out)
  have K1 := Lib.hid (EW.out.trans' Y1.out)
  by_cases e1 : Sts M N s
  case neg =>
    have D := Lib.hid (dec_false e1)
    have A := Lib.hid (stAns_f e1)
    rw [D.out]
    clear e1
    go_wp2
    go_ret2
    exact ⟨_, [], ret_vb D.out.symm, K1.out, by rw [A.out]; exact own_nilI _, Fresh.nil _⟩
  have D := Lib.hid (dec_true e1)
  have A := Lib.hid (stAns_t e1)
  have E1 := Lib.hid e1
  rw [D.out]
  clear e1
  go_wp2_with fail
  (with_reducible refine (maStep_any (HM.out.ext K1.out) (HN.out.ext K1.out) (HSS.out.ext K1.out) E1.out).mono ?_)
  rintro e w3 ⟨v', bs, rfl, hx, ho, hf⟩
  have K3 := Lib.hid (K1.out.trans' hx)
  have HO := Lib.hid ho
  have HF := Lib.hid (hf.of K1.out.size)
  clear hx ho hf
  go_wp2
  go_ret2
  exact ⟨_, bs, ret_vb D.out.symm, K3.out, by rw [A.out]; exact HO.out, HF.out⟩

end Go.Proofs.Ytdcgpodjoalokaa
