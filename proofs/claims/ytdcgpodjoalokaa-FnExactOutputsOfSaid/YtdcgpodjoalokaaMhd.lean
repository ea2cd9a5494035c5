/- HaltingRound and OutputsOf: the contracts that their laws take. -/
import Derived.Test.YtdcgpodjoalokaaMhc
namespace Go.Proofs.Ytdcgpodjoalokaa
open Go.RowKit

theorem ret_ib' {x y : Int} {b c : Bool} (h : x = y) (k : b = c) : Ending.returned (.tuple #[.int .i64 x, .bool b]) = .returned (.tuple #[.int .i64 y, .bool c]) := by rw [h, k]

set_option maxHeartbeats 6400000 in
set_option maxRecDepth 100000 in
theorem implHaltingRound_any {w : World} {vm vn : Value} {M : Mach} {N : Net} (r : Int) (h : MachAt w vm M) (k : NetAt w vn N) : Calls Try.prog 51 #[vm, vn, .int .i64 r] w fun e w' => e = .returned (.tuple #[.int .i64 (hrAns M N r), .bool (dec (HaltB M N r))]) ∧ Ext w w' := by
  have HM := Lib.hid h
  have HN := Lib.hid k
  obtain ⟨a3, c3, a4, c4, a5, c5, a6, c6, rfl, h3, h4, -⟩ := h
  obtain ⟨v0, v1, v2, rfl, hE, -, hP⟩ := k
  obtain ⟨W1, hW1⟩ : ∃ W1, W1 = twoBox w (.int .i64 M.deg) (.int .i64 M.sts) (.int .i64 M.msgs) (.slice a3 M.start.length c3) (.slice a4 M.send.length c4) (.slice a5 M.cls.length c5) (.slice a6 M.out.length c6) v0 v1 v2 := ⟨_, rfl⟩
  have EW := Lib.hid (show Ext w W1 by rw [hW1]; exact twoBox_ext _ _ _ _ _ _ _ _ _ _ _)
  have RA := Lib.hid (show W1.rowIs w.heap.size 31 7 (sept (.int .i64 M.deg) (.int .i64 M.sts) (.int .i64 M.msgs) (.slice a3 M.start.length c3) (.slice a4 M.send.length c4) (.slice a5 M.cls.length c5) (.slice a6 M.out.length c6)) by rw [hW1]; exact twoBox_m _ _ _ _ _ _ _ _ _ _ _)
  have RB := Lib.hid (show W1.rowIs (w.heap.size + 1) 43 3 (tri v0 v1 v2) by rw [hW1]; exact twoBox_n _ _ _ _ _ _ _ _ _ _ _)
  have hsz : W1.heap.size = w.heap.size + 2 := by rw [hW1]; simp [twoBox]
  have HSZ := Lib.hid hsz
  have HE3 := Lib.hid (h3.ext EW.out)
  have HE4 := Lib.hid (h4.ext EW.out)
  have HNE := Lib.hid (hE.ext EW.out)
  have HNP := Lib.hid (hP.ext EW.out)
  obtain ⟨-, ms3, ns3⟩ := ssLen h3
  obtain ⟨-, ms4, ns4⟩ := ssLen h4
  unfold maxLen at ms3 ms4
  clear h3 h4 hE hP hsz
  obtain ⟨p0, p1, p2, p3, p4, p5, p6⟩ := row7_facts RA.out
  obtain ⟨q0, q1, q2, -, -, -⟩ := row3_facts RB.out
  unfold twoBox at hW1
  go_enter Try.func51, Try.ntmps51
  go_upto_region 1 with fail
  rw [← hW1]
  clear hW1
  go_wp2_with fail
  (with_reducible refine (haltOf_any r (HM.out.ext EW.out) (HN.out.ext EW.out)).mono ?_)
  rintro e w2 ⟨v', bs, rfl, hx, ho, hf⟩
  have K3 := Lib.hid (EW.out.trans' hx)
  have HO := Lib.hid ho
  have HF := Lib.hid (hf.of EW.out.size)
  clear hx ho hf
  go_wp2
  go_ret2
  exact ⟨rfl, K3.out⟩

set_option maxHeartbeats 6400000 in
set_option maxRecDepth 100000 in
theorem implOutputsOf_any {w : World} {vm vn : Value} {M : Mach} {N : Net} (r : Int) (h : MachAt w vm M) (k : NetAt w vn N) : Calls Try.prog 53 #[vm, vn, .int .i64 r] w fun e w' => ∃ v' bs, e = .returned (.tuple #[v', .bool (dec (HaltB M N r))]) ∧ Ext w w' ∧ OwnI w' v' (ooAns M N r) bs ∧ Fresh w bs := by
  have HM := Lib.hid h
  have HN := Lib.hid k
  obtain ⟨a3, c3, a4, c4, a5, c5, a6, c6, rfl, h3, h4, -⟩ := h
  obtain ⟨v0, v1, v2, rfl, hE, -, hP⟩ := k
  obtain ⟨W1, hW1⟩ : ∃ W1, W1 = twoBox w (.int .i64 M.deg) (.int .i64 M.sts) (.int .i64 M.msgs) (.slice a3 M.start.length c3) (.slice a4 M.send.length c4) (.slice a5 M.cls.length c5) (.slice a6 M.out.length c6) v0 v1 v2 := ⟨_, rfl⟩
  have EW := Lib.hid (show Ext w W1 by rw [hW1]; exact twoBox_ext _ _ _ _ _ _ _ _ _ _ _)
  have RA := Lib.hid (show W1.rowIs w.heap.size 31 7 (sept (.int .i64 M.deg) (.int .i64 M.sts) (.int .i64 M.msgs) (.slice a3 M.start.length c3) (.slice a4 M.send.length c4) (.slice a5 M.cls.length c5) (.slice a6 M.out.length c6)) by rw [hW1]; exact twoBox_m _ _ _ _ _ _ _ _ _ _ _)
  have RB := Lib.hid (show W1.rowIs (w.heap.size + 1) 43 3 (tri v0 v1 v2) by rw [hW1]; exact twoBox_n _ _ _ _ _ _ _ _ _ _ _)
  have hsz : W1.heap.size = w.heap.size + 2 := by rw [hW1]; simp [twoBox]
  have HSZ := Lib.hid hsz
  have HE3 := Lib.hid (h3.ext EW.out)
  have HE4 := Lib.hid (h4.ext EW.out)
  have HNE := Lib.hid (hE.ext EW.out)
  have HNP := Lib.hid (hP.ext EW.out)
  obtain ⟨-, ms3, ns3⟩ := ssLen h3
  obtain ⟨-, ms4, ns4⟩ := ssLen h4
  unfold maxLen at ms3 ms4
  clear h3 h4 hE hP hsz
  obtain ⟨p0, p1, p2, p3, p4, p5, p6⟩ := row7_facts RA.out
  obtain ⟨q0, q1, q2, -, -, -⟩ := row3_facts RB.out
  unfold twoBox at hW1
  go_enter Try.func53, Try.ntmps53
  go_upto_region 1 with fail
  rw [← hW1]
  clear hW1
  go_wp2_with fail
  (with_reducible refine (haltOf_any r (HM.out.ext EW.out) (HN.out.ext EW.out)).mono ?_)
  rintro e w2 ⟨v', bs, rfl, hx, ho, hf⟩
  have K3 := Lib.hid (EW.out.trans' hx)
  have HO := Lib.hid ho
  have HF := Lib.hid (hf.of EW.out.size)
  clear hx ho hf
  go_wp2
  go_ret2
  exact ⟨_, bs, rfl, K3.out, HO.out, HF.out⟩

set_option maxHeartbeats 6400000 in
set_option maxRecDepth 100000 in
theorem specHaltingRound_any {w : World} {vm vn : Value} {M : Mach} {N : Net} (r : Int) (h : MachAt w vm M) (k : NetAt w vn N) : Calls Try.prog 50 #[vm, vn, .int .i64 r] w fun e w' => e = .returned (.tuple #[.int .i64 (hrAns M N r), .bool (dec (HaltB M N r))]) ∧ Ext w w' := by
  have HM := Lib.hid h
  have HN := Lib.hid k
  obtain ⟨a3, c3, a4, c4, a5, c5, a6, c6, rfl, h3, h4, -⟩ := h
  obtain ⟨v0, v1, v2, rfl, hE, -, hP⟩ := k
  obtain ⟨W1, hW1⟩ : ∃ W1, W1 = twoBox w (.int .i64 M.deg) (.int .i64 M.sts) (.int .i64 M.msgs) (.slice a3 M.start.length c3) (.slice a4 M.send.length c4) (.slice a5 M.cls.length c5) (.slice a6 M.out.length c6) v0 v1 v2 := ⟨_, rfl⟩
  have EW := Lib.hid (show Ext w W1 by rw [hW1]; exact twoBox_ext _ _ _ _ _ _ _ _ _ _ _)
  have RA := Lib.hid (show W1.rowIs w.heap.size 31 7 (sept (.int .i64 M.deg) (.int .i64 M.sts) (.int .i64 M.msgs) (.slice a3 M.start.length c3) (.slice a4 M.send.length c4) (.slice a5 M.cls.length c5) (.slice a6 M.out.length c6)) by rw [hW1]; exact twoBox_m _ _ _ _ _ _ _ _ _ _ _)
  have RB := Lib.hid (show W1.rowIs (w.heap.size + 1) 43 3 (tri v0 v1 v2) by rw [hW1]; exact twoBox_n _ _ _ _ _ _ _ _ _ _ _)
  have hsz : W1.heap.size = w.heap.size + 2 := by rw [hW1]; simp [twoBox]
  have HSZ := Lib.hid hsz
  have HE3 := Lib.hid (h3.ext EW.out)
  have HE4 := Lib.hid (h4.ext EW.out)
  have HNE := Lib.hid (hE.ext EW.out)
  have HNP := Lib.hid (hP.ext EW.out)
  obtain ⟨-, ms3, ns3⟩ := ssLen h3
  obtain ⟨-, ms4, ns4⟩ := ssLen h4
  unfold maxLen at ms3 ms4
  clear h3 h4 hE hP hsz
  obtain ⟨p0, p1, p2, p3, p4, p5, p6⟩ := row7_facts RA.out
  obtain ⟨q0, q1, q2, -, -, -⟩ := row3_facts RB.out
  unfold twoBox at hW1
  go_enter Try.func50, Try.ntmps50
  go_upto_region 1 with fail
  rw [← hW1]
  clear hW1
  go_wp2_with fail
  (with_reducible refine (maAsked_any (HM.out.ext EW.out) (HN.out.ext EW.out)).mono ?_)
  rintro e w2 ⟨rfl, hx⟩
  have Y1 := Lib.hid hx
  clear hx p0 p1 p2 p3 p4 p5 p6 q0 q1 q2
  obtain ⟨p0, p1, p2, p3, p4, p5, p6⟩ := row7_facts (row_ext RA.out Y1.out)
  obtain ⟨q0, q1, q2, -, -, -⟩ := row3_facts (row_ext RB.out Y1.out)
  have K1 := Lib.hid (EW.out.trans' Y1.out)
  by_cases ha : Asked M N
  case neg =>
    rw [dec_false ha]
    have DA := Lib.hid (show ¬ HaltB M N r from fun h => ha h.1.1)
    clear ha
    go_wp2
    go_ret2
    exact ⟨ret_ib' (hrAns_f DA.out).symm (dec_false DA.out).symm, K1.out⟩
  rw [dec_true ha]
  have HA := Lib.hid ha
  clear ha
  by_cases hr : InB r 0 2000
  case neg =>
    have D := Lib.hid (dec_false hr)
    have DA := Lib.hid (show ¬ HaltB M N r from fun h => hr h.1.2)
    clear hr
    go_wp2_with (go_at_call 101; (with_reducible refine (maLong_any _ _).mono ?_); rintro e w' ⟨rfl, rfl⟩; rw [D.out])
    go_ret2
    exact ⟨ret_ib' (hrAns_f DA.out).symm (dec_false DA.out).symm, K1.out⟩
  have HR := Lib.hid hr
  have D := Lib.hid (dec_true hr)
  obtain ⟨m, rfl⟩ := Int.eq_ofNat_of_zero_le hr.1
  have hm : m ≤ 2000 := by have := hr.2; omega
  clear hr
  go_wp2_with (go_at_call 101; (with_reducible refine (maLong_any _ _).mono ?_); rintro e w' ⟨rfl, rfl⟩; rw [D.out])
  (with_reducible refine (maHalt_any m hm (HM.out.ext K1.out) (HN.out.ext K1.out) HA.out).mono ?_)
  rintro e w3 ⟨v', bs, rfl, hx, ho, hf⟩
  have X3 := Lib.hid hx
  have K3 := Lib.hid (K1.out.trans' hx)
  have HO := Lib.hid ho
  have HF := Lib.hid (hf.of K1.out.size)
  clear hx ho hf p0 p1 p2 p3 p4 p5 p6 q0 q1 q2
  go_wp2
  go_ret2
  exact ⟨rfl, K3.out⟩

set_option maxHeartbeats 6400000 in
set_option maxRecDepth 100000 in
theorem specOutputsOf_any {w : World} {vm vn : Value} {M : Mach} {N : Net} (r : Int) (h : MachAt w vm M) (k : NetAt w vn N) : Calls Try.prog 52 #[vm, vn, .int .i64 r] w fun e w' => ∃ v' bs, e = .returned (.tuple #[v', .bool (dec (HaltB M N r))]) ∧ Ext w w' ∧ OwnI w' v' (ooAns M N r) bs ∧ Fresh w bs := by
  have HM := Lib.hid h
  have HN := Lib.hid k
  obtain ⟨a3, c3, a4, c4, a5, c5, a6, c6, rfl, h3, h4, -⟩ := h
  obtain ⟨v0, v1, v2, rfl, hE, -, hP⟩ := k
  obtain ⟨W1, hW1⟩ : ∃ W1, W1 = twoBox w (.int .i64 M.deg) (.int .i64 M.sts) (.int .i64 M.msgs) (.slice a3 M.start.length c3) (.slice a4 M.send.length c4) (.slice a5 M.cls.length c5) (.slice a6 M.out.length c6) v0 v1 v2 := ⟨_, rfl⟩
  have EW := Lib.hid (show Ext w W1 by rw [hW1]; exact twoBox_ext _ _ _ _ _ _ _ _ _ _ _)
  have RA := Lib.hid (show W1.rowIs w.heap.size 31 7 (sept (.int .i64 M.deg) (.int .i64 M.sts) (.int .i64 M.msgs) (.slice a3 M.start.length c3) (.slice a4 M.send.length c4) (.slice a5 M.cls.length c5) (.slice a6 M.out.length c6)) by rw [hW1]; exact twoBox_m _ _ _ _ _ _ _ _ _ _ _)
  have RB := Lib.hid (show W1.rowIs (w.heap.size + 1) 43 3 (tri v0 v1 v2) by rw [hW1]; exact twoBox_n _ _ _ _ _ _ _ _ _ _ _)
  have hsz : W1.heap.size = w.heap.size + 2 := by rw [hW1]; simp [twoBox]
  have HSZ := Lib.hid hsz
  have HE3 := Lib.hid (h3.ext EW.out)
  have HE4 := Lib.hid (h4.ext EW.out)
  have HNE := Lib.hid (hE.ext EW.out)
  have HNP := Lib.hid (hP.ext EW.out)
  obtain ⟨-, ms3, ns3⟩ := ssLen h3
  obtain ⟨-, ms4, ns4⟩ := ssLen h4
  unfold maxLen at ms3 ms4
  clear h3 h4 hE hP hsz
  obtain ⟨p0, p1, p2, p3, p4, p5, p6⟩ := row7_facts RA.out
  obtain ⟨q0, q1, q2, -, -, -⟩ := row3_facts RB.out
  unfold twoBox at hW1
  go_enter Try.func52, Try.ntmps52
  go_upto_region 1 with fail
  rw [← hW1]
  clear hW1
  go_wp2_with fail
  (with_reducible refine (maAsked_any (HM.out.ext EW.out) (HN.out.ext EW.out)).mono ?_)
  rintro e w2 ⟨rfl, hx⟩
  have Y1 := Lib.hid hx
  clear hx p0 p1 p2 p3 p4 p5 p6 q0 q1 q2
  obtain ⟨p0, p1, p2, p3, p4, p5, p6⟩ := row7_facts (row_ext RA.out Y1.out)
  obtain ⟨q0, q1, q2, -, -, -⟩ := row3_facts (row_ext RB.out Y1.out)
  have K1 := Lib.hid (EW.out.trans' Y1.out)
  by_cases ha : Asked M N
  case neg =>
    rw [dec_false ha]
    have DA := Lib.hid (show ¬ HaltB M N r from fun h => ha h.1.1)
    clear ha
    go_wp2
    go_ret2
    exact ⟨_, [], ret_vb (dec_false DA.out).symm, K1.out, by rw [ooAns_f DA.out]; exact own_nilI _, Fresh.nil _⟩
  rw [dec_true ha]
  have HA := Lib.hid ha
  clear ha
  by_cases hr : InB r 0 2000
  case neg =>
    have D := Lib.hid (dec_false hr)
    have DA := Lib.hid (show ¬ HaltB M N r from fun h => hr h.1.2)
    clear hr
    go_wp2_with (go_at_call 101; (with_reducible refine (maLong_any _ _).mono ?_); rintro e w' ⟨rfl, rfl⟩; rw [D.out])
    go_ret2
    exact ⟨_, [], ret_vb (dec_false DA.out).symm, K1.out, by rw [ooAns_f DA.out]; exact own_nilI _, Fresh.nil _⟩
  have HR := Lib.hid hr
  have D := Lib.hid (dec_true hr)
  obtain ⟨m, rfl⟩ := Int.eq_ofNat_of_zero_le hr.1
  have hm : m ≤ 2000 := by have := hr.2; omega
  clear hr
  go_wp2_with (go_at_call 101; (with_reducible refine (maLong_any _ _).mono ?_); rintro e w' ⟨rfl, rfl⟩; rw [D.out])
  (with_reducible refine (maHalt_any m hm (HM.out.ext K1.out) (HN.out.ext K1.out) HA.out).mono ?_)
  rintro e w3 ⟨v', bs, rfl, hx, ho, hf⟩
  have X3 := Lib.hid hx
  have K3 := Lib.hid (K1.out.trans' hx)
  have HO := Lib.hid ho
  have HF := Lib.hid (hf.of K1.out.size)
  clear hx ho hf p0 p1 p2 p3 p4 p5 p6 q0 q1 q2
  obtain ⟨-, -, -, -, -, -, p6⟩ := row7_facts (row_ext RA.out (Y1.out.trans' X3.out))
  go_wp2_with fail
  (with_reducible refine (coThrough_any (HM.out.outs.ext K3.out) HO.out.read (hs_im M N m).1 (hs_im M N m).2).mono ?_)
  rintro e w4 ⟨v4, bs4, rfl, hx, ho, hf⟩
  have K4 := Lib.hid (K3.out.trans' hx)
  have HO4 := Lib.hid ho
  have HF4 := Lib.hid (hf.of K3.out.size)
  clear hx ho hf p6
  go_wp2
  go_ret2
  exact ⟨_, bs4, rfl, K4.out, by rw [← thr_hs]; exact HO4.out, HF4.out⟩

end Go.Proofs.Ytdcgpodjoalokaa
