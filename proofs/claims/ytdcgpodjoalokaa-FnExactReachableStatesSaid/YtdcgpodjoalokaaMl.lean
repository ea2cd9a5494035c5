/- The program's RunsOn and areStatesOn. -/
import Derived.Test.YtdcgpodjoalokaaMj
import Derived.Test.YtdcgpodjoalokaaMh
namespace Go.Proofs.Ytdcgpodjoalokaa
open Go.RowKit

set_option maxHeartbeats 6400000 in
set_option maxRecDepth 100000 in
theorem runsOn_any {w : World} {vm vn : Value} {M : Mach} {N : Net} (h : MachAt w vm M) (k : NetAt w vn N) : Calls Try.prog 27 #[vm, vn] w fun e w' => e = .returned (.tuple #[.bool (dec (Asked M N)), .bool (dec (Valid2 M N))]) ∧ Ext w w' := by
  have HM := Lib.hid h
  have HN := Lib.hid k
  obtain ⟨a3, c3, a4, c4, a5, c5, a6, c6, rfl, h3, -⟩ := h
  obtain ⟨v0, v1, v2, rfl, hE, -, hP⟩ := k
  obtain ⟨W1, hW1⟩ : ∃ W1, W1 = twoBox w (.int .i64 M.deg) (.int .i64 M.sts) (.int .i64 M.msgs) (.slice a3 M.start.length c3) (.slice a4 M.send.length c4) (.slice a5 M.cls.length c5) (.slice a6 M.out.length c6) v0 v1 v2 := ⟨_, rfl⟩
  have EW := Lib.hid (show Ext w W1 by rw [hW1]; exact twoBox_ext _ _ _ _ _ _ _ _ _ _ _)
  have RA := Lib.hid (show W1.rowIs w.heap.size 31 7 (sept (.int .i64 M.deg) (.int .i64 M.sts) (.int .i64 M.msgs) (.slice a3 M.start.length c3) (.slice a4 M.send.length c4) (.slice a5 M.cls.length c5) (.slice a6 M.out.length c6)) by rw [hW1]; exact twoBox_m _ _ _ _ _ _ _ _ _ _ _)
  have RB := Lib.hid (show W1.rowIs (w.heap.size + 1) 43 3 (tri v0 v1 v2) by rw [hW1]; exact twoBox_n _ _ _ _ _ _ _ _ _ _ _)
  have HE3 := Lib.hid h3
  have HNE := Lib.hid hE
  have HNP := Lib.hid hP
  clear h3 hE hP
  obtain ⟨p0, p1, p2, p3, p4, p5, p6⟩ := row7_facts RA.out
  obtain ⟨q0, q1, q2, -, -, -⟩ := row3_facts RB.out
  unfold twoBox at hW1
  go_enter Try.func27, Try.ntmps27
  go_upto_region 1 with fail
  rw [← hW1]
  clear hW1
  go_wp2_with fail
  (with_reducible refine (isMachine_any (HM.out.ext EW.out)).mono ?_)
  rintro e w2 ⟨rfl, hx⟩
  have Y1 := Lib.hid (hx)
  clear hx p0 p1 p2 p3 p4 p5 p6 q0 q1 q2
  obtain ⟨p0, p1, p2, p3, p4, p5, p6⟩ := row7_facts (row_ext RA.out Y1.out)
  obtain ⟨q0, q1, q2, -, -, -⟩ := row3_facts (row_ext RB.out Y1.out)
  by_cases e1 : MachOK M
  case neg =>
    have D := Lib.hid (show ¬ Asked M N ∧ ¬ Valid2 M N from ⟨fun h => e1 h.1, fun h => e1 h.1⟩)
    rw [dec_false e1]
    clear e1
    go_wp2
    go_ret2
    exact ⟨ret_bb2 (dec_false D.out.1).symm (dec_false D.out.2).symm, EW.out.trans' Y1.out⟩
  rw [dec_true e1]
  go_wp2_with fail
  (with_reducible refine (isNetwork_any (HN.out.ext (EW.out.trans' Y1.out))).mono ?_)
  rintro e w3 ⟨rfl, hx⟩
  have Y2 := Lib.hid (Y1.out.trans' hx)
  clear hx p0 p1 p2 p3 p4 p5 p6 q0 q1 q2
  obtain ⟨p0, p1, p2, p3, p4, p5, p6⟩ := row7_facts (row_ext RA.out Y2.out)
  obtain ⟨q0, q1, q2, -, -, -⟩ := row3_facts (row_ext RB.out Y2.out)
  by_cases e2 : Good N
  case neg =>
    have D := Lib.hid (show ¬ Asked M N ∧ ¬ Valid2 M N from ⟨fun h => e2 h.2.1, fun h => e2 h.2⟩)
    rw [dec_false e2]
    clear e2
    go_wp2
    go_ret2
    exact ⟨ret_bb2 (dec_false D.out.1).symm (dec_false D.out.2).symm, EW.out.trans' Y2.out⟩
  rw [dec_true e2]
  have HV := Lib.hid (dec_true (p := Valid2 M N) ⟨e1, e2⟩)
  have HEN := Lib.hid (HNE.out.ext (EW.out.trans' Y2.out))
  have hpos : 0 < M.start.length := by have := e1.2.1.1; have := e1.1.1.1; omega
  obtain ⟨b, oo, ra, rc, rfl, z0, hrow0⟩ := ssRow (HE3.out.ext (EW.out.trans' Y2.out)) (k := 0) hpos
  rw [Nat.add_zero] at z0
  obtain ⟨-, m0, n0⟩ := isLen hrow0
  unfold maxLen at m0
  obtain ⟨-, mS, nS⟩ := ssLen HE3.out
  unfold maxLen at mS
  obtain ⟨ea, eb, eo, ec, rfl, ha, el, em, hc⟩ := HEN.out
  unfold maxLen at em
  have Ha := Lib.hid ha
  have Hc := Lib.hid hc
  obtain ⟨pa, pb, po, pc, rfl, hpa, pl, pm, hpc⟩ := HNP.out.ext (EW.out.trans' Y2.out)
  unfold maxLen at pm
  have Hpa := Lib.hid hpa
  have Hpc := Lib.hid hpc
  have HL := Lib.hid (show N.inputs.length = N.ends.length by have := e2.2.2.2.1; omega)
  have M1 := Lib.hid e1
  have G1 := Lib.hid e2
  clear e1 e2 ha hc hpa hpc hrow0
  go_wp2
  go_loopg [19] N.ends.length (fun g i wr => ∃ k : Nat, k ≤ N.ends.length ∧ g = N.ends.length - k ∧ i = .int .i64 k ∧ Hid (Ext w3 wr ∧ ∀ v, v < k → ((gr N.ends v).length : Int) ≤ M.deg ∧ gi N.inputs v < ((gr M.start 0).length : Int)))
  case atStart => exact ⟨0, Nat.zero_le _, rfl, rfl, Ext.rfl' _, fun j hj => absurd hj (by omega)⟩
  case round =>
    obtain ⟨k, hk, rfl, rfl, Hr⟩ := hrel
    by_cases hlt : k < N.ends.length
    · obtain ⟨x, hx, hrow⟩ := Hc.out k hlt
      obtain ⟨xa, xb, xo, xc, rfl, -, xl, xm, -⟩ := hrow
      unfold maxLen at xm
      obtain rfl := Ha.out (by omega)
      have hkp : k < N.inputs.length := by have := HL.out; omega
      obtain ⟨y, hy, rfl, -⟩ := Hpc.out k hkp
      obtain rfl := Hpa.out (by omega)
      have c0 := Hr.out.1.cell' hx
      have X0 : ∀ x' : Wx wr, x'.w.cell? ⟨w.heap.size, 0, none⟩ = some (.int .i64 M.deg) := fun x' => x'.ok.cell' (Hr.out.1.cell' p0)
      have X3 : ∀ x' : Wx wr, x'.w.cell? ⟨w.heap.size, 3, none⟩ = some (.slice (some ⟨b, oo, none⟩) M.start.length c3) := fun x' => x'.ok.cell' (Hr.out.1.cell' p3)
      have X4 : ∀ x' : Wx wr, x'.w.cell? ⟨b, oo, none⟩ = some (.slice ra (gr M.start 0).length rc) := fun x' => x'.ok.cell' (Hr.out.1.cell' z0)
      have X5 : ∀ x' : Wx wr, x'.w.cell? ⟨w.heap.size + 1, 2, none⟩ = some (.slice (some ⟨pb, po, none⟩) N.inputs.length pc) := fun x' => x'.ok.cell' (Hr.out.1.cell' q2)
      have X6 : ∀ x' : Wx wr, x'.w.cell? ⟨pb, po + k, none⟩ = some (.int .i64 (gi N.inputs k)) := fun x' => x'.ok.cell' (Hr.out.1.cell' hy)
      obtain ⟨dk, hdk⟩ : ∃ d : Nat, d = (gr N.ends k).length := ⟨_, rfl⟩
      have HDK := Lib.hid hdk
      rw [← hdk] at c0 xl
      obtain ⟨ik, hik⟩ : ∃ i : Int, i = gi N.inputs k := ⟨_, rfl⟩
      have HIK := Lib.hid hik
      rw [← hik] at X6
      clear hx hy hdk hik
      by_cases e1 : (dk : Int) ≤ M.deg
      · have b1 : decide (M.deg < (dk : Int)) = false := decide_eq_false (by omega)
        by_cases e2 : ik < ((gr M.start 0).length : Int)
        · have b2 : decide (((gr M.start 0).length : Int) ≤ ik) = false := decide_eq_false (by omega)
          have E := Lib.hid (And.intro e1 e2)
          go_wp2_with fail
          refine wp_region_ext (by kernel_rfl) (by kernel_rfl) ?_
          repeat (go_big_quiet_step (fail))
          refine wpQuiet_nil ?_
          rintro _ ⟨⟨wq, hq⟩, rfl⟩
          have HY := Lib.hid (Hr.out.1.trans' hq)
          clear hq X0 X3 X4 X5 X6 c0
          go_wp2
          go_roundg (N.ends.length - (k + 1))
          case measure => omega
          case rel =>
            refine ⟨k + 1, by omega, rfl, by go_num, HY.out, fun j hj => ?_⟩
            by_cases e : j = k
            · subst e; rw [← HDK.out, ← HIK.out]; exact E.out
            · exact Hr.out.2 j (by omega)
        · have b2 : decide (((gr M.start 0).length : Int) ≤ ik) = true := decide_eq_true (by omega)
          have D := Lib.hid (show ¬ Asked M N from fun h => e2 (by have := (h.2.2 k hlt).2; rw [← HIK.out] at this; exact this))
          go_wp2_with fail
          refine wp_region_ext (by kernel_rfl) (by kernel_rfl) ?_
          repeat (go_big_quiet_step (fail))
          refine wpQuiet_nil ?_
          rintro _ ⟨⟨wq, hq⟩, rfl⟩
          have HY := Lib.hid (Hr.out.1.trans' hq)
          clear hq X0 X3 X4 X5 X6 c0
          go_wp2
          go_ret2
          exact ⟨ret_bb2 (dec_false D.out).symm HV.out.symm, EW.out.trans' (Y2.out.trans' HY.out)⟩
      · have D := Lib.hid (show ¬ Asked M N from fun h => e1 (by have := (h.2.2 k hlt).1; rw [← HDK.out] at this; exact this))
        go_wp2_with fail
        refine wp_region_ext (by kernel_rfl) (by kernel_rfl) ?_
        repeat (go_big_quiet_step (fail))
        refine wpQuiet_nil ?_
        rintro _ ⟨⟨wq, hq⟩, rfl⟩
        have HY := Lib.hid (Hr.out.1.trans' hq)
        clear hq X0 X3 X4 X5 X6 c0
        go_wp2
        go_ret2
        exact ⟨ret_bb2 (dec_false D.out).symm HV.out.symm, EW.out.trans' (Y2.out.trans' HY.out)⟩
    · obtain rfl : k = N.ends.length := by omega
      go_wp2
      go_ret2
      exact ⟨ret_bb2 (dec_true (p := Asked M N) ⟨M1.out, G1.out, Hr.out.2⟩).symm HV.out.symm, EW.out.trans' (Y2.out.trans' Hr.out.1)⟩

set_option maxHeartbeats 3200000 in
set_option maxRecDepth 100000 in
theorem areStatesOn_any {w : World} {vm vn vs : Value} {M : Mach} {N : Net} {s : List Int} (h : MachAt w vm M) (k : NetAt w vn N) (hs : IntSl w vs s) : Calls Try.prog 91 #[vm, vn, vs] w fun e w' => e = .returned (.bool (dec (Sts M N s))) ∧ Ext w w' := by
  have HS := Lib.hid hs
  obtain ⟨sa, sc, rfl⟩ := hs.isSlice
  obtain ⟨-, sm, sn⟩ := isLen hs
  unfold maxLen at sm
  clear hs
  have HM := Lib.hid h
  have HN := Lib.hid k
  obtain ⟨a3, c3, a4, c4, a5, c5, a6, c6, rfl, h3, -⟩ := h
  obtain ⟨v0, v1, v2, rfl, hE, -, hP⟩ := k
  obtain ⟨W1, hW1⟩ : ∃ W1, W1 = twoBox w (.int .i64 M.deg) (.int .i64 M.sts) (.int .i64 M.msgs) (.slice a3 M.start.length c3) (.slice a4 M.send.length c4) (.slice a5 M.cls.length c5) (.slice a6 M.out.length c6) v0 v1 v2 := ⟨_, rfl⟩
  have EW := Lib.hid (show Ext w W1 by rw [hW1]; exact twoBox_ext _ _ _ _ _ _ _ _ _ _ _)
  have RA := Lib.hid (show W1.rowIs w.heap.size 31 7 (sept (.int .i64 M.deg) (.int .i64 M.sts) (.int .i64 M.msgs) (.slice a3 M.start.length c3) (.slice a4 M.send.length c4) (.slice a5 M.cls.length c5) (.slice a6 M.out.length c6)) by rw [hW1]; exact twoBox_m _ _ _ _ _ _ _ _ _ _ _)
  have RB := Lib.hid (show W1.rowIs (w.heap.size + 1) 43 3 (tri v0 v1 v2) by rw [hW1]; exact twoBox_n _ _ _ _ _ _ _ _ _ _ _)
  have HE3 := Lib.hid h3
  have HNE := Lib.hid hE
  have HNP := Lib.hid hP
  clear h3 hE hP
  obtain ⟨p0, p1, p2, p3, p4, p5, p6⟩ := row7_facts RA.out
  obtain ⟨q0, q1, q2, -, -, -⟩ := row3_facts RB.out
  unfold twoBox at hW1
  obtain ⟨ea, eb, eo, ec, rfl, -, el, em, -⟩ := HNE.out
  unfold maxLen at em
  go_enter Try.func91, Try.ntmps91
  go_upto_region 1 with fail
  rw [← hW1]
  clear hW1
  go_wp2_with fail
  (with_reducible refine (runsOn_any (HM.out.ext EW.out) (HN.out.ext EW.out)).mono ?_)
  rintro e w2 ⟨rfl, hx⟩
  have Y1 := Lib.hid (hx)
  clear hx p0 p1 p2 p3 p4 p5 p6 q0 q1 q2
  obtain ⟨p0, p1, p2, p3, p4, p5, p6⟩ := row7_facts (row_ext RA.out Y1.out)
  obtain ⟨q0, q1, q2, -, -, -⟩ := row3_facts (row_ext RB.out Y1.out)
  by_cases e1 : Asked M N
  case neg =>
    have D := Lib.hid (show ¬ Sts M N s from fun h => e1 h.1)
    rw [dec_false e1]
    clear e1
    go_wp2
    go_ret
    exact ⟨ret_f D.out, EW.out.trans' Y1.out⟩
  rw [dec_true e1]
  obtain ⟨g3, g4⟩ : 0 ≤ M.sts ∧ M.sts ≤ 1048576 := by have := e1.1.1.2.1; unfold InB at this; omega
  by_cases e2 : (s.length : Int) = (N.ends.length : Int)
  case neg =>
    have b2 : ((s.length : Int) == (N.ends.length : Int)) = false := beq_eq_false_iff_ne.2 e2
    have D := Lib.hid (show ¬ Sts M N s from fun h => e2 (by have := h.2.1; omega))
    clear e1 e2
    go_wp2
    go_ret
    exact ⟨ret_f D.out, EW.out.trans' Y1.out⟩
  have b2 : ((s.length : Int) == (N.ends.length : Int)) = true := beq_iff_eq.2 e2
  have HD := Lib.hid (dec_congr (p := AllIn s 0 (M.sts - 1)) (q := Sts M N s) ⟨fun k => ⟨e1, by omega, k⟩, fun k => k.2.2⟩)
  clear e1 e2
  go_wp2_with (go_at_call 77; (with_reducible refine (areBetween_any _ _ (HS.out.ext (EW.out.trans' Y1.out))).mono ?_); rintro e w' ⟨rfl, rfl⟩; rw [HD.out])
  go_ret
  exact ⟨rfl, EW.out.trans' Y1.out⟩
end Go.Proofs.Ytdcgpodjoalokaa
