/- The model's search for a clause; ClauseFor on both sides. -/
import Derived.Test.YtdcgpodjoalokaaMn
import Derived.Test.YtdcgpodjoalokaaMj
import Derived.Test.YtdcgpodjoalokaaMh
namespace Go.Proofs.Ytdcgpodjoalokaa
open Go.RowKit

set_option maxHeartbeats 1600000 in
set_option maxRecDepth 100000 in
theorem maFits_any {w : World} {c : Cl} {x vi : Value} {st : Int} {inb : List Int} (hx : IntSl w x c.inb) (hi : IntSl w vi inb) (hge : ∀ i, i < c.inb.length → -1 ≤ gi c.inb i) :
    Calls Try.prog 141 #[.agg #[.int .i64 c.st, x, .int .i64 c.nx], .int .i64 st, vi] w fun e w' => e = .returned (.bool (fitsB c st inb)) ∧ Ext w w' := by
  obtain ⟨xa, xq, rfl⟩ := hx.isSlice
  obtain ⟨ia, iq, rfl⟩ := hi.isSlice
  obtain ⟨W1, hW1⟩ : ∃ W1, W1 = w.alloc (.cells #[.int .i64 c.st, .slice xa c.inb.length xq, .int .i64 c.nx] 113) := ⟨_, rfl⟩
  have E1 := Lib.hid (show Ext w W1 by rw [hW1]; exact (Ext.rfl' _).alloc' _)
  have R1 := Lib.hid (show W1.rowIs w.heap.size 113 3 (tri (.int .i64 c.st) (.slice xa c.inb.length xq) (.int .i64 c.nx)) by rw [hW1]; exact row3_made _ _ _ _ _)
  obtain ⟨r0, r1, r2, -, -, -⟩ := row3_facts R1.out
  have HG := Lib.hid hge
  obtain ⟨-, xm, xn⟩ := isLen hx
  obtain ⟨-, im, im2⟩ := isLen hi
  unfold maxLen at xm im
  have HX := Lib.hid (hx.ext E1.out)
  have HI := Lib.hid (hi.ext E1.out)
  clear hx hi hge
  by_cases e1 : c.st = st
  case neg =>
    have b1 : (c.st != st) = true := bne_iff_ne.2 e1
    have E := Lib.hid (show fitsB c st inb = false by simp [fitsB, e1])
    clear e1
    go_enter Try.func141, Try.ntmps141
    go_upto_region 1 with fail
    rw [← hW1]
    clear hW1
    go_wp2
    go_ret
    exact ⟨ret_bool E.out.symm, E1.out⟩
  have b1 : (c.st != st) = false := bne_eq_false_iff_eq.2 e1
  by_cases e2 : c.inb.length = inb.length
  case neg =>
    have b2 : ((c.inb.length : Int) != (inb.length : Int)) = true := bne_iff_ne.2 (by omega)
    have E := Lib.hid (show fitsB c st inb = false by simp [fitsB, e2])
    clear e1 e2
    go_enter Try.func141, Try.ntmps141
    go_upto_region 1 with fail
    rw [← hW1]
    clear hW1
    go_wp2
    go_ret
    exact ⟨ret_bool E.out.symm, E1.out⟩
  have b2 : ((c.inb.length : Int) != (inb.length : Int)) = false := bne_eq_false_iff_eq.2 (by omega)
  have HE := Lib.hid (show fitsB c st inb = agreeB c inb by simp [fitsB, e1, e2])
  have HL := Lib.hid e2
  clear e1 e2
  go_enter Try.func141, Try.ntmps141
  go_upto_region 1 with fail
  rw [← hW1]
  clear hW1
  go_wp2
  clear b1 b2
  go_loop [24] (fun i => ∃ k : Nat, k ≤ c.inb.length ∧ i = .int .i64 k ∧ Hid (∀ j, j < k → agreeI (gi c.inb j) (gi inb j) = true)) (fun i => c.inb.length - (intOf i).toNat)
  case atStart => exact ⟨0, Nat.zero_le _, rfl, fun j hj => absurd hj (by omega)⟩
  case round =>
    obtain ⟨k, hk, rfl, Hr⟩ := hrel
    by_cases hlt : k < c.inb.length
    · have hkx : k < c.inb.length := hlt
      have hki : k < inb.length := by have := HL.out; omega
      obtain ⟨xb, xo, xc, xd, e, hxa, -, -, hxc⟩ := HX.out
      simp only [Value.slice.injEq] at e
      obtain ⟨rfl, -, rfl⟩ := e
      obtain rfl := hxa (by omega)
      obtain ⟨_, f1, rfl, -⟩ := hxc k hkx
      obtain ⟨ib, io, ic, id', e, hia, -, -, hic⟩ := HI.out
      simp only [Value.slice.injEq] at e
      obtain ⟨rfl, -, rfl⟩ := e
      obtain rfl := hia (by omega)
      obtain ⟨_, f2, rfl, -⟩ := hic k hki
      have hge := HG.out k hkx
      clear hxa hxc hia hic
      obtain ⟨x, hx⟩ : ∃ x, x = gi c.inb k := ⟨_, rfl⟩
      obtain ⟨y, hy⟩ : ∃ y, y = gi inb k := ⟨_, rfl⟩
      have HXX := Lib.hid hx
      have HYY := Lib.hid hy
      rw [← hx] at f1 hge
      rw [← hy] at f2
      clear hx hy
      by_cases h0 : x = -1
      · have HA := Lib.hid (show agreeI x y = true by simp [agreeI, h0])
        have b0 : decide (0 ≤ x) = false := decide_eq_false (by omega)
        clear h0 hge
        go_wp2
        go_round
        case rel =>
          refine ⟨k + 1, by omega, by go_num, fun j hj => ?_⟩
          by_cases e : j = k
          · subst e; rw [← HXX.out, ← HYY.out]; exact HA.out
          · exact Hr.out j (by omega)
        case measure => simp [intOf]; omega
      · have b0 : decide (0 ≤ x) = true := decide_eq_true (by omega)
        by_cases h1 : x = y
        · have HA := Lib.hid (show agreeI x y = true by simp [agreeI, h1])
          have b3 : (x != y) = false := bne_eq_false_iff_eq.2 h1
          clear h0 h1 hge
          go_wp2
          go_round
          case rel =>
            refine ⟨k + 1, by omega, by go_num, fun j hj => ?_⟩
            by_cases e : j = k
            · subst e; rw [← HXX.out, ← HYY.out]; exact HA.out
            · exact Hr.out j (by omega)
          case measure => simp [intOf]; omega
        · have b3 : (x != y) = true := bne_iff_ne.2 h1
          have E := Lib.hid (show fitsB c st inb = false by
            rw [HE.out]
            cases q : agreeB c inb
            · rfl
            · simp only [agreeB, List.all_eq_true, List.mem_range] at q
              have := q k hki
              rw [← HXX.out, ← HYY.out] at this
              simp [h0, h1] at this)
          clear h0 h1 hge
          go_wp2
          go_ret
          exact ⟨ret_bool E.out.symm, E1.out⟩
    · obtain rfl : k = c.inb.length := by omega
      have E := Lib.hid (show fitsB c st inb = true by
        rw [HE.out]
        simp only [agreeB, List.all_eq_true, List.mem_range]
        exact fun i hi => Hr.out i (by have := HL.out; omega))
      go_wp2
      go_ret
      exact ⟨ret_bool E.out.symm, E1.out⟩

set_option maxHeartbeats 1600000 in
set_option maxRecDepth 100000 in
theorem maClause_any {w : World} {v vi : Value} {M : Mach} {st : Int} {inb : List Int} (h : MachAt w v M) (hm : MachOK M) (hi : IntSl w vi inb) :
    Calls Try.prog 95 #[v, .int .i64 st, vi] w fun e w' => e = .returned (.int .i64 (clauseI M st inb)) ∧ Ext w w' := by
  obtain ⟨a3, c3, a4, c4, a5, c5, a6, c6, rfl, -, -, h5, -⟩ := h
  obtain ⟨ia, iq, rfl⟩ := hi.isSlice
  obtain ⟨W1, hW1⟩ : ∃ W1, W1 = w.alloc (.cells #[.int .i64 M.deg, .int .i64 M.sts, .int .i64 M.msgs, .slice a3 M.start.length c3, .slice a4 M.send.length c4, .slice a5 M.cls.length c5, .slice a6 M.out.length c6] 31) := ⟨_, rfl⟩
  have EW := Lib.hid (show Ext w W1 by rw [hW1]; exact (boxed7_ext _ _ _ _ _ _ _ _ _))
  have RW := Lib.hid (show W1.rowIs w.heap.size 31 7 (sept (.int .i64 M.deg) (.int .i64 M.sts) (.int .i64 M.msgs) (.slice a3 M.start.length c3) (.slice a4 M.send.length c4) (.slice a5 M.cls.length c5) (.slice a6 M.out.length c6)) by rw [hW1]; exact (boxed7_row _ _ _ _ _ _ _ _ _))
  have H5 := Lib.hid (h5.ext EW.out)
  have HI := Lib.hid (hi.ext EW.out)
  obtain ⟨-, m5, n5⟩ := clLen h5
  unfold maxLen at m5
  have HM := Lib.hid hm.2.2.2.1
  have HMM := Lib.hid hm.1
  obtain ⟨p0, p1, p2, p3, p4, p5, p6⟩ := row7_facts RW.out
  clear h5 hi hm p0 p1 p2 p3 p4 p6
  go_enter Try.func95, Try.ntmps95
  go_upto_region 1 with fail
  rw [← hW1]
  clear hW1
  go_wp2
  go_loopg [12] M.cls.length (fun g i wr => ∃ k : Nat, k ≤ M.cls.length ∧ g = M.cls.length - k ∧ i = .int .i64 k ∧ Hid (Ext W1 wr ∧ ∀ j, j < k → fitsB (gc M.cls j) st inb = false))
  case atStart => exact ⟨0, Nat.zero_le _, rfl, rfl, Ext.rfl' _, fun j hj => absurd hj (by omega)⟩
  case round =>
    obtain ⟨k, hk, rfl, rfl, Hr⟩ := hrel
    by_cases hlt : k < M.cls.length
    · obtain ⟨b, o, rfl, q1, ⟨xa, xn, xq, q2, rfl, q3⟩, q4, -, -⟩ := clRow H5.out hlt
      have q1 := Hr.out.1.cell' q1
      have q2 := Hr.out.1.cell' q2
      have q4 := Hr.out.1.cell' q4
      have HGE := Lib.hid (show ∀ i, i < (gc M.cls k).inb.length → -1 ≤ gi (gc M.cls k).inb i from fun i hi => ((HM.out.2 k hlt).2.2 i hi).1)
      obtain ⟨c, hc⟩ : ∃ c, c = gc M.cls k := ⟨_, rfl⟩
      have HC := Lib.hid hc
      rw [← hc] at q1 q2 q3 q4 HGE
      clear hc
      obtain ⟨W2, hW2⟩ : ∃ W2, W2 = wr.alloc (.cells #[.int .i64 c.st, .slice xa c.inb.length xq, .int .i64 c.nx] 113) := ⟨_, rfl⟩
      have E2 := Lib.hid (show Ext W1 W2 by rw [hW2]; exact (Hr.out.1.alloc' _))
      have R2 := Lib.hid (show W2.rowIs wr.heap.size 113 3 (tri (.int .i64 c.st) (.slice xa c.inb.length xq) (.int .i64 c.nx)) by rw [hW2]; exact row3_made _ _ _ _ _)
      have HX := Lib.hid (q3.ext E2.out)
      have HI2 := Lib.hid (HI.out.ext E2.out)
      obtain ⟨s0, s1, s2, -, -, -⟩ := row3_facts R2.out
      rw [hW2] at s0 s1 s2
      clear q3
      cases hsp : fitsB c st inb
      · have Hsp := Lib.hid hsp
        clear hsp
        go_wp2_with (go_at_call 141; rw [← hW2]; (with_reducible refine (maFits_any HX.out HI2.out HGE.out).mono ?_); rintro e w3 ⟨rfl, hx⟩; rw [Hsp.out]; have HY := Lib.hid (E2.out.trans' hx); clear hx)
        go_roundg (M.cls.length - (k + 1))
        case measure => omega
        case rel =>
          refine ⟨k + 1, by omega, rfl, by go_num, HY.out, fun j hj => ?_⟩
          by_cases e : j = k
          · subst e; rw [← HC.out]; exact Hsp.out
          · exact Hr.out.2 j (by omega)
      · have Hsp := Lib.hid hsp
        have HIX := Lib.hid (show clauseI M st inb = (k : Int) from fstP_hit (p := fun k => fitsB (gc M.cls k) st inb) Hr.out.2 (by show fitsB (gc M.cls k) st inb = true; rw [← HC.out]; exact Hsp.out) _ hlt)
        clear hsp
        go_wp2_with (go_at_call 141; rw [← hW2]; (with_reducible refine (maFits_any HX.out HI2.out HGE.out).mono ?_); rintro e w3 ⟨rfl, hx⟩; rw [Hsp.out]; have HY := Lib.hid (E2.out.trans' hx); clear hx)
        go_ret
        exact ⟨ret_iM HIX.out.symm, EW.out.trans' HY.out⟩
    · obtain rfl : k = M.cls.length := by omega
      have HIX := Lib.hid (show clauseI M st inb = -1 from fstP_none _ Hr.out.2)
      go_wp2
      go_ret
      exact ⟨ret_iM HIX.out.symm, EW.out.trans' Hr.out.1⟩

def ClfB (M : Mach) (st : Int) (inb : List Int) : Prop := MachOK M ∧ InB st 0 (M.sts - 1) ∧ (inb.length : Int) ≤ M.deg ∧ AllIn inb 0 (M.msgs - 1) ∧ clauseI M st inb ≠ -1
noncomputable def clfAns (M : Mach) (st : Int) (inb : List Int) : Int := if dec (ClfB M st inb) = true then clauseI M st inb else 0
theorem clfAns_t {M : Mach} {st : Int} {inb : List Int} (h : ClfB M st inb) : clfAns M st inb = clauseI M st inb := by unfold clfAns; rw [if_pos (dec_true h)]
theorem clfAns_f {M : Mach} {st : Int} {inb : List Int} (h : ¬ ClfB M st inb) : clfAns M st inb = 0 := by unfold clfAns; rw [dec_false h]; rfl
theorem ret_ib {a b : Int} {c d : Bool} (h : a = b) (k : c = d) : Ending.returned (.tuple #[.int .i64 a, .bool c]) = .returned (.tuple #[.int .i64 b, .bool d]) := by rw [h, k]

set_option maxHeartbeats 3200000 in
set_option maxRecDepth 100000 in
theorem specClauseFor_any {w : World} {v vi : Value} {M : Mach} {inb : List Int} (st : Int) (h : MachAt w v M) (hi : IntSl w vi inb) (_ : inb.length ≤ 1048576) : Calls Try.prog 42 #[v, .int .i64 st, vi] w fun e w' => e = .returned (.tuple #[.int .i64 (clfAns M st inb), .bool (dec (ClfB M st inb))]) ∧ Ext w w' := by
  have HM := Lib.hid h
  have HI := Lib.hid hi
  obtain ⟨a3, c3, a4, c4, a5, c5, a6, c6, rfl⟩ := h.agg
  obtain ⟨ia, iq, rfl⟩ := hi.isSlice
  obtain ⟨W1, hW1⟩ : ∃ W1, W1 = w.alloc (.cells #[.int .i64 M.deg, .int .i64 M.sts, .int .i64 M.msgs, .slice a3 M.start.length c3, .slice a4 M.send.length c4, .slice a5 M.cls.length c5, .slice a6 M.out.length c6] 31) := ⟨_, rfl⟩
  have EW := Lib.hid (show Ext w W1 by rw [hW1]; exact (boxed7_ext _ _ _ _ _ _ _ _ _))
  have RW := Lib.hid (show W1.rowIs w.heap.size 31 7 (sept (.int .i64 M.deg) (.int .i64 M.sts) (.int .i64 M.msgs) (.slice a3 M.start.length c3) (.slice a4 M.send.length c4) (.slice a5 M.cls.length c5) (.slice a6 M.out.length c6)) by rw [hW1]; exact (boxed7_row _ _ _ _ _ _ _ _ _))
  obtain ⟨-, im, im2⟩ := isLen hi
  unfold maxLen at im
  obtain ⟨p0, p1, p2, p3, p4, p5, p6⟩ := row7_facts RW.out
  clear h hi
  go_enter Try.func42, Try.ntmps42
  go_upto_region 1 with fail
  rw [← hW1]
  clear hW1
  go_wp2_with fail
  (with_reducible refine (maGood_any (HM.out.ext EW.out)).mono ?_)
  rintro e w2 ⟨rfl, hx⟩
  have HX := Lib.hid (EW.out.trans' hx)
  have RW2 := Lib.hid (row_ext RW.out hx)
  clear hx p0 p1 p2 p3 p4 p5 p6
  obtain ⟨p0, p1, p2, p3, p4, p5, p6⟩ := row7_facts RW2.out
  by_cases e1 : MachOK M
  case neg =>
    have D := Lib.hid (show ¬ ClfB M st inb from fun h => e1 h.1)
    rw [dec_false e1]
    clear e1
    go_wp2
    go_ret2
    exact ⟨ret_ib (clfAns_f D.out).symm (dec_false D.out).symm, HX.out⟩
  rw [dec_true e1]
  have hcl : M.cls.length ≤ 1048576 := by have := e1.2.2.2.1.1; omega
  obtain ⟨⟨g1, g2⟩, ⟨g3, g4⟩, ⟨g5, g6⟩⟩ := e1.1
  have E1 := Lib.hid e1
  by_cases e2 : InB st 0 (M.sts - 1)
  case neg =>
    have B2 := Lib.hid (dec_false e2)
    have D := Lib.hid (show ¬ ClfB M st inb from fun h => e2 h.2.1)
    clear e1 e2
    go_wp2_with (go_at_call 93; (with_reducible refine (l1In_any _ _ _ _).mono ?_); rintro e w' ⟨rfl, rfl⟩; rw [B2.out])
    go_ret2
    exact ⟨ret_ib (clfAns_f D.out).symm (dec_false D.out).symm, HX.out⟩
  have B2 := Lib.hid (dec_true e2)
  have E2 := Lib.hid e2
  clear e2
  by_cases e3 : (inb.length : Int) ≤ M.deg
  case neg =>
    have D := Lib.hid (show ¬ ClfB M st inb from fun h => e3 h.2.2.1)
    clear e1
    go_wp2_with (go_at_call 93; (with_reducible refine (l1In_any _ _ _ _).mono ?_); rintro e w' ⟨rfl, rfl⟩; rw [B2.out])
    go_ret2
    exact ⟨ret_ib (clfAns_f D.out).symm (dec_false D.out).symm, HX.out⟩
  by_cases e4 : AllIn inb 0 (M.msgs - 1)
  case neg =>
    have B4 := Lib.hid (dec_false e4)
    have D := Lib.hid (show ¬ ClfB M st inb from fun h => e4 h.2.2.2.1)
    clear e1 e4
    go_wp2_with (first | (go_at_call 93; (with_reducible refine (l1In_any _ _ _ _).mono ?_); rintro e w' ⟨rfl, rfl⟩; rw [B2.out]) | (go_at_call 94; (with_reducible refine (l1All_any _ _ (HI.out.ext HX.out)).mono ?_); rintro e w' ⟨rfl, rfl⟩; rw [B4.out]))
    go_ret2
    exact ⟨ret_ib (clfAns_f D.out).symm (dec_false D.out).symm, HX.out⟩
  have B4 := Lib.hid (dec_true e4)
  have E4 := Lib.hid e4
  clear e4
  obtain ⟨ci1, -⟩ := clauseI_range M st inb
  by_cases e5 : clauseI M st inb = -1
  case pos =>
    have b5 : decide (clauseI M st inb < 0) = true := decide_eq_true (by omega)
    have D := Lib.hid (show ¬ ClfB M st inb from fun h => h.2.2.2.2 e5)
    clear e1 e5
    go_wp2_with (first | (go_at_call 93; (with_reducible refine (l1In_any _ _ _ _).mono ?_); rintro e w' ⟨rfl, rfl⟩; rw [B2.out]) | (go_at_call 94; (with_reducible refine (l1All_any _ _ (HI.out.ext HX.out)).mono ?_); rintro e w' ⟨rfl, rfl⟩; rw [B4.out]) | (go_at_call 95; (with_reducible refine (maClause_any (HM.out.ext HX.out) E1.out (HI.out.ext HX.out)).mono ?_); rintro e w3 ⟨rfl, hx⟩; have HX3 := Lib.hid (HX.out.trans' hx); obtain ⟨z0, z1, z2, z3, z4, z5, z6⟩ := row7_facts (row_ext RW2.out hx); clear hx p0 p1 p2 p3 p4 p5 p6))
    go_ret2
    exact ⟨ret_ib (clfAns_f D.out).symm (dec_false D.out).symm, HX3.out⟩
  have b5 : decide (clauseI M st inb < 0) = false := decide_eq_false (by omega)
  have D := Lib.hid (show ClfB M st inb from ⟨E1.out, E2.out, e3, E4.out, e5⟩)
  clear e1 e5
  go_wp2_with (first | (go_at_call 93; (with_reducible refine (l1In_any _ _ _ _).mono ?_); rintro e w' ⟨rfl, rfl⟩; rw [B2.out]) | (go_at_call 94; (with_reducible refine (l1All_any _ _ (HI.out.ext HX.out)).mono ?_); rintro e w' ⟨rfl, rfl⟩; rw [B4.out]) | (go_at_call 95; (with_reducible refine (maClause_any (HM.out.ext HX3.out) E1.out (HI.out.ext HX3.out)).mono ?_); rintro e w4 ⟨rfl, hx⟩; have HX4 := Lib.hid (HX3.out.trans' hx); clear hx z0 z1 z2 z3 z4 z5 z6) | (go_at_call 95; (with_reducible refine (maClause_any (HM.out.ext HX.out) E1.out (HI.out.ext HX.out)).mono ?_); rintro e w3 ⟨rfl, hx⟩; have HX3 := Lib.hid (HX.out.trans' hx); obtain ⟨z0, z1, z2, z3, z4, z5, z6⟩ := row7_facts (row_ext RW2.out hx); clear hx p0 p1 p2 p3 p4 p5 p6))
  go_ret2
  exact ⟨ret_ib (clfAns_t D.out).symm (dec_true D.out).symm, HX4.out⟩
set_option maxHeartbeats 3200000 in
set_option maxRecDepth 100000 in
theorem implClauseFor_any {w : World} {v vi : Value} {M : Mach} {inb : List Int} (st : Int) (h : MachAt w v M) (hi : IntSl w vi inb) (_ : inb.length ≤ 1048576) : Calls Try.prog 43 #[v, .int .i64 st, vi] w fun e w' => e = .returned (.tuple #[.int .i64 (clfAns M st inb), .bool (dec (ClfB M st inb))]) ∧ Ext w w' := by
  have HM := Lib.hid h
  have HI := Lib.hid hi
  obtain ⟨a3, c3, a4, c4, a5, c5, a6, c6, rfl⟩ := h.agg
  obtain ⟨ia, iq, rfl⟩ := hi.isSlice
  obtain ⟨W1, hW1⟩ : ∃ W1, W1 = w.alloc (.cells #[.int .i64 M.deg, .int .i64 M.sts, .int .i64 M.msgs, .slice a3 M.start.length c3, .slice a4 M.send.length c4, .slice a5 M.cls.length c5, .slice a6 M.out.length c6] 31) := ⟨_, rfl⟩
  have EW := Lib.hid (show Ext w W1 by rw [hW1]; exact (boxed7_ext _ _ _ _ _ _ _ _ _))
  have RW := Lib.hid (show W1.rowIs w.heap.size 31 7 (sept (.int .i64 M.deg) (.int .i64 M.sts) (.int .i64 M.msgs) (.slice a3 M.start.length c3) (.slice a4 M.send.length c4) (.slice a5 M.cls.length c5) (.slice a6 M.out.length c6)) by rw [hW1]; exact (boxed7_row _ _ _ _ _ _ _ _ _))
  obtain ⟨-, im, im2⟩ := isLen hi
  unfold maxLen at im
  obtain ⟨p0, p1, p2, p3, p4, p5, p6⟩ := row7_facts RW.out
  clear h hi
  go_enter Try.func43, Try.ntmps43
  go_upto_region 1 with fail
  rw [← hW1]
  clear hW1
  go_wp2_with fail
  (with_reducible refine (isMachine_any (HM.out.ext EW.out)).mono ?_)
  rintro e w2 ⟨rfl, hx⟩
  have HX := Lib.hid (EW.out.trans' hx)
  have RW2 := Lib.hid (row_ext RW.out hx)
  clear hx p0 p1 p2 p3 p4 p5 p6
  obtain ⟨p0, p1, p2, p3, p4, p5, p6⟩ := row7_facts RW2.out
  by_cases e1 : MachOK M
  case neg =>
    have D := Lib.hid (show ¬ ClfB M st inb from fun h => e1 h.1)
    rw [dec_false e1]
    clear e1
    go_wp2
    go_ret2
    exact ⟨ret_ib (clfAns_f D.out).symm (dec_false D.out).symm, HX.out⟩
  rw [dec_true e1]
  have hcl : M.cls.length ≤ 1048576 := by have := e1.2.2.2.1.1; omega
  obtain ⟨⟨g1, g2⟩, ⟨g3, g4⟩, ⟨g5, g6⟩⟩ := e1.1
  have E1 := Lib.hid e1
  by_cases e2 : InB st 0 (M.sts - 1)
  case neg =>
    have B2 := Lib.hid (dec_false e2)
    have D := Lib.hid (show ¬ ClfB M st inb from fun h => e2 h.2.1)
    clear e1 e2
    go_wp2_with (go_at_call 73; (with_reducible refine (isBetweenK_any _ _ _ _).mono ?_); rintro e w' ⟨rfl, rfl⟩; rw [B2.out])
    go_ret2
    exact ⟨ret_ib (clfAns_f D.out).symm (dec_false D.out).symm, HX.out⟩
  have B2 := Lib.hid (dec_true e2)
  have E2 := Lib.hid e2
  clear e2
  by_cases e3 : (inb.length : Int) ≤ M.deg
  case neg =>
    have D := Lib.hid (show ¬ ClfB M st inb from fun h => e3 h.2.2.1)
    clear e1
    go_wp2_with (go_at_call 73; (with_reducible refine (isBetweenK_any _ _ _ _).mono ?_); rintro e w' ⟨rfl, rfl⟩; rw [B2.out])
    go_ret2
    exact ⟨ret_ib (clfAns_f D.out).symm (dec_false D.out).symm, HX.out⟩
  by_cases e4 : AllIn inb 0 (M.msgs - 1)
  case neg =>
    have B4 := Lib.hid (dec_false e4)
    have D := Lib.hid (show ¬ ClfB M st inb from fun h => e4 h.2.2.2.1)
    clear e1 e4
    go_wp2_with (first | (go_at_call 73; (with_reducible refine (isBetweenK_any _ _ _ _).mono ?_); rintro e w' ⟨rfl, rfl⟩; rw [B2.out]) | (go_at_call 77; (with_reducible refine (areBetween_any _ _ (HI.out.ext HX.out)).mono ?_); rintro e w' ⟨rfl, rfl⟩; rw [B4.out]))
    go_ret2
    exact ⟨ret_ib (clfAns_f D.out).symm (dec_false D.out).symm, HX.out⟩
  have B4 := Lib.hid (dec_true e4)
  have E4 := Lib.hid e4
  clear e4
  obtain ⟨ci1, -⟩ := clauseI_range M st inb
  by_cases e5 : clauseI M st inb = -1
  case pos =>
    have b5 : (clauseI M st inb == -1) = true := beq_iff_eq.2 e5
    have D := Lib.hid (show ¬ ClfB M st inb from fun h => h.2.2.2.2 e5)
    clear e1 e5
    go_wp2_with (first | (go_at_call 73; (with_reducible refine (isBetweenK_any _ _ _ _).mono ?_); rintro e w' ⟨rfl, rfl⟩; rw [B2.out]) | (go_at_call 77; (with_reducible refine (areBetween_any _ _ (HI.out.ext HX.out)).mono ?_); rintro e w' ⟨rfl, rfl⟩; rw [B4.out]) | (go_at_call 96; (with_reducible refine (clauseFor_any (HM.out.ext HX.out) hcl (HI.out.ext HX.out)).mono ?_); rintro e w3 ⟨rfl, hx⟩; have HX3 := Lib.hid (HX.out.trans' hx); clear hx p0 p1 p2 p3 p4 p5 p6))
    go_ret2
    exact ⟨ret_ib (clfAns_f D.out).symm (dec_false D.out).symm, HX3.out⟩
  have b5 : (clauseI M st inb == -1) = false := beq_eq_false_iff_ne.2 e5
  have D := Lib.hid (show ClfB M st inb from ⟨E1.out, E2.out, e3, E4.out, e5⟩)
  clear e1 e5
  go_wp2_with (first | (go_at_call 73; (with_reducible refine (isBetweenK_any _ _ _ _).mono ?_); rintro e w' ⟨rfl, rfl⟩; rw [B2.out]) | (go_at_call 77; (with_reducible refine (areBetween_any _ _ (HI.out.ext HX.out)).mono ?_); rintro e w' ⟨rfl, rfl⟩; rw [B4.out]) | (go_at_call 96; (with_reducible refine (clauseFor_any (HM.out.ext HX.out) hcl (HI.out.ext HX.out)).mono ?_); rintro e w3 ⟨rfl, hx⟩; have HX3 := Lib.hid (HX.out.trans' hx); clear hx p0 p1 p2 p3 p4 p5 p6))
  go_ret2
  exact ⟨ret_ib (clfAns_t D.out).symm (dec_true D.out).symm, HX3.out⟩
end Go.Proofs.Ytdcgpodjoalokaa
