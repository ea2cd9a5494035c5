/- The program's areClauses and IsMachine. -/
import Derived.Test.YtdcgpodjoalokaaMg
namespace Go.Proofs.Ytdcgpodjoalokaa
open Go.RowKit

theorem pairSl (w : World) (x y : Int) (hx : inI64 x) (hy : inI64 y) : IntSl (w.alloc (.cells #[.int .i64 x, .int .i64 y] 3)) (.slice (some ⟨w.heap.size, 0, none⟩) 2 2) [x, y] := by
  have hr : (w.alloc (.cells #[.int .i64 x, .int .i64 y] 3)).rowIs w.heap.size 3 2 (fun i => .int .i64 (gi [x, y] i)) := World.rowIs_alloc w #[.int .i64 x, .int .i64 y] 3 _ fun i hi => by
    have h : i < 2 := hi
    match i, h with
    | 0, _ => rfl
    | 1, _ => rfl
  refine ⟨_, w.heap.size, 0, 2, rfl, fun _ => rfl, Nat.le_refl _, by unfold maxLen; omega, fun i hi => ⟨_, ?_, rfl, ?_⟩⟩
  · rw [Nat.zero_add]; exact hr.cell hi
  · have h : i < 2 := hi
    match i, h with
    | 0, _ => exact hx
    | 1, _ => exact hy
theorem allIn2 (x y lo hi : Int) : AllIn [x, y] lo hi ↔ InB x lo hi ∧ InB y lo hi := by
  constructor
  · intro h; exact ⟨h 0 (by simp), h 1 (by simp)⟩
  · rintro ⟨h1, h2⟩ i hi
    have h : i < 2 := hi
    match i, h with
    | 0, _ => exact h1
    | 1, _ => exact h2

set_option maxHeartbeats 1600000 in
set_option maxRecDepth 100000 in
theorem areClauses_any {w : World} {v : Value} {M : Mach} (h : MachAt w v M) (hh : HeadOK M) : Calls Try.prog 76 #[v] w fun e w' => e = .returned (.bool (dec (ClsOK M))) ∧ Ext w w' := by
  obtain ⟨a3, c3, a4, c4, a5, c5, a6, c6, rfl, h3, h4, h5, h6, h7⟩ := h
  obtain ⟨W1, hW1⟩ : ∃ W1, W1 = w.alloc (.cells #[.int .i64 M.deg, .int .i64 M.sts, .int .i64 M.msgs, .slice a3 M.start.length c3, .slice a4 M.send.length c4, .slice a5 M.cls.length c5, .slice a6 M.out.length c6] 31) := ⟨_, rfl⟩
  have EW := Lib.hid (show Ext w W1 by rw [hW1]; exact (boxed7_ext _ _ _ _ _ _ _ _ _))
  have RW := Lib.hid (show W1.rowIs w.heap.size 31 7 (sept (.int .i64 M.deg) (.int .i64 M.sts) (.int .i64 M.msgs) (.slice a3 M.start.length c3) (.slice a4 M.send.length c4) (.slice a5 M.cls.length c5) (.slice a6 M.out.length c6)) by rw [hW1]; exact (boxed7_row _ _ _ _ _ _ _ _ _))
  have H3 := Lib.hid (h3.ext EW.out)
  have H4 := Lib.hid (h4.ext EW.out)
  have H5 := Lib.hid (h5.ext EW.out)
  have H6 := Lib.hid (h6.ext EW.out)
  have H7 := Lib.hid h7
  obtain ⟨-, m3, n3⟩ := ssLen h3
  obtain ⟨-, m4, n4⟩ := ssLen h4
  obtain ⟨-, m5, n5⟩ := clLen h5
  obtain ⟨-, m6, n6⟩ := isLen h6
  unfold maxLen at m3 m4 m5 m6
  obtain ⟨p0, p1, p2, p3, p4, p5, p6⟩ := row7_facts RW.out
  clear h3 h4 h5 h6 h7
  obtain ⟨⟨g1, g2⟩, ⟨g3, g4⟩, ⟨g5, g6⟩⟩ := hh
  by_cases e0 : M.cls.length ≤ 60
  case neg =>
    have D := Lib.hid (show ¬ ClsOK M from fun k => e0 k.1)
    go_enter Try.func76, Try.ntmps76
    go_upto_region 1 with fail
    rw [← hW1]
    clear hW1
    go_wp2
    go_ret
    exact ⟨ret_f D.out, EW.out⟩
  have E0 := Lib.hid e0
  go_enter Try.func76, Try.ntmps76
  go_upto_region 1 with fail
  rw [← hW1]
  clear hW1
  go_wp2
  go_loopg [12] M.cls.length (fun g i wr => ∃ k : Nat, k ≤ M.cls.length ∧ g = M.cls.length - k ∧ i = .int .i64 k ∧ Hid (Ext W1 wr ∧ ∀ i, i < k → ClOK M (gc M.cls i)))
  case atStart => exact ⟨0, Nat.zero_le _, rfl, rfl, Ext.rfl' _, fun j hj => absurd hj (by omega)⟩
  case round =>
    obtain ⟨k, hk, rfl, rfl, Hr⟩ := hrel
    by_cases hlt : k < M.cls.length
    · obtain ⟨b, o, rfl, q1, ⟨xa, xn, xq, q2, rfl, q3⟩, q4, r1, r2⟩ := clRow H5.out hlt
      have q1 := Hr.out.1.cell' q1
      have q2 := Hr.out.1.cell' q2
      have q4 := Hr.out.1.cell' q4
      obtain ⟨-, m1, n1⟩ := isLen q3
      unfold maxLen at m1
      obtain ⟨c, hc⟩ : ∃ c, c = gc M.cls k := ⟨_, rfl⟩
      have HC := Lib.hid hc
      rw [← hc] at q1 q2 q3 q4 r1 r2 n1
      clear hc
      obtain ⟨W2, hW2⟩ : ∃ W2, W2 = (wr.alloc (.cells #[.int .i64 c.st, .slice xa c.inb.length xq, .int .i64 c.nx] 113)).alloc (.cells #[.int .i64 c.st, .int .i64 c.nx] 3) := ⟨_, rfl⟩
      have E2 := Lib.hid (show Ext W1 W2 by rw [hW2]; exact (Hr.out.1.alloc' _).alloc' _)
      have R2 := Lib.hid (show W2.rowIs wr.heap.size 113 3 (tri (.int .i64 c.st) (.slice xa c.inb.length xq) (.int .i64 c.nx)) by rw [hW2]; exact (row3_made _ _ _ _ _).alloc _)
      have HP := Lib.hid (show IntSl W2 (.slice (some ⟨wr.heap.size + 1, 0, none⟩) 2 2) [c.st, c.nx] by rw [hW2]; simpa using pairSl (wr.alloc (.cells #[.int .i64 c.st, .slice xa c.inb.length xq, .int .i64 c.nx] 113)) c.st c.nx r1 r2)
      have HI := Lib.hid (q3.ext E2.out)
      obtain ⟨s0, s1, s2, -, -, -⟩ := row3_facts R2.out
      obtain ⟨p0', p1', p2', p3', p4', p5', p6'⟩ := row7_facts (row_ext RW.out E2.out)
      clear p0 p1 p2 p3 p4 p5 p6 p3' p4' p5' p6' q3
      rw [hW2] at s0 s1 s2 p0' p1' p2' HP HI
      by_cases e1 : InB c.st 0 (M.sts - 1) ∧ InB c.nx 0 (M.sts - 1)
      case neg =>
        have B1 := Lib.hid (dec_false (p := AllIn [c.st, c.nx] 0 (M.sts - 1)) fun h => e1 ((allIn2 _ _ _ _).1 h))
        have D := Lib.hid (show ¬ ClsOK M from fun h => e1 (by have := (h.2 k hlt).1; rw [← HC.out] at this; exact this))
        clear e1
        go_wp2_with (go_at_call 77; (with_reducible refine (areBetween_any _ _ HP.out).mono ?_); rintro e w' ⟨rfl, rfl⟩; rw [B1.out])
        rw [← hW2]
        go_ret
        exact ⟨ret_f D.out, EW.out.trans' E2.out⟩
      have B1 := Lib.hid (dec_true (p := AllIn [c.st, c.nx] 0 (M.sts - 1)) ((allIn2 _ _ _ _).2 e1))
      have E1 := Lib.hid e1
      clear e1
      by_cases e2 : (c.inb.length : Int) ≤ M.deg
      case neg =>
        have D := Lib.hid (show ¬ ClsOK M from fun h => e2 (by have := (h.2 k hlt).2.1; rw [← HC.out] at this; exact this))
        go_wp2_with (go_at_call 77; (with_reducible refine (areBetween_any _ _ HP.out).mono ?_); rintro e w' ⟨rfl, rfl⟩; rw [B1.out])
        rw [← hW2]
        go_ret
        exact ⟨ret_f D.out, EW.out.trans' E2.out⟩
      by_cases e3 : AllIn c.inb (-1) (M.msgs - 1)
      case neg =>
        have B3 := Lib.hid (dec_false e3)
        have D := Lib.hid (show ¬ ClsOK M from fun h => e3 (by have := (h.2 k hlt).2.2; rw [← HC.out] at this; exact this))
        clear e3
        go_wp2_with (first | (go_at_call 77; (with_reducible refine (areBetween_any _ _ HP.out).mono ?_); rintro e w' ⟨rfl, rfl⟩; rw [B1.out]) | (go_at_call 77; (with_reducible refine (areBetween_any _ _ HI.out).mono ?_); rintro e w' ⟨rfl, rfl⟩; rw [B3.out]))
        rw [← hW2]
        go_ret
        exact ⟨ret_f D.out, EW.out.trans' E2.out⟩
      have B3 := Lib.hid (dec_true e3)
      have E3 := Lib.hid e3
      clear e3
      go_wp2_with (first | (go_at_call 77; (with_reducible refine (areBetween_any _ _ HP.out).mono ?_); rintro e w' ⟨rfl, rfl⟩; rw [B1.out]) | (go_at_call 77; (with_reducible refine (areBetween_any _ _ HI.out).mono ?_); rintro e w' ⟨rfl, rfl⟩; rw [B3.out]))
      rw [← hW2]
      go_roundg (M.cls.length - (k + 1))
      case measure => omega
      case rel =>
        refine ⟨k + 1, by omega, rfl, by go_num, E2.out, fun j hj => ?_⟩
        by_cases e : j = k
        · subst e; rw [← HC.out]; exact ⟨E1.out, e2, E3.out⟩
        · exact Hr.out.2 j (by omega)
    · obtain rfl : k = M.cls.length := by omega
      go_wp2
      go_ret
      exact ⟨ret_t ⟨E0.out, Hr.out.2⟩, EW.out.trans' Hr.out.1⟩

set_option maxHeartbeats 1600000 in
set_option maxRecDepth 100000 in
theorem isMachine_any {w : World} {v : Value} {M : Mach} (h : MachAt w v M) : Calls Try.prog 22 #[v] w fun e w' => e = .returned (.bool (dec (MachOK M))) ∧ Ext w w' := by
  obtain ⟨a3, c3, a4, c4, a5, c5, a6, c6, rfl, h3, h4, h5, h6, h7⟩ := h
  obtain ⟨W1, hW1⟩ : ∃ W1, W1 = w.alloc (.cells #[.int .i64 M.deg, .int .i64 M.sts, .int .i64 M.msgs, .slice a3 M.start.length c3, .slice a4 M.send.length c4, .slice a5 M.cls.length c5, .slice a6 M.out.length c6] 31) := ⟨_, rfl⟩
  have EW := Lib.hid (show Ext w W1 by rw [hW1]; exact (boxed7_ext _ _ _ _ _ _ _ _ _))
  have RW := Lib.hid (show W1.rowIs w.heap.size 31 7 (sept (.int .i64 M.deg) (.int .i64 M.sts) (.int .i64 M.msgs) (.slice a3 M.start.length c3) (.slice a4 M.send.length c4) (.slice a5 M.cls.length c5) (.slice a6 M.out.length c6)) by rw [hW1]; exact (boxed7_row _ _ _ _ _ _ _ _ _))
  have H3 := Lib.hid (h3.ext EW.out)
  have H4 := Lib.hid (h4.ext EW.out)
  have H5 := Lib.hid (h5.ext EW.out)
  have H6 := Lib.hid (h6.ext EW.out)
  have H7 := Lib.hid h7
  obtain ⟨-, m3, n3⟩ := ssLen h3
  obtain ⟨-, m4, n4⟩ := ssLen h4
  obtain ⟨-, m5, n5⟩ := clLen h5
  obtain ⟨-, m6, n6⟩ := isLen h6
  unfold maxLen at m3 m4 m5 m6
  obtain ⟨p0, p1, p2, p3, p4, p5, p6⟩ := row7_facts RW.out
  clear h3 h4 h5 h6 h7
  have HV := Lib.hid (show MachAt W1 (.agg #[.int .i64 M.deg, .int .i64 M.sts, .int .i64 M.msgs, .slice a3 M.start.length c3, .slice a4 M.send.length c4, .slice a5 M.cls.length c5, .slice a6 M.out.length c6]) M from ⟨_, _, _, _, _, _, _, _, rfl, H3.out, H4.out, H5.out, H6.out, H7.out⟩)
  by_cases e1 : InB M.deg 0 6
  case neg =>
    have B1 := Lib.hid (dec_false e1)
    have D := Lib.hid (show ¬ MachOK M from fun h => e1 h.1.1)
    clear e1
    go_enter Try.func22, Try.ntmps22
    go_upto_region 1 with fail
    rw [← hW1]
    clear hW1
    go_wp2_with (go_at_call 73; (with_reducible refine (isBetweenK_any _ _ _ _).mono ?_); rintro e w' ⟨rfl, rfl⟩; (first | rw [B1.out]))
    go_ret
    exact ⟨ret_f D.out, EW.out⟩
  have B1 := Lib.hid (dec_true e1)
  by_cases e2 : InB M.sts 1 12
  case neg =>
    have B2 := Lib.hid (dec_false e2)
    have D := Lib.hid (show ¬ MachOK M from fun h => e2 h.1.2.1)
    clear e2
    go_enter Try.func22, Try.ntmps22
    go_upto_region 1 with fail
    rw [← hW1]
    clear hW1
    go_wp2_with (go_at_call 73; (with_reducible refine (isBetweenK_any _ _ _ _).mono ?_); rintro e w' ⟨rfl, rfl⟩; (first | rw [B1.out] | rw [B2.out]))
    go_ret
    exact ⟨ret_f D.out, EW.out⟩
  have B2 := Lib.hid (dec_true e2)
  by_cases e3 : InB M.msgs 1 6
  case neg =>
    have B3 := Lib.hid (dec_false e3)
    have D := Lib.hid (show ¬ MachOK M from fun h => e3 h.1.2.2)
    clear e3
    go_enter Try.func22, Try.ntmps22
    go_upto_region 1 with fail
    rw [← hW1]
    clear hW1
    go_wp2_with (go_at_call 73; (with_reducible refine (isBetweenK_any _ _ _ _).mono ?_); rintro e w' ⟨rfl, rfl⟩; (first | rw [B1.out] | rw [B2.out] | rw [B3.out]))
    go_ret
    exact ⟨ret_f D.out, EW.out⟩
  have B3 := Lib.hid (dec_true e3)
  have HH := Lib.hid (show HeadOK M from ⟨e1, e2, e3⟩)
  clear e1 e2 e3
  go_enter Try.func22, Try.ntmps22
  go_upto_region 1 with fail
  rw [← hW1]
  clear hW1
  go_wp2_with (go_at_call 73; (with_reducible refine (isBetweenK_any _ _ _ _).mono ?_); rintro e w' ⟨rfl, rfl⟩; (first | rw [B1.out] | rw [B2.out] | rw [B3.out]))
  clear B1 B2 B3
  (with_reducible refine (areStarts_any HV.out HH.out).mono ?_)
  rintro e w2 ⟨rfl, hx⟩
  have Y1 := Lib.hid (hx)
  clear hx p0 p1 p2 p3 p4 p5 p6
  obtain ⟨p0, p1, p2, p3, p4, p5, p6⟩ := row7_facts (row_ext RW.out Y1.out)
  by_cases e1 : StartOK M
  case neg =>
    rw [dec_false e1]
    have D := Lib.hid (show ¬ MachOK M from fun h => e1 h.2.1)
    clear e1
    go_wp2
    go_ret
    exact ⟨ret_f D.out, EW.out.trans' Y1.out⟩
  rw [dec_true e1]
  have E1 := Lib.hid e1
  clear e1
  go_wp2_with fail
  (with_reducible refine (areSends_any (HV.out.ext Y1.out) HH.out).mono ?_)
  rintro e w3 ⟨rfl, hx⟩
  have Y2 := Lib.hid (Y1.out.trans' hx)
  clear hx p0 p1 p2 p3 p4 p5 p6
  obtain ⟨p0, p1, p2, p3, p4, p5, p6⟩ := row7_facts (row_ext RW.out Y2.out)
  by_cases e2 : SendOK M
  case neg =>
    rw [dec_false e2]
    have D := Lib.hid (show ¬ MachOK M from fun h => e2 h.2.2.1)
    clear e2
    go_wp2
    go_ret
    exact ⟨ret_f D.out, EW.out.trans' Y2.out⟩
  rw [dec_true e2]
  have E2 := Lib.hid e2
  clear e2
  go_wp2_with fail
  (with_reducible refine (areClauses_any (HV.out.ext Y2.out) HH.out).mono ?_)
  rintro e w4 ⟨rfl, hx⟩
  have Y3 := Lib.hid (Y2.out.trans' hx)
  clear hx p0 p1 p2 p3 p4 p5 p6
  obtain ⟨p0, p1, p2, p3, p4, p5, p6⟩ := row7_facts (row_ext RW.out Y3.out)
  by_cases e3 : ClsOK M
  case neg =>
    rw [dec_false e3]
    have D := Lib.hid (show ¬ MachOK M from fun h => e3 h.2.2.2.1)
    clear e3
    go_wp2
    go_ret
    exact ⟨ret_f D.out, EW.out.trans' Y3.out⟩
  rw [dec_true e3]
  have E3 := Lib.hid e3
  clear e3
  by_cases e4 : (M.out.length : Int) = M.sts
  case neg =>
    have b4 : ((M.out.length : Int) == M.sts) = false := beq_eq_false_iff_ne.2 e4
    have D := Lib.hid (show ¬ MachOK M from fun h => e4 h.2.2.2.2.1)
    clear e4
    go_wp2
    go_ret
    exact ⟨ret_f D.out, EW.out.trans' Y3.out⟩
  have b4 : ((M.out.length : Int) == M.sts) = true := beq_iff_eq.2 e4
  have HD := Lib.hid (dec_congr (p := AllIn M.out (-1) 9) (q := MachOK M) ⟨fun k => ⟨HH.out, E1.out, E2.out, E3.out, e4, k⟩, fun k => k.2.2.2.2.2⟩)
  clear e4
  go_wp2_with (go_at_call 77; (with_reducible refine (areBetween_any _ _ (H6.out.ext Y3.out)).mono ?_); rintro e w' ⟨rfl, rfl⟩; rw [HD.out])
  go_ret
  exact ⟨rfl, EW.out.trans' Y3.out⟩
end Go.Proofs.Ytdcgpodjoalokaa
