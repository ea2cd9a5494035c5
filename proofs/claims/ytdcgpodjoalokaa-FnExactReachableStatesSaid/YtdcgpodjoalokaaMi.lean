/- The model's IsMachine. -/
import Derived.Test.YtdcgpodjoalokaaMg
namespace Go.Proofs.Ytdcgpodjoalokaa
open Go.RowKit

def RowB (l : List Int) (many most : Int) : Prop := (l.length : Int) = many ∧ AllIn l 0 (most - 1)
set_option maxHeartbeats 800000 in
set_option maxRecDepth 100000 in
theorem maRow_any {w : World} {v : Value} {l : List Int} (many most : Int) (h : IntSl w v l) (h0 : 0 ≤ most) (h1 : most ≤ 1048576) : Calls Try.prog 106 #[v, .int .i64 many, .int .i64 most] w fun e w' => e = .returned (.bool (dec (RowB l many most))) ∧ w = w' := by
  have HV := Lib.hid h
  obtain ⟨a, c, rfl⟩ := h.isSlice
  obtain ⟨-, m, n⟩ := isLen h
  unfold maxLen at m
  clear h
  by_cases hn : (l.length : Int) = many
  · have hnb : ((l.length : Int) == many) = true := beq_iff_eq.2 hn
    have HD := Lib.hid (dec_congr (p := AllIn l 0 (most - 1)) (q := RowB l many most) ⟨fun k => ⟨hn, k⟩, fun k => k.2⟩)
    clear hn
    go_enter Try.func106, Try.ntmps106
    go_wp2_with (go_at_call 94; (with_reducible refine (l1All_any _ _ HV.out).mono ?_); rintro e w' ⟨rfl, rfl⟩; rw [HD.out])
    go_ret
    exact ⟨rfl, rfl⟩
  · have hnb : ((l.length : Int) == many) = false := beq_eq_false_iff_ne.2 hn
    have HD := Lib.hid (show ¬ RowB l many most from fun k => hn k.1)
    clear hn
    go_enter Try.func106, Try.ntmps106
    go_wp2
    go_ret
    exact ⟨ret_f HD.out, rfl⟩

/-- What the model asks ahead of its loops. -/
def PreM (M : Mach) : Prop := (M.start.length : Int) = M.deg + 1 ∧ InB ((gr M.start 0).length : Int) 1 10 ∧ (M.send.length : Int) = M.sts ∧ M.cls.length ≤ 60 ∧ (M.out.length : Int) = M.sts ∧ AllIn M.out (-1) 9

set_option maxHeartbeats 6400000 in
set_option maxRecDepth 100000 in
theorem maGood_loops {w : World} {v : Value} {M : Mach} (h : MachAt w v M) (hh : HeadOK M) (hp : PreM M) : Calls Try.prog 71 #[v] w fun e w' => e = .returned (.bool (dec (MachOK M))) ∧ Ext w w' := by
  obtain ⟨a3, c3, a4, c4, a5, c5, a6, c6, rfl, h3, h4, h5, h6, h7⟩ := h
  obtain ⟨W1, hW1⟩ : ∃ W1, W1 = w.alloc (.cells #[.int .i64 M.deg, .int .i64 M.sts, .int .i64 M.msgs, .slice a3 M.start.length c3, .slice a4 M.send.length c4, .slice a5 M.cls.length c5, .slice a6 M.out.length c6] 31) := ⟨_, rfl⟩
  have EW := Lib.hid (show Ext w W1 by rw [hW1]; exact (boxed7_ext _ _ _ _ _ _ _ _ _))
  have RW := Lib.hid (show W1.rowIs w.heap.size 31 7 (sept (.int .i64 M.deg) (.int .i64 M.sts) (.int .i64 M.msgs) (.slice a3 M.start.length c3) (.slice a4 M.send.length c4) (.slice a5 M.cls.length c5) (.slice a6 M.out.length c6)) by rw [hW1]; exact (boxed7_row _ _ _ _ _ _ _ _ _))
  have H3 := Lib.hid (h3.ext EW.out)
  have H4 := Lib.hid (h4.ext EW.out)
  have H5 := Lib.hid (h5.ext EW.out)
  have H6 := Lib.hid (h6.ext EW.out)
  have H7 := Lib.hid h7
  obtain ⟨-, m3, n3⟩ := ssLen h3
  obtain ⟨-, m4, n4⟩ := ssLen h4
  obtain ⟨-, m5, n5⟩ := clLen h5
  obtain ⟨-, m6, n6⟩ := isLen h6
  unfold maxLen at m3 m4 m5 m6
  obtain ⟨p0, p1, p2, p3, p4, p5, p6⟩ := row7_facts RW.out
  clear h3 h4 h5 h6 h7
  have HH := Lib.hid hh
  have HPR := Lib.hid hp
  obtain ⟨⟨g1, g2⟩, ⟨g3, g4⟩, ⟨g5, g6⟩⟩ := hh
  obtain ⟨e0, e1, f2, f3, f4, f5⟩ := hp
  have B1 := Lib.hid (dec_true HH.out.1)
  have B2 := Lib.hid (dec_true HH.out.2.1)
  have B3 := Lib.hid (dec_true HH.out.2.2)
  have B4 := Lib.hid (dec_true e1)
  have B5 := Lib.hid (dec_true f5)
  have b0 : ((M.start.length : Int) != M.deg + 1) = false := bne_eq_false_iff_eq.2 e0
  have b2 : ((M.send.length : Int) != M.sts) = false := bne_eq_false_iff_eq.2 f2
  have b4 : ((M.out.length : Int) != M.sts) = false := bne_eq_false_iff_eq.2 f4
  obtain ⟨b, o, ra, rc, rfl, q0, hrow0⟩ := ssRow H3.out (k := 0) (by omega)
  rw [Nat.add_zero] at q0
  obtain ⟨-, m0, n0⟩ := isLen hrow0
  unfold maxLen at m0
  have hpos : 0 < M.start.length := by omega
  have he1 : ((gr M.start 0).length : Int) ≤ 10 := e1.2
  clear e0 e1 f2 f4 f5 hrow0
  go_enter Try.func71, Try.ntmps71
  go_upto_region 1 with fail
  rw [← hW1]
  clear hW1
  go_wp2_with (first | (go_at_call 93; (with_reducible refine (l1In_any _ _ _ _).mono ?_); rintro e w' ⟨rfl, rfl⟩; (first | rw [B1.out] | rw [B2.out] | rw [B3.out] | rw [B4.out])) | (go_at_call 94; (with_reducible refine (l1All_any _ _ H6.out).mono ?_); rintro e w' ⟨rfl, rfl⟩; rw [B5.out]))
  clear b0 b2 b4
  go_loopg [72] M.start.length (fun g i wr => ∃ k : Nat, k ≤ M.start.length ∧ g = M.start.length - k ∧ i = .int .i64 k ∧ Hid (Ext W1 wr ∧ ∀ i, i < k → (gr M.start i).length = (gr M.start 0).length ∧ AllIn (gr M.start i) 0 (M.sts - 1)))
  case atStart => exact ⟨0, Nat.zero_le _, rfl, rfl, Ext.rfl' _, fun j hj => absurd hj (by omega)⟩
  case round =>
    obtain ⟨k, hk, rfl, rfl, Hr⟩ := hrel
    by_cases hlt : k < M.start.length
    · obtain ⟨b', o', sa, sc, e, q1, hrow1⟩ := ssRow H3.out hlt
      simp only [Option.some.injEq, Addr.mk.injEq, and_true] at e
      obtain ⟨rfl, rfl⟩ := e
      obtain ⟨-, m1, n1⟩ := isLen hrow1
      unfold maxLen at m1
      have HI := Lib.hid (hrow1.ext Hr.out.1)
      have q1 := Hr.out.1.cell' q1
      have X0 : ∀ x' : Wx wr, x'.w.cell? ⟨b, o, none⟩ = some (.slice ra (gr M.start 0).length rc) := fun x' => x'.ok.cell' (Hr.out.1.cell' q0)
      have X1 : ∀ x' : Wx wr, x'.w.cell? ⟨w.heap.size, 1, none⟩ = some (.int .i64 M.sts) := fun x' => x'.ok.cell' (Hr.out.1.cell' p1)
      have X3 : ∀ x' : Wx wr, x'.w.cell? ⟨w.heap.size, 3, none⟩ = some (.slice (some ⟨b, o, none⟩) M.start.length c3) := fun x' => x'.ok.cell' (Hr.out.1.cell' p3)
      clear hrow1
      by_cases e2 : RowB (gr M.start k) ((gr M.start 0).length : Int) M.sts
      · have E2 := Lib.hid e2
        have Hb1 := Lib.hid (dec_true e2)
        clear e2
        go_wp2_with fail
        refine wp_region_ext (by kernel_rfl) (by kernel_rfl) ?_
        repeat (go_big_quiet_step ((go_at_call 106; exact in_same_bool (maRow_any _ _ (HI.out.ext (Wx.ok _)) (by omega) (by omega)) Hb1.out)))
        refine wpQuiet_nil ?_
        rintro _ ⟨⟨wq, hq⟩, rfl⟩
        have HY := Lib.hid (Hr.out.1.trans' hq)
        clear hq X0 X1 X3 q1
        go_wp2
        go_roundg (M.start.length - (k + 1))
        case measure => omega
        case rel =>
          refine ⟨k + 1, by omega, rfl, by go_num, HY.out, fun j hj => ?_⟩
          by_cases e : j = k
          · subst e; exact ⟨by have := E2.out.1; omega, E2.out.2⟩
          · exact Hr.out.2 j (by omega)
      · have Hb1 := Lib.hid (dec_false e2)
        have D := Lib.hid (show ¬ MachOK M from fun h => e2 (by obtain ⟨h1, h2⟩ := h.2.1.2.2 k hlt; exact ⟨by omega, h2⟩))
        clear e2
        go_wp2_with fail
        refine wp_region_ext (by kernel_rfl) (by kernel_rfl) ?_
        repeat (go_big_quiet_step ((go_at_call 106; exact in_same_bool (maRow_any _ _ (HI.out.ext (Wx.ok _)) (by omega) (by omega)) Hb1.out)))
        refine wpQuiet_nil ?_
        rintro _ ⟨⟨wq, hq⟩, rfl⟩
        have HY := Lib.hid (Hr.out.1.trans' hq)
        clear hq X0 X1 X3 q1
        go_wp2
        go_ret
        exact ⟨ret_f D.out, EW.out.trans' HY.out⟩
    · obtain rfl : k = M.start.length := by omega
      have HS := Lib.hid (show StartOK M from ⟨HPR.out.1, HPR.out.2.1, Hr.out.2⟩)
      obtain ⟨w2, hw2⟩ : ∃ w2 : World, w2 = wr := ⟨_, rfl⟩
      subst hw2
      have HX2 := Lib.hid Hr.out.1
      obtain ⟨p0', p1', p2', p3', p4', p5', p6'⟩ := row7_facts (row_ext RW.out HX2.out)
      clear p0 p1 p2 p3 p4 p5 p6 Hr
      go_wp2
      go_loop [90] (fun i => ∃ k : Nat, k ≤ M.send.length ∧ i = .int .i64 k ∧ Hid (∀ i, i < k → ((gr M.send i).length : Int) = M.deg ∧ AllIn (gr M.send i) 0 (M.msgs - 1))) (fun i => M.send.length - (intOf i).toNat)
      case atStart => exact ⟨0, Nat.zero_le _, rfl, fun j hj => absurd hj (by omega)⟩
      case round =>
        obtain ⟨k, hk, rfl, Hr⟩ := hrel
        by_cases hlt : k < M.send.length
        · obtain ⟨b, o, sa, sc, rfl, q1, hrow1⟩ := ssRow (H4.out.ext HX2.out) hlt
          obtain ⟨-, m1, n1⟩ := isLen hrow1
          unfold maxLen at m1
          have HI := Lib.hid hrow1
          clear hrow1
          by_cases e2 : RowB (gr M.send k) M.deg M.msgs
          · have E2 := Lib.hid e2
            have Hb1 := Lib.hid (dec_true e2)
            clear e2
            go_wp2_with (go_at_call 106; (with_reducible refine (maRow_any _ _ HI.out (by omega) (by omega)).mono ?_); rintro e w' ⟨rfl, rfl⟩; rw [Hb1.out])
            go_round
            case rel =>
              refine ⟨k + 1, by omega, by go_num, fun j hj => ?_⟩
              by_cases e : j = k
              · subst e; exact E2.out
              · exact Hr.out j (by omega)
            case measure => simp [intOf]; omega
          · have Hb1 := Lib.hid (dec_false e2)
            have D := Lib.hid (show ¬ MachOK M from fun h => e2 (h.2.2.1.2 k hlt))
            clear e2
            go_wp2_with (go_at_call 106; (with_reducible refine (maRow_any _ _ HI.out (by omega) (by omega)).mono ?_); rintro e w' ⟨rfl, rfl⟩; rw [Hb1.out])
            go_ret
            exact ⟨ret_f D.out, EW.out.trans' HX2.out⟩
        · obtain rfl : k = M.send.length := by omega
          have HSe := Lib.hid (show SendOK M from ⟨HPR.out.2.2.1, Hr.out⟩)
          clear Hr
          go_wp2
          go_loopg [105] M.cls.length (fun g i wr => ∃ k : Nat, k ≤ M.cls.length ∧ g = M.cls.length - k ∧ i = .int .i64 k ∧ Hid (Ext w2 wr ∧ ∀ i, i < k → ClOK M (gc M.cls i)))
          case atStart => exact ⟨0, Nat.zero_le _, rfl, rfl, Ext.rfl' _, fun j hj => absurd hj (by omega)⟩
          case round =>
            obtain ⟨k, hk, rfl, rfl, Hr⟩ := hrel
            by_cases hlt : k < M.cls.length
            · obtain ⟨b, o, rfl, q1, ⟨xa, xn, xq, q2, rfl, q3⟩, q4, r1, r2⟩ := clRow (H5.out.ext HX2.out) hlt
              have q1 := Hr.out.1.cell' q1
              have q2 := Hr.out.1.cell' q2
              have q4 := Hr.out.1.cell' q4
              obtain ⟨-, m1, n1⟩ := isLen q3
              unfold maxLen at m1
              obtain ⟨c, hc⟩ : ∃ c, c = gc M.cls k := ⟨_, rfl⟩
              have HC := Lib.hid hc
              rw [← hc] at q1 q2 q3 q4 n1
              clear hc r1 r2
              obtain ⟨W2, hW2⟩ : ∃ W2, W2 = wr.alloc (.cells #[.int .i64 c.st, .slice xa c.inb.length xq, .int .i64 c.nx] 113) := ⟨_, rfl⟩
              have E2 := Lib.hid (show Ext w2 W2 by rw [hW2]; exact (Hr.out.1.alloc' _))
              have R2 := Lib.hid (show W2.rowIs wr.heap.size 113 3 (tri (.int .i64 c.st) (.slice xa c.inb.length xq) (.int .i64 c.nx)) by rw [hW2]; exact row3_made _ _ _ _ _)
              have HI := Lib.hid (q3.ext E2.out)
              have YW := Lib.hid (EW.out.trans' (HX2.out.trans' E2.out))
              obtain ⟨s0, s1, s2, -, -, -⟩ := row3_facts R2.out
              obtain ⟨t0, t1, t2, t3, t4, t5, t6⟩ := row7_facts (row_ext (row_ext RW.out HX2.out) E2.out)
              clear p0' p1' p2' p3' p4' p5' p6' t3 t4 t5 t6 q3
              rw [hW2] at s0 s1 s2 t0 t1 t2 HI
              by_cases e1 : InB c.st 0 (M.sts - 1)
              case neg =>
                have C1 := Lib.hid (dec_false e1)
                have D := Lib.hid (show ¬ MachOK M from fun h => e1 (by have := (h.2.2.2.1.2 k hlt).1.1; rw [← HC.out] at this; exact this))
                clear e1
                go_wp2_with (go_at_call 93; (with_reducible refine (l1In_any _ _ _ _).mono ?_); rintro e w' ⟨rfl, rfl⟩; rw [C1.out])
                rw [← hW2]
                go_ret
                exact ⟨ret_f D.out, YW.out⟩
              have C1 := Lib.hid (dec_true e1)
              have E1 := Lib.hid e1
              clear e1
              by_cases e2 : InB c.nx 0 (M.sts - 1)
              case neg =>
                have C2 := Lib.hid (dec_false e2)
                have D := Lib.hid (show ¬ MachOK M from fun h => e2 (by have := (h.2.2.2.1.2 k hlt).1.2; rw [← HC.out] at this; exact this))
                clear e2
                go_wp2_with (go_at_call 93; (with_reducible refine (l1In_any _ _ _ _).mono ?_); rintro e w' ⟨rfl, rfl⟩; (first | rw [C1.out] | rw [C2.out]))
                rw [← hW2]
                go_ret
                exact ⟨ret_f D.out, YW.out⟩
              have C2 := Lib.hid (dec_true e2)
              have E2' := Lib.hid e2
              clear e2
              by_cases e3 : (c.inb.length : Int) ≤ M.deg
              case neg =>
                have D := Lib.hid (show ¬ MachOK M from fun h => e3 (by have := (h.2.2.2.1.2 k hlt).2.1; rw [← HC.out] at this; exact this))
                go_wp2_with (go_at_call 93; (with_reducible refine (l1In_any _ _ _ _).mono ?_); rintro e w' ⟨rfl, rfl⟩; (first | rw [C1.out] | rw [C2.out]))
                rw [← hW2]
                go_ret
                exact ⟨ret_f D.out, YW.out⟩
              by_cases e4 : AllIn c.inb (-1) (M.msgs - 1)
              case neg =>
                have C3 := Lib.hid (dec_false e4)
                have D := Lib.hid (show ¬ MachOK M from fun h => e4 (by have := (h.2.2.2.1.2 k hlt).2.2; rw [← HC.out] at this; exact this))
                clear e4
                go_wp2_with (first | (go_at_call 93; (with_reducible refine (l1In_any _ _ _ _).mono ?_); rintro e w' ⟨rfl, rfl⟩; (first | rw [C1.out] | rw [C2.out])) | (go_at_call 94; (with_reducible refine (l1All_any _ _ HI.out).mono ?_); rintro e w' ⟨rfl, rfl⟩; rw [C3.out]))
                rw [← hW2]
                go_ret
                exact ⟨ret_f D.out, YW.out⟩
              have C3 := Lib.hid (dec_true e4)
              have E4 := Lib.hid e4
              clear e4
              go_wp2_with (first | (go_at_call 93; (with_reducible refine (l1In_any _ _ _ _).mono ?_); rintro e w' ⟨rfl, rfl⟩; (first | rw [C1.out] | rw [C2.out])) | (go_at_call 94; (with_reducible refine (l1All_any _ _ HI.out).mono ?_); rintro e w' ⟨rfl, rfl⟩; rw [C3.out]))
              rw [← hW2]
              go_roundg (M.cls.length - (k + 1))
              case measure => omega
              case rel =>
                refine ⟨k + 1, by omega, rfl, by go_num, E2.out, fun j hj => ?_⟩
                by_cases e : j = k
                · subst e; rw [← HC.out]; exact ⟨⟨E1.out, E2'.out⟩, e3, E4.out⟩
                · exact Hr.out.2 j (by omega)
            · obtain rfl : k = M.cls.length := by omega
              go_wp2
              go_ret
              exact ⟨ret_t ⟨HH.out, HS.out, HSe.out, ⟨HPR.out.2.2.2.1, Hr.out.2⟩, HPR.out.2.2.2.2⟩, EW.out.trans' (HX2.out.trans' Hr.out.1)⟩

set_option maxHeartbeats 6400000 in
set_option maxRecDepth 100000 in
theorem maGood_any {w : World} {v : Value} {M : Mach} (h : MachAt w v M) : Calls Try.prog 71 #[v] w fun e w' => e = .returned (.bool (dec (MachOK M))) ∧ Ext w w' := by
  have HV0 := Lib.hid h
  obtain ⟨a3, c3, a4, c4, a5, c5, a6, c6, rfl, h3, h4, h5, h6, h7⟩ := h
  obtain ⟨W1, hW1⟩ : ∃ W1, W1 = w.alloc (.cells #[.int .i64 M.deg, .int .i64 M.sts, .int .i64 M.msgs, .slice a3 M.start.length c3, .slice a4 M.send.length c4, .slice a5 M.cls.length c5, .slice a6 M.out.length c6] 31) := ⟨_, rfl⟩
  have EW := Lib.hid (show Ext w W1 by rw [hW1]; exact (boxed7_ext _ _ _ _ _ _ _ _ _))
  have RW := Lib.hid (show W1.rowIs w.heap.size 31 7 (sept (.int .i64 M.deg) (.int .i64 M.sts) (.int .i64 M.msgs) (.slice a3 M.start.length c3) (.slice a4 M.send.length c4) (.slice a5 M.cls.length c5) (.slice a6 M.out.length c6)) by rw [hW1]; exact (boxed7_row _ _ _ _ _ _ _ _ _))
  have H3 := Lib.hid (h3.ext EW.out)
  have H4 := Lib.hid (h4.ext EW.out)
  have H5 := Lib.hid (h5.ext EW.out)
  have H6 := Lib.hid (h6.ext EW.out)
  have H7 := Lib.hid h7
  obtain ⟨-, m3, n3⟩ := ssLen h3
  obtain ⟨-, m4, n4⟩ := ssLen h4
  obtain ⟨-, m5, n5⟩ := clLen h5
  obtain ⟨-, m6, n6⟩ := isLen h6
  unfold maxLen at m3 m4 m5 m6
  obtain ⟨p0, p1, p2, p3, p4, p5, p6⟩ := row7_facts RW.out
  clear h3 h4 h5 h6 h7
  by_cases e1 : InB M.deg 0 6
  case neg =>
    have B1 := Lib.hid (dec_false e1)
    have D := Lib.hid (show ¬ MachOK M from fun h => e1 h.1.1)
    clear e1
    go_enter Try.func71, Try.ntmps71
    go_upto_region 1 with fail
    rw [← hW1]
    clear hW1
    go_wp2_with (first | (go_at_call 93; (with_reducible refine (l1In_any _ _ _ _).mono ?_); rintro e w' ⟨rfl, rfl⟩; (first | rw [B1.out])))
    go_ret
    exact ⟨ret_f D.out, EW.out⟩
  have B1 := Lib.hid (dec_true e1)
  by_cases e2 : InB M.sts 1 12
  case neg =>
    have B2 := Lib.hid (dec_false e2)
    have D := Lib.hid (show ¬ MachOK M from fun h => e2 h.1.2.1)
    clear e2
    go_enter Try.func71, Try.ntmps71
    go_upto_region 1 with fail
    rw [← hW1]
    clear hW1
    go_wp2_with (first | (go_at_call 93; (with_reducible refine (l1In_any _ _ _ _).mono ?_); rintro e w' ⟨rfl, rfl⟩; (first | rw [B1.out] | rw [B2.out])))
    go_ret
    exact ⟨ret_f D.out, EW.out⟩
  have B2 := Lib.hid (dec_true e2)
  by_cases e3 : InB M.msgs 1 6
  case neg =>
    have B3 := Lib.hid (dec_false e3)
    have D := Lib.hid (show ¬ MachOK M from fun h => e3 h.1.2.2)
    clear e3
    go_enter Try.func71, Try.ntmps71
    go_upto_region 1 with fail
    rw [← hW1]
    clear hW1
    go_wp2_with (first | (go_at_call 93; (with_reducible refine (l1In_any _ _ _ _).mono ?_); rintro e w' ⟨rfl, rfl⟩; (first | rw [B1.out] | rw [B2.out] | rw [B3.out])))
    go_ret
    exact ⟨ret_f D.out, EW.out⟩
  have B3 := Lib.hid (dec_true e3)
  have HH := Lib.hid (show HeadOK M from ⟨e1, e2, e3⟩)
  obtain ⟨⟨g1, g2⟩, ⟨g3, g4⟩, ⟨g5, g6⟩⟩ := HH.out
  clear e1 e2 e3
  by_cases e4 : (M.start.length : Int) = M.deg + 1
  case neg =>
    have b4 : ((M.start.length : Int) != M.deg + 1) = true := bne_iff_ne.2 e4
    have D := Lib.hid (show ¬ MachOK M from fun h => e4 h.2.1.1)
    clear e4
    go_enter Try.func71, Try.ntmps71
    go_upto_region 1 with fail
    rw [← hW1]
    clear hW1
    go_wp2_with (first | (go_at_call 93; (with_reducible refine (l1In_any _ _ _ _).mono ?_); rintro e w' ⟨rfl, rfl⟩; (first | rw [B1.out] | rw [B2.out] | rw [B3.out])))
    go_ret
    exact ⟨ret_f D.out, EW.out⟩
  have b4 : ((M.start.length : Int) != M.deg + 1) = false := bne_eq_false_iff_eq.2 e4
  have E4 := Lib.hid e4
  obtain ⟨b, o, ra, rc, rfl, q0, hrow0⟩ := ssRow H3.out (k := 0) (by omega)
  rw [Nat.add_zero] at q0
  obtain ⟨-, m0, n0⟩ := isLen hrow0
  unfold maxLen at m0
  have hpos : 0 < M.start.length := by omega
  clear e4 hrow0
  by_cases e5 : InB ((gr M.start 0).length : Int) 1 10
  case neg =>
    have B5 := Lib.hid (dec_false e5)
    have D := Lib.hid (show ¬ MachOK M from fun h => e5 h.2.1.2.1)
    clear e5
    go_enter Try.func71, Try.ntmps71
    go_upto_region 1 with fail
    rw [← hW1]
    clear hW1
    go_wp2_with (first | (go_at_call 93; (with_reducible refine (l1In_any _ _ _ _).mono ?_); rintro e w' ⟨rfl, rfl⟩; (first | rw [B1.out] | rw [B2.out] | rw [B3.out] | rw [B5.out])))
    go_ret
    exact ⟨ret_f D.out, EW.out⟩
  have B5 := Lib.hid (dec_true e5)
  have E5 := Lib.hid e5
  clear e5
  by_cases e6 : (M.send.length : Int) = M.sts
  case neg =>
    have b6 : ((M.send.length : Int) != M.sts) = true := bne_iff_ne.2 e6
    have D := Lib.hid (show ¬ MachOK M from fun h => e6 h.2.2.1.1)
    clear e6
    go_enter Try.func71, Try.ntmps71
    go_upto_region 1 with fail
    rw [← hW1]
    clear hW1
    go_wp2_with (first | (go_at_call 93; (with_reducible refine (l1In_any _ _ _ _).mono ?_); rintro e w' ⟨rfl, rfl⟩; (first | rw [B1.out] | rw [B2.out] | rw [B3.out] | rw [B5.out])))
    go_ret
    exact ⟨ret_f D.out, EW.out⟩
  have b6 : ((M.send.length : Int) != M.sts) = false := bne_eq_false_iff_eq.2 e6
  have E6 := Lib.hid e6
  clear e6
  by_cases e7 : M.cls.length ≤ 60
  case neg =>
    have D := Lib.hid (show ¬ MachOK M from fun h => e7 h.2.2.2.1.1)
    skip
    go_enter Try.func71, Try.ntmps71
    go_upto_region 1 with fail
    rw [← hW1]
    clear hW1
    go_wp2_with (first | (go_at_call 93; (with_reducible refine (l1In_any _ _ _ _).mono ?_); rintro e w' ⟨rfl, rfl⟩; (first | rw [B1.out] | rw [B2.out] | rw [B3.out] | rw [B5.out])))
    go_ret
    exact ⟨ret_f D.out, EW.out⟩
  by_cases e8 : (M.out.length : Int) = M.sts
  case neg =>
    have b8 : ((M.out.length : Int) != M.sts) = true := bne_iff_ne.2 e8
    have D := Lib.hid (show ¬ MachOK M from fun h => e8 h.2.2.2.2.1)
    clear e8
    go_enter Try.func71, Try.ntmps71
    go_upto_region 1 with fail
    rw [← hW1]
    clear hW1
    go_wp2_with (first | (go_at_call 93; (with_reducible refine (l1In_any _ _ _ _).mono ?_); rintro e w' ⟨rfl, rfl⟩; (first | rw [B1.out] | rw [B2.out] | rw [B3.out] | rw [B5.out])))
    go_ret
    exact ⟨ret_f D.out, EW.out⟩
  have b8 : ((M.out.length : Int) != M.sts) = false := bne_eq_false_iff_eq.2 e8
  have E8 := Lib.hid e8
  clear e8
  by_cases e9 : AllIn M.out (-1) 9
  case neg =>
    have B9 := Lib.hid (dec_false e9)
    have D := Lib.hid (show ¬ MachOK M from fun h => e9 h.2.2.2.2.2)
    clear e9
    go_enter Try.func71, Try.ntmps71
    go_upto_region 1 with fail
    rw [← hW1]
    clear hW1
    go_wp2_with (first | (go_at_call 93; (with_reducible refine (l1In_any _ _ _ _).mono ?_); rintro e w' ⟨rfl, rfl⟩; (first | rw [B1.out] | rw [B2.out] | rw [B3.out] | rw [B5.out])) | (go_at_call 94; (with_reducible refine (l1All_any _ _ H6.out).mono ?_); rintro e w' ⟨rfl, rfl⟩; rw [B9.out]))
    go_ret
    exact ⟨ret_f D.out, EW.out⟩
  exact maGood_loops HV0.out HH.out ⟨E4.out, E5.out, E6.out, e7, E8.out, e9⟩
end Go.Proofs.Ytdcgpodjoalokaa
