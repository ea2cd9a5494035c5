/- Machines as arguments: compared, and marked. -/
import Derived.Test.YtdcgpodjoalokaaMa
namespace Go.Proofs.Ytdcgpodjoalokaa
open Go.RowKit

set_option maxHeartbeats 800000 in
set_option maxRecDepth 100000 in
theorem eqClause_same {w : World} {c : Cl} {x1 x2 : Value} (h1 : IntSl w x1 c.inb) (h2 : IntSl w x2 c.inb) :
    Calls Try.prog 131 #[.agg #[.int .i64 c.st, x1, .int .i64 c.nx], .agg #[.int .i64 c.st, x2, .int .i64 c.nx]] w fun e w' => e = .returned (.bool true) ∧ Ext w w' := by
  obtain ⟨a1, q1, rfl⟩ := h1.isSlice
  obtain ⟨a2, q2, rfl⟩ := h2.isSlice
  obtain ⟨W1, hW1⟩ : ∃ W1, W1 = (w.alloc (.cells #[.int .i64 c.st, .slice a1 c.inb.length q1, .int .i64 c.nx] 113)).alloc (.cells #[.int .i64 c.st, .slice a2 c.inb.length q2, .int .i64 c.nx] 113) := ⟨_, rfl⟩
  have EW := Lib.hid (show Ext w W1 by rw [hW1]; exact (boxed_ext _ _ _ _ _).trans' (boxed_ext _ _ _ _ _))
  have RA := Lib.hid (show W1.rowIs w.heap.size 113 3 (tri (.int .i64 c.st) (.slice a1 c.inb.length q1) (.int .i64 c.nx)) by rw [hW1]; exact (boxed_row _ _ _ _ _).alloc _)
  have RB := Lib.hid (show W1.rowIs (w.heap.size + 1) 113 3 (tri (.int .i64 c.st) (.slice a2 c.inb.length q2) (.int .i64 c.nx)) by rw [hW1]; simpa using boxed_row (boxed w (.int .i64 c.st) (.slice a1 c.inb.length q1) (.int .i64 c.nx) 113) (.int .i64 c.st) (.slice a2 c.inb.length q2) (.int .i64 c.nx) 113)
  obtain ⟨p0, p1, p2, -, -, -⟩ := row3_facts RA.out
  obtain ⟨q0, q1', q2', -, -, -⟩ := row3_facts RB.out
  have H1 := Lib.hid (h1.ext EW.out)
  have H2 := Lib.hid (h2.ext EW.out)
  have hs : (c.st != c.st) = false := by simp
  have hx : (c.nx != c.nx) = false := by simp
  clear h1 h2
  go_enter Try.func131, Try.ntmps131
  go_upto_region 1 with fail
  rw [← hW1]
  clear hW1
  go_wp2_with fail
  (with_reducible refine (eqIntS_same H1.out H2.out).mono ?_)
  rintro e w1 ⟨rfl, hw⟩
  have EX := Lib.hid (EW.out.trans' hw)
  clear p0 p1 p2 q0 q1' q2'
  obtain ⟨p0, p1, p2, -, -, -⟩ := row3_facts (row_ext RA.out hw)
  obtain ⟨q0, q1', q2', -, -, -⟩ := row3_facts (row_ext RB.out hw)
  clear hw
  go_wp2
  go_ret
  exact ⟨rfl, EX.out⟩

set_option maxHeartbeats 1600000 in
set_option maxRecDepth 100000 in
theorem eqClauseS_same {w : World} {v1 v2 : Value} {l : List Cl} (h1 : ClSl w v1 l) (h2 : ClSl w v2 l) :
    Calls Try.prog 78 #[v1, v2] w fun e w' => e = .returned (.bool true) ∧ Ext w w' := by
  obtain ⟨a1, b1, o1, c1, rfl, ha1, hl1, hm1, hc1⟩ := h1
  obtain ⟨a2, b2, o2, c2, rfl, ha2, hl2, hm2, hc2⟩ := h2
  unfold maxLen at hm1 hm2
  have Hc1 := Lib.hid hc1
  have Ha1 := Lib.hid ha1
  have Hc2 := Lib.hid hc2
  have Ha2 := Lib.hid ha2
  clear hc1 ha1 hc2 ha2
  go_enter Try.func78, Try.ntmps78
  go_wp2
  go_loopg [5] l.length (fun g i wr => ∃ k : Nat, k ≤ l.length ∧ g = l.length - k ∧ i = .int .i64 k ∧ Hid (Ext w wr))
  case atStart => exact ⟨0, Nat.zero_le _, rfl, rfl, Ext.rfl' w⟩
  case round =>
    obtain ⟨k, hk, rfl, rfl, Hr⟩ := hrel
    by_cases hlt : k < l.length
    · obtain ⟨f1, ⟨xa, xn, xq, f2, rfl, f3⟩, f4, -⟩ := Hc1.out k hlt
      obtain ⟨g1, ⟨ya, yn, yq, g2, rfl, g3⟩, g4, -⟩ := Hc2.out k hlt
      obtain rfl := Ha1.out (by omega)
      obtain rfl := Ha2.out (by omega)
      have f1 := Hr.out.cell' f1
      have f2 := Hr.out.cell' f2
      have f4 := Hr.out.cell' f4
      have g1 := Hr.out.cell' g1
      have g2 := Hr.out.cell' g2
      have g4 := Hr.out.cell' g4
      have H1 := Lib.hid (f3.ext Hr.out)
      have H2 := Lib.hid (g3.ext Hr.out)
      have Hx := Lib.hid (Ext.rfl' wr).drew'
      clear f3 g3
      go_wp2_with fail
      go_region_held3 (fun w' => w'.cell? ⟨b1, o1 + k * 3, none⟩ = some (.int .i64 (gc l k).st) ∧ w'.cell? ⟨b1, o1 + k * 3 + 1, none⟩ = some (.slice xa (gc l k).inb.length xq) ∧ w'.cell? ⟨b1, o1 + k * 3 + 2, none⟩ = some (.int .i64 (gc l k).nx) ∧ w'.cell? ⟨b2, o2 + k * 3, none⟩ = some (.int .i64 (gc l k).st) ∧ w'.cell? ⟨b2, o2 + k * 3 + 1, none⟩ = some (.slice ya (gc l k).inb.length yq) ∧ w'.cell? ⟨b2, o2 + k * 3 + 2, none⟩ = some (.int .i64 (gc l k).nx) ∧ Hid (Ext wr w')) (first | exact ⟨f1, f2, f4, g1, g2, g4, Hx⟩ | exact ⟨hx.cell' ‹_›, hx.cell' ‹_›, hx.cell' ‹_›, hx.cell' ‹_›, hx.cell' ‹_›, hx.cell' ‹_›, Ext.trans' (Hid.out ‹_›) hx⟩)
        (first | (go_at_call 131; (with_reducible refine (eqClause_same (H1.out.ext Hx.out) (H2.out.ext Hx.out)).mono ?_); rintro e w' ⟨rfl, hx⟩))
      rename_i hh
      have HX := hh.2.2.2.2.2.2
      clear hh hx Hx
      go_wp2
      go_roundg (l.length - (k + 1))
      case measure => omega
      case rel => exact ⟨k + 1, by omega, rfl, by go_num, Hr.out.trans' HX.out⟩
    · go_wp2
      go_ret
      exact ⟨rfl, Hr.out⟩

set_option maxHeartbeats 1600000 in
set_option maxRecDepth 100000 in
theorem eqMachine_same {w : World} {v1 v2 : Value} {M : Mach} (h1 : MachAt w v1 M) (h2 : MachAt w v2 M) :
    Calls Try.prog 23 #[v1, v2] w fun e w' => e = .returned (.bool true) ∧ Ext w w' := by
  obtain ⟨a3, ac3, a4, ac4, a5, ac5, a6, ac6, rfl, h3, h4, h5, h6, -⟩ := h1
  obtain ⟨b3, bc3, b4, bc4, b5, bc5, b6, bc6, rfl, k3, k4, k5, k6, -⟩ := h2
  obtain ⟨W1, hW1⟩ : ∃ W1, W1 = (w.alloc (.cells #[.int .i64 M.deg, .int .i64 M.sts, .int .i64 M.msgs, .slice a3 M.start.length ac3, .slice a4 M.send.length ac4, .slice a5 M.cls.length ac5, .slice a6 M.out.length ac6] 31)).alloc (.cells #[.int .i64 M.deg, .int .i64 M.sts, .int .i64 M.msgs, .slice b3 M.start.length bc3, .slice b4 M.send.length bc4, .slice b5 M.cls.length bc5, .slice b6 M.out.length bc6] 31) := ⟨_, rfl⟩
  have EW := Lib.hid (show Ext w W1 by rw [hW1]; exact (boxed7_ext _ _ _ _ _ _ _ _ _).trans' (boxed7_ext _ _ _ _ _ _ _ _ _))
  have RA0 := Lib.hid (show W1.rowIs w.heap.size 31 7 (sept (.int .i64 M.deg) (.int .i64 M.sts) (.int .i64 M.msgs) (.slice a3 M.start.length ac3) (.slice a4 M.send.length ac4) (.slice a5 M.cls.length ac5) (.slice a6 M.out.length ac6)) by rw [hW1]; exact (boxed7_row _ _ _ _ _ _ _ _ _).alloc _)
  have RB0 := Lib.hid (show W1.rowIs (w.heap.size + 1) 31 7 (sept (.int .i64 M.deg) (.int .i64 M.sts) (.int .i64 M.msgs) (.slice b3 M.start.length bc3) (.slice b4 M.send.length bc4) (.slice b5 M.cls.length bc5) (.slice b6 M.out.length bc6)) by rw [hW1]; simpa using boxed7_row (boxed7 w (.int .i64 M.deg) (.int .i64 M.sts) (.int .i64 M.msgs) (.slice a3 M.start.length ac3) (.slice a4 M.send.length ac4) (.slice a5 M.cls.length ac5) (.slice a6 M.out.length ac6) 31) (.int .i64 M.deg) (.int .i64 M.sts) (.int .i64 M.msgs) (.slice b3 M.start.length bc3) (.slice b4 M.send.length bc4) (.slice b5 M.cls.length bc5) (.slice b6 M.out.length bc6) 31)
  obtain ⟨p0, p1, p2, p3, p4, p5, p6⟩ := row7_facts RA0.out
  obtain ⟨q0, q1, q2, q3, q4, q5, q6⟩ := row7_facts RB0.out
  have H3 := Lib.hid (h3.ext EW.out)
  have K3 := Lib.hid (k3.ext EW.out)
  have H4 := Lib.hid (h4.ext EW.out)
  have K4 := Lib.hid (k4.ext EW.out)
  have H5 := Lib.hid (h5.ext EW.out)
  have K5 := Lib.hid (k5.ext EW.out)
  have H6 := Lib.hid (h6.ext EW.out)
  have K6 := Lib.hid (k6.ext EW.out)
  have e0 : (M.deg != M.deg) = false := by simp
  have e1 : (M.sts != M.sts) = false := by simp
  have e2 : (M.msgs != M.msgs) = false := by simp
  have EX0 := Lib.hid (Ext.rfl' W1)
  clear h3 h4 h5 h6 k3 k4 k5 k6
  go_enter Try.func23, Try.ntmps23
  go_upto_region 1 with fail
  rw [← hW1]
  clear hW1
  go_wp2_with fail
  (with_reducible refine (eqIntSS_same (H3.out.ext EX0.out) (K3.out.ext EX0.out)).mono ?_)
  rintro e w1 ⟨rfl, hw⟩
  have EX1 := Lib.hid (EX0.out.trans' hw)
  clear hw p0 p1 p2 p3 p4 p5 p6 q0 q1 q2 q3 q4 q5 q6
  obtain ⟨p0, p1, p2, p3, p4, p5, p6⟩ := row7_facts (row_ext RA0.out EX1.out)
  obtain ⟨q0, q1, q2, q3, q4, q5, q6⟩ := row7_facts (row_ext RB0.out EX1.out)
  go_wp2_with fail
  (with_reducible refine (eqIntSS_same (H4.out.ext EX1.out) (K4.out.ext EX1.out)).mono ?_)
  rintro e w2 ⟨rfl, hw⟩
  have EX2 := Lib.hid (EX1.out.trans' hw)
  clear hw p0 p1 p2 p3 p4 p5 p6 q0 q1 q2 q3 q4 q5 q6
  obtain ⟨p0, p1, p2, p3, p4, p5, p6⟩ := row7_facts (row_ext RA0.out EX2.out)
  obtain ⟨q0, q1, q2, q3, q4, q5, q6⟩ := row7_facts (row_ext RB0.out EX2.out)
  go_wp2_with fail
  (with_reducible refine (eqClauseS_same (H5.out.ext EX2.out) (K5.out.ext EX2.out)).mono ?_)
  rintro e w3 ⟨rfl, hw⟩
  have EX3 := Lib.hid (EX2.out.trans' hw)
  clear hw p0 p1 p2 p3 p4 p5 p6 q0 q1 q2 q3 q4 q5 q6
  obtain ⟨p0, p1, p2, p3, p4, p5, p6⟩ := row7_facts (row_ext RA0.out EX3.out)
  obtain ⟨q0, q1, q2, q3, q4, q5, q6⟩ := row7_facts (row_ext RB0.out EX3.out)
  go_wp2_with fail
  (with_reducible refine (eqIntS_same (H6.out.ext EX3.out) (K6.out.ext EX3.out)).mono ?_)
  rintro e w4 ⟨rfl, hw⟩
  have EX4 := Lib.hid (EX3.out.trans' hw)
  clear hw p0 p1 p2 p3 p4 p5 p6 q0 q1 q2 q3 q4 q5 q6
  obtain ⟨p0, p1, p2, p3, p4, p5, p6⟩ := row7_facts (row_ext RA0.out EX4.out)
  obtain ⟨q0, q1, q2, q3, q4, q5, q6⟩ := row7_facts (row_ext RB0.out EX4.out)
  go_wp2
  go_ret
  exact ⟨rfl, EW.out.trans' EX4.out⟩

set_option maxHeartbeats 3200000 in
set_option maxRecDepth 100000 in
theorem markClauseS_at {w : World} {v : Value} {l : List Cl} {bs : List Nat} (k : Int) (h : OwnCl w v l bs) (hnd : bs.Nodup) (hs : l.length ≤ 1048576) (hs2 : ∀ i, (gc l i).inb.length ≤ 1048576) (h0 : 0 ≤ k) (h1 : k ≤ 17592186044416) :
    Calls Try.prog 87 #[v, .int .i64 k] w fun e w' => ∃ r : Int, e = .returned (.int .i64 r) ∧ 0 ≤ r ∧ r ≤ k + 1099513724928 ∧ Chg w w' bs := by
  obtain ⟨R, b0, T, ⟨c, hc1, hc2, h⟩, hrows, -, rfl⟩ := h
  rcases h with ⟨hn, rfl, a, hac, rfl⟩ | ⟨b, m, g, rfl, rfl, ⟨hm, hmc⟩, hrow, hg⟩
  · have HZ := Lib.hid hn
    have HAC := Lib.hid hac
    clear hn hac
    go_enter Try.func87, Try.ntmps87
    go_wp2
    go_loop [1, 5] (fun t i => i = .int .i64 0 ∧ t = .int .i64 k) (fun _ _ => 0)
    case atStart => exact ⟨rfl, rfl⟩
    case round =>
      obtain ⟨rfl, rfl⟩ := hrel
      go_wp2
      go_ret
      exact ⟨_, rfl, by omega, by omega, Chg.rfl' _ _⟩
  · unfold maxLen at hc2
    have HMC := Lib.hid hmc
    clear hmc
    have HR := Lib.hid hrow
    have HT := Lib.hid hrows
    have HD := Lib.hid (nodup_rows hnd)
    have HS := Lib.hid hs2
    have Hg := Lib.hid (show ∀ i, i < l.length → g (i * 3 + 1) = R i from fun i hi => by
      rw [hg _ (by omega)]
      simp only [clcell]
      rw [if_neg (by omega), if_pos (by omega)]
      congr 1; omega)
    clear hrow hrows hnd hs2 hg
    go_enter Try.func87, Try.ntmps87
    go_wp2
    go_loopg [1, 5] l.length (fun gh t i wr => ∃ (j : Nat) (r : Int), j ≤ l.length ∧ gh = l.length - j ∧ i = .int .i64 j ∧ t = .int .i64 r ∧ k ≤ r ∧ r ≤ k + 1048578 * (j : Int) ∧ Hid (Chg w wr ([b] ++ (List.range l.length).flatMap T) ∧ (∃ g', wr.rowIs b 113 m g' ∧ ∀ i, j ≤ i → i < l.length → g' (i * 3 + 1) = R i) ∧ ∀ i, j ≤ i → i < l.length → OwnI wr (R i) (gc l i).inb (T i)))
    case atStart => exact ⟨0, k, Nat.zero_le _, rfl, rfl, rfl, by omega, by omega, Chg.rfl' _ _, ⟨g, HR.out, fun i _ hi => Hg.out i hi⟩, fun i _ hi => HT.out i hi⟩
    case round =>
      obtain ⟨j, r, hj, rfl, rfl, rfl, hr1, hr2, Hr⟩ := hrel
      by_cases hlt : j < l.length
      · obtain ⟨-, ⟨g', hrow', hg'⟩, -⟩ := Hr.out
        have hlen := HS.out j
        obtain ⟨ra, rq, hR⟩ := (Hr.out.2.2 j (Nat.le_refl _) hlt).read.isSlice
        have ho := Hr.out.2.2 j (Nat.le_refl _) hlt
        have gj := hg' j (Nat.le_refl _) hlt
        rw [hR] at ho gj
        have f0 := hrow'.cell (i := j * 3) (by omega)
        have f0' := hrow'.frozen (j * 3)
        have hrow1 := hrow'.set (j * 3) (.int .i64 r)
        have hne1 : j * 3 + 1 ≠ j * 3 := by omega
        have f1 := hrow1.cell (i := j * 3 + 1) (by omega)
        rw [if_neg hne1, gj] at f1
        have HO := Lib.hid (ho.keep (w' := wr.setCell ⟨b, j * 3, none⟩ (.int .i64 r)) fun x hx => Below.heap_setCell _ _ _ _ (by show x ≠ b; intro e; subst e; exact HD.out.1 j hlt x (by simp) hx))
        have HC0 := Lib.hid (Hr.out.1.store (p := ⟨b, j * 3, none⟩) (by simp) (.int .i64 r))
        have HR1 := Lib.hid hrow1
        have HGJ := Lib.hid hg'
        obtain ⟨W1, hW1⟩ : ∃ W1, W1 = wr.setCell ⟨b, j * 3, none⟩ (.int .i64 r) := ⟨_, rfl⟩
        have HRW := Lib.hid (show ∀ i, j + 1 ≤ i → i < l.length → OwnI W1 (R i) (gc l i).inb (T i) from fun i hi1 hi2 => by
          rw [hW1]
          exact (Hr.out.2.2 i (by omega) hi2).keep fun x hx => Below.heap_setCell _ _ _ _ (by show x ≠ b; intro e; subst e; exact HD.out.1 i hi2 x (by simp) hx))
        rw [← hW1] at f1 HO HC0 HR1
        clear gj ho hrow1 hrow' hg' hR
        go_upto_region 5 with fail
        rw [← hW1]
        clear hW1 f0 f0'
        go_wp2_with fail
        (with_reducible refine (markIntS_any _ HO.out hlen (by omega) (by omega)).mono ?_)
        rintro e w1 ⟨rfl, hch, -⟩
        have HC := Lib.hid hch
        have HR2 := Lib.hid (HR1.out.of_block (HC.out.block b HR1.out.lt (HD.out.1 j hlt b (by simp))))
        have f2 := HR2.out.cell (i := j * 3 + 2) (by omega)
        have f2' := HR2.out.frozen (j * 3 + 2)
        obtain ⟨z, hz⟩ : ∃ z, some z = w1.cell? ⟨b, j * 3 + 2, none⟩ := ⟨_, f2.symm⟩
        rw [← hz] at f2
        have f2 := hz.symm
        clear hch f1 hz
        go_wp2
        go_roundg (l.length - (j + 1))
        case measure => omega
        case rel =>
          refine ⟨j + 1, _, by omega, rfl, by go_num, rfl, by omega, by omega, ?_, ⟨_, HR2.out.set _ _, fun i hi1 hi2 => ?_⟩, fun i hi1 hi2 => ?_⟩
          · exact (HC0.out.trans' (HC.out.mono fun x hx => List.mem_append.2 (.inr (List.mem_flatMap.2 ⟨j, List.mem_range.2 hlt, hx⟩)))).store (by simp) _
          · rw [if_neg (by omega), if_neg (by omega)]
            exact HGJ.out i (by omega) hi2
          · have ho := HRW.out i hi1 hi2
            have h2 := ho.keep fun x hx => HC.out.block x (ho.1.lt x hx) (HD.out.2 i j hi2 hlt (by omega) x hx)
            exact h2.keep fun x hx => Below.heap_setCell _ _ _ _ (by show x ≠ b; intro e; subst e; exact HD.out.1 i hi2 x (by simp) hx)
      · obtain rfl : j = l.length := by omega
        go_wp2
        go_ret
        exact ⟨_, rfl, by omega, by omega, Hr.out.1⟩

set_option maxHeartbeats 3200000 in
set_option maxRecDepth 100000 in
theorem markMachine_at {w : World} {v : Value} {M : Mach} {bs : List Nat} (k : Int) (h : OwnMach w v M bs) (hnd : bs.Nodup) (hs : M.small) (h0 : 0 ≤ k) (h1 : k ≤ 1099511627776) :
    Calls Try.prog 32 #[v, .int .i64 k] w fun e w' => ∃ r : Int, e = .returned (.int .i64 r) ∧ 0 ≤ r ∧ r ≤ k + 4398046511104 ∧ Chg w w' bs := by
  obtain ⟨a3, ac3, a4, ac4, a5, ac5, a6, ac6, b3, b4, b5, b6, rfl, h3, h4, h5, h6, -, rfl⟩ := h
  obtain ⟨s3, s4, ⟨s5, s5'⟩, s6⟩ := hs
  obtain ⟨n3, hn, d3⟩ := List.nodup_append.1 hnd
  obtain ⟨n4, hn, d4⟩ := List.nodup_append.1 hn
  obtain ⟨n5, n6, d5⟩ := List.nodup_append.1 hn
  have HE := Lib.hid (boxed7_ext w (.int .i64 M.deg) (.int .i64 M.sts) (.int .i64 M.msgs) (.slice a3 M.start.length ac3) (.slice a4 M.send.length ac4) (.slice a5 M.cls.length ac5) (.slice a6 M.out.length ac6) 31)
  have RW := Lib.hid (boxed7_row w (.int .i64 M.deg) (.int .i64 M.sts) (.int .i64 M.msgs) (.slice a3 M.start.length ac3) (.slice a4 M.send.length ac4) (.slice a5 M.cls.length ac5) (.slice a6 M.out.length ac6) 31)
  have O3 := Lib.hid (h3.ext HE.out)
  have O4 := Lib.hid (h4.ext HE.out)
  have O5 := Lib.hid (h5.ext HE.out)
  have O6 := Lib.hid (h6.ext HE.out)
  have L4 := Lib.hid h4.lt
  have L5 := Lib.hid h5.lt
  have L6 := Lib.hid h6.1.lt
  have L3 := Lib.hid h3.lt
  have D3 := Lib.hid d3
  have D4 := Lib.hid d4
  have D5 := Lib.hid d5
  have S3 := Lib.hid s3
  have S4 := Lib.hid s4
  have S5 := Lib.hid s5'
  have G0 := Lib.hid (Chg.of_ext HE.out (b3 ++ (b4 ++ (b5 ++ b6))))
  obtain ⟨p0, p1, p2, p3, p4, p5, p6⟩ := row7_facts RW.out
  clear h3 h4 h5 h6 d3 d4 d5 hn hnd s3 s4 s5'
  clear p0 p1 p2
  go_enter Try.func32, Try.ntmps32
  go_wp2_with fail
  (with_reducible refine (markIntSS_at _ O3.out n3 S3.out (by omega) (by omega)).mono ?_)
  rintro e w3 ⟨r3, rfl, hr30, hr31, hc⟩
  have G1 := Lib.hid (G0.out.trans' (hc.mono (fun x hx => by simp [hx])))
  have RW := Lib.hid (RW.out.of_block (hc.block _ RW.out.lt fun hb => Nat.lt_irrefl _ (L3.out _ hb)))
  have O4 := Lib.hid (O4.out.keep fun x hx => hc.block x (O4.out.lt x hx) fun hx' => D3.out x hx' x (by simp [hx]) rfl)
  have O5 := Lib.hid (O5.out.keep fun x hx => hc.block x (O5.out.lt x hx) fun hx' => D3.out x hx' x (by simp [hx]) rfl)
  have O6 := Lib.hid (O6.out.keep fun x hx => hc.block x (O6.out.1.lt x hx) fun hx' => D3.out x hx' x (by simp [hx]) rfl)
  clear hc p3 p4 p5 p6
  obtain ⟨p0, p1, p2, p3, p4, p5, p6⟩ := row7_facts RW.out
  clear p0 p1 p2
  go_wp2_with fail
  (with_reducible refine (markIntSS_at _ O4.out n4 S4.out (by omega) (by omega)).mono ?_)
  rintro e w4 ⟨r4, rfl, hr40, hr41, hc⟩
  have G2 := Lib.hid (G1.out.trans' (hc.mono (fun x hx => by simp [hx])))
  have RW := Lib.hid (RW.out.of_block (hc.block _ RW.out.lt fun hb => Nat.lt_irrefl _ (L4.out _ hb)))
  have O5 := Lib.hid (O5.out.keep fun x hx => hc.block x (O5.out.lt x hx) fun hx' => D4.out x hx' x (by simp [hx]) rfl)
  have O6 := Lib.hid (O6.out.keep fun x hx => hc.block x (O6.out.1.lt x hx) fun hx' => D4.out x hx' x (by simp [hx]) rfl)
  clear hc p3 p4 p5 p6
  obtain ⟨p0, p1, p2, p3, p4, p5, p6⟩ := row7_facts RW.out
  clear p0 p1 p2
  go_wp2_with fail
  (with_reducible refine (markClauseS_at _ O5.out n5 s5 S5.out (by omega) (by omega)).mono ?_)
  rintro e w5 ⟨r5, rfl, hr50, hr51, hc⟩
  have G3 := Lib.hid (G2.out.trans' (hc.mono (fun x hx => by simp [hx])))
  have RW := Lib.hid (RW.out.of_block (hc.block _ RW.out.lt fun hb => Nat.lt_irrefl _ (L5.out _ hb)))
  have O6 := Lib.hid (O6.out.keep fun x hx => hc.block x (O6.out.1.lt x hx) fun hx' => D5.out x hx' x hx rfl)
  clear hc p3 p4 p5 p6
  obtain ⟨p0, p1, p2, p3, p4, p5, p6⟩ := row7_facts RW.out
  clear p0 p1 p2
  go_wp2_with fail
  (with_reducible refine (markIntS_any _ O6.out s6 (by omega) (by omega)).mono ?_)
  rintro e w6 ⟨rfl, hc, -⟩
  have G4 := Lib.hid (G3.out.trans' (hc.mono (fun x hx => by simp [hx])))
  clear hc
  go_wp2
  go_ret
  exact ⟨_, rfl, by omega, by omega, G4.out⟩
end Go.Proofs.Ytdcgpodjoalokaa
