/- FirstFaultOfRun: the program. -/
import Derived.Test.YtdcgpodjoalokaaMfa
import Derived.Test.YtdcgpodjoalokaaMhb
namespace Go.Proofs.Ytdcgpodjoalokaa
open Go.RowKit Go.Shelf
attribute [local go_sem] Oper.semAt_some

/-- While no fault is found: the boxes of the results, unwritten, and the box of the run. -/
def FAt (w : World) (M : Mach) (N : Net) (R : List (List Int)) (vr : Value) (B : Nat) (k : Nat) (W : World) : Prop :=
  Ext w W ∧ B ≤ W.heap.size ∧ W.rowIs (w.heap.size + 1 + 1 + 1) 3 1 (fun _ => .int .i64 0) ∧ W.rowIs (w.heap.size + 1 + 1 + 1 + 1) 3 1 (fun _ => .int .i64 0) ∧ W.rowIs (w.heap.size + 1 + 1 + 1 + 1 + 1) 4 1 (fun _ => .bool false) ∧
    (∀ j, j < k → ¬ Bad M N R j) ∧ W.rowIs (w.heap.size + 1 + 1) 22 1 (fun _ => vr)
theorem FAt.kc {w : World} {M : Mach} {N : Net} {R : List (List Int)} {vr : Value} {k B : Nat} {W W' : World} (h : FAt w M N R vr B k W) (hk : Kc B W W') (hB : w.heap.size ≤ B) : FAt w M N R vr B k W' :=
  ⟨hk.ext h.1 hB, Nat.le_trans h.2.1 hk.size, hk.row h.2.2.1, hk.row h.2.2.2.1, hk.row h.2.2.2.2.1, h.2.2.2.2.2.1, hk.row h.2.2.2.2.2.2⟩
/-- Behind the return from a round. -/
def FIx (w : World) (M : Mach) (N : Net) (R : List (List Int)) (cd : Code) (k : Nat) (W : World) : Prop :=
  cd = .ret ∧ Ext w W ∧ (∀ j, j < k → ¬ Bad M N R j) ∧ ∃ v, v < N.ends.length ∧ DiffAt M N R k v ∧ (∀ u, u < v → ¬ DiffAt M N R k u) ∧
    W.rowIs (w.heap.size + 1 + 1 + 1) 3 1 (fun _ => .int .i64 (k : Int)) ∧ W.rowIs (w.heap.size + 1 + 1 + 1 + 1) 3 1 (fun _ => .int .i64 (v : Int)) ∧ W.rowIs (w.heap.size + 1 + 1 + 1 + 1 + 1) 4 1 (fun _ => .bool true)
theorem FIx.kc {w : World} {M : Mach} {N : Net} {R : List (List Int)} {cd : Code} {k B : Nat} {W W' : World} (h : FIx w M N R cd k W) (hk : Kc B W W') (hB : w.heap.size ≤ B) : FIx w M N R cd k W' := by
  obtain ⟨h1, h2, h3, v, a, b, c, r1, r2, r3⟩ := h
  exact ⟨h1, hk.ext h2 hB, h3, v, a, b, c, hk.row r1, hk.row r2, hk.row r3⟩
theorem row1_cell {w : World} {b t : Nat} {x : Value} (h : w.rowIs b t 1 (fun _ => x)) : w.cell? ⟨b, 0, none⟩ = some x := h.cell (i := 0) (by omega)
/-- The three results are written. -/
theorem three_set {w : World} {b c d t t' t'' : Nat} {x y z x' y' z' : Value} (h : w.rowIs b t 1 (fun _ => x)) (k : w.rowIs c t' 1 (fun _ => y)) (l : w.rowIs d t'' 1 (fun _ => z)) (h1 : b ≠ c) (h2 : b ≠ d) (h3 : c ≠ d) :
    (((w.setCell ⟨b, 0, none⟩ x').setCell ⟨c, 0, none⟩ y').setCell ⟨d, 0, none⟩ z').rowIs b t 1 (fun _ => x') ∧ (((w.setCell ⟨b, 0, none⟩ x').setCell ⟨c, 0, none⟩ y').setCell ⟨d, 0, none⟩ z').rowIs c t' 1 (fun _ => y') ∧ (((w.setCell ⟨b, 0, none⟩ x').setCell ⟨c, 0, none⟩ y').setCell ⟨d, 0, none⟩ z').rowIs d t'' 1 (fun _ => z') :=
  ⟨row3_set (row3_set (row1_set h x') h1) h2, row3_set (row1_set (row3_set k (Ne.symm h1)) y') h3, row1_set (row3_set (row3_set l (Ne.symm h2)) (Ne.symm h3)) z'⟩
theorem ff_ret {M : Mach} {N : Net} {R : List (List Int)} (h : ¬ FaultB M N R) : (ffK M N R = 0 ∧ ffV M N R = 0) ∧ dec (FaultB M N R) = false := ⟨ff_f h, dec_false h⟩

set_option maxHeartbeats 6400000 in
set_option maxRecDepth 100000 in
theorem implFirstFaultOfRun_any {w : World} {vm vn vr : Value} {M : Mach} {N : Net} {R : List (List Int)} (h : MachAt w vm M) (k : NetAt w vn N) (hr : IntSS w vr R) (_ : IISmall R) :
    Calls Try.prog 57 #[vm, vn, vr] w fun e w' => e = .returned (.tuple #[.int .i64 (ffK M N R), .int .i64 (ffV M N R), .bool (dec (FaultB M N R))]) ∧ Ext w w' := by
  have HM := Lib.hid h
  have HN := Lib.hid k
  have HRR := Lib.hid hr
  obtain ⟨ra, rc, rfl⟩ : ∃ ra rc, vr = .slice ra R.length rc := by obtain ⟨a, b, o, c, h, -⟩ := hr; exact ⟨a, c, h⟩
  obtain ⟨-, rm, rn⟩ := ssLen hr
  unfold maxLen at rm
  clear hr
  obtain ⟨a3, c3, a4, c4, a5, c5, a6, c6, rfl⟩ := h.agg
  obtain ⟨v0, v1, v2, rfl⟩ := k.agg
  obtain ⟨W1, hW1⟩ : ∃ W1, W1 = ((((((w.alloc (.cells #[.int .i64 M.deg, .int .i64 M.sts, .int .i64 M.msgs, .slice a3 M.start.length c3, .slice a4 M.send.length c4, .slice a5 M.cls.length c5, .slice a6 M.out.length c6] 31)).alloc (.cells #[v0, v1, v2] 43)).alloc (.cells #[.slice ra R.length rc] 22)).alloc (.cells #[.int .i64 0] 3)).alloc (.cells #[.int .i64 0] 3)).alloc (.cells #[.bool false] 4)) := ⟨_, rfl⟩
  have EW := Lib.hid (show Ext w W1 by rw [hW1]; exact ((((((Ext.rfl' w).alloc' _).alloc' _).alloc' _).alloc' _).alloc' _).alloc' _)
  have ZW := Lib.hid (show W1.heap.size = w.heap.size + 6 by rw [hW1]; simp)
  have RL := Lib.hid (show W1.rowIs (w.heap.size + 1 + 1) 22 1 (fun _ => .slice ra R.length rc) by
    rw [hW1]
    have := (((row1_made ((w.alloc (.cells #[.int .i64 M.deg, .int .i64 M.sts, .int .i64 M.msgs, .slice a3 M.start.length c3, .slice a4 M.send.length c4, .slice a5 M.cls.length c5, .slice a6 M.out.length c6] 31)).alloc (.cells #[v0, v1, v2] 43)) (.slice ra R.length rc) 22).alloc (.cells #[.int .i64 0] 3)).alloc (.cells #[.int .i64 0] 3)).alloc (.cells #[.bool false] 4)
    simp only [World.size_alloc] at this
    exact this)
  have E2 := Lib.hid (show W1.rowIs (w.heap.size + 1 + 1 + 1) 3 1 (fun _ => .int .i64 0) by
    rw [hW1]
    have := ((row1_made (((w.alloc (.cells #[.int .i64 M.deg, .int .i64 M.sts, .int .i64 M.msgs, .slice a3 M.start.length c3, .slice a4 M.send.length c4, .slice a5 M.cls.length c5, .slice a6 M.out.length c6] 31)).alloc (.cells #[v0, v1, v2] 43)).alloc (.cells #[.slice ra R.length rc] 22)) (.int .i64 0) 3).alloc (.cells #[.int .i64 0] 3)).alloc (.cells #[.bool false] 4)
    simp only [World.size_alloc] at this
    exact this)
  have E3 := Lib.hid (show W1.rowIs (w.heap.size + 1 + 1 + 1 + 1) 3 1 (fun _ => .int .i64 0) by
    rw [hW1]
    have := (row1_made ((((w.alloc (.cells #[.int .i64 M.deg, .int .i64 M.sts, .int .i64 M.msgs, .slice a3 M.start.length c3, .slice a4 M.send.length c4, .slice a5 M.cls.length c5, .slice a6 M.out.length c6] 31)).alloc (.cells #[v0, v1, v2] 43)).alloc (.cells #[.slice ra R.length rc] 22)).alloc (.cells #[.int .i64 0] 3)) (.int .i64 0) 3).alloc (.cells #[.bool false] 4)
    simp only [World.size_alloc] at this
    exact this)
  have E4 := Lib.hid (show W1.rowIs (w.heap.size + 1 + 1 + 1 + 1 + 1) 4 1 (fun _ => .bool false) by
    rw [hW1]
    have := row1_made (((((w.alloc (.cells #[.int .i64 M.deg, .int .i64 M.sts, .int .i64 M.msgs, .slice a3 M.start.length c3, .slice a4 M.send.length c4, .slice a5 M.cls.length c5, .slice a6 M.out.length c6] 31)).alloc (.cells #[v0, v1, v2] 43)).alloc (.cells #[.slice ra R.length rc] 22)).alloc (.cells #[.int .i64 0] 3)).alloc (.cells #[.int .i64 0] 3)) (.bool false) 4
    simp only [World.size_alloc] at this
    exact this)
  have RA := Lib.hid (show W1.rowIs w.heap.size 31 7 (sept (.int .i64 M.deg) (.int .i64 M.sts) (.int .i64 M.msgs) (.slice a3 M.start.length c3) (.slice a4 M.send.length c4) (.slice a5 M.cls.length c5) (.slice a6 M.out.length c6)) by rw [hW1]; exact (((((row7_made _ _ _ _ _ _ _ _ _).alloc _).alloc _).alloc _).alloc _).alloc _)
  have RB := Lib.hid (show W1.rowIs (w.heap.size + 1) 43 3 (tri v0 v1 v2) by
    rw [hW1]
    have := ((((row3_made (w.alloc (.cells #[.int .i64 M.deg, .int .i64 M.sts, .int .i64 M.msgs, .slice a3 M.start.length c3, .slice a4 M.send.length c4, .slice a5 M.cls.length c5, .slice a6 M.out.length c6] 31)) v0 v1 v2 43).alloc (.cells #[.slice ra R.length rc] 22)).alloc (.cells #[.int .i64 0] 3)).alloc (.cells #[.int .i64 0] 3)).alloc (.cells #[.bool false] 4)
    rw [World.size_alloc] at this
    exact this)
  clear h k
  refine (callsIn_wide (n := 5)).1 ?_
  refine callsIn_of_wp_marks Try.func57 rfl trivial ?_ rfl
  simp only [Try.ntmps57, List.size_toArray, List.length_cons, List.length_nil, Nat.reduceAdd, Nat.reduceSub, Array.replicate_succ, Array.replicate_zero, List.push_toArray, List.append_toArray, List.nil_append, List.cons_append]
  have rl := row1_cell RL.out
  rw [hW1] at rl
  by_cases h41 : R.length ≤ 41
  case neg =>
    have b1 : decide ((41 : Int) < (R.length : Int)) = true := decide_eq_true (by omega)
    have DA := Lib.hid (show ¬ FaultB M N R from fun h => h41 (by have := h.1.2.1; unfold InB at this; omega))
    have t2 := row1_cell E2.out
    have f2 := E2.out.frozen 0
    have t3 := row1_cell E3.out
    have f3 := E3.out.frozen 0
    have t4 := row1_cell E4.out
    have f4 := E4.out.frozen 0
    clear h41
    rw [hW1] at t2 f2 t3 f3 t4 f4
    gi_wp2_with fail
    rw [← hW1]
    exact ⟨_, results_cell3 rfl _ _ rfl rfl rfl (run_loadVar1 _ Try.underlying3 rfl (row1_cell E2.out)) (run_loadVar1 _ Try.underlying3 rfl (row1_cell E3.out)) (run_loadVar1 _ Try.underlying4 rfl (row1_cell E4.out)), ret_iib (ff_f DA.out).1.symm (ff_f DA.out).2.symm (dec_false DA.out).symm, EW.out⟩
  have b1 : decide ((41 : Int) < (R.length : Int)) = false := decide_eq_false (by omega)
  have H41 := Lib.hid h41
  have HRW := Lib.hid (HRR.out.ext EW.out)
  gi_wp2_with fail
  rw [← hW1]
  clear rl hW1
  gi_loopw [20] (fun i wr => ∃ j : Nat, j ≤ R.length ∧ i = .int .i64 j ∧ Hid (Ext W1 wr ∧ ∀ u, u < j → Sts M N (gr R u))) (fun i _ => R.length + 1 - (intOf i).toNat)
  case atStart => exact ⟨0, Nat.zero_le _, rfl, Ext.rfl' _, fun u hu => absurd hu (by omega)⟩
  case round =>
    obtain ⟨j, hj, rfl, Hr⟩ := hrel
    have KR := Lib.hid (EW.out.trans' Hr.out.1)
    by_cases hlt : j < R.length
    · obtain ⟨b, o, xa, xc, rfl, z0, hx⟩ := ssRow (HRW.out.ext Hr.out.1) hlt
      have HX := Lib.hid hx
      clear hx
      obtain ⟨p0, p1, p2, p3, p4, p5, p6⟩ := row7_facts (row_ext RA.out Hr.out.1)
      obtain ⟨q0, q1, q2, -, -, -⟩ := row3_facts (row_ext RB.out Hr.out.1)
      gi_wp2_with fail
      refine ⟨trivial, ?_⟩
      (with_reducible refine (callsIn_wide.2 (areStatesOn_any (HM.out.ext KR.out) (HN.out.ext KR.out) HX.out)).mono ?_)
      rintro e w3 ⟨rfl, hx⟩
      have X3 := Lib.hid (Hr.out.1.trans' hx)
      clear hx p0 p1 p2 p3 p4 p5 p6 q0 q1 q2 z0
      by_cases hq : Sts M N (gr R j)
      · rw [dec_true hq]
        have Hq := Lib.hid hq
        clear hq
        gi_wp2_with fail
        go_roundw
        case rel =>
          refine ⟨j + 1, by omega, by go_num, X3.out, fun u hu => ?_⟩
          by_cases e : u = j
          · subst e; exact Hq.out
          · exact Hr.out.2 u (by omega)
        case measure => simp [intOf]; omega
      · rw [dec_false hq]
        have DA := Lib.hid (show ¬ FaultB M N R from fun h => hq ⟨h.1.1, h.1.2.2 j hlt⟩)
        have E2 := Lib.hid (row_ext E2.out X3.out)
        have E3 := Lib.hid (row_ext E3.out X3.out)
        have E4 := Lib.hid (row_ext E4.out X3.out)
        have t2 := row1_cell E2.out
        have f2 := E2.out.frozen 0
        have t3 := row1_cell E3.out
        have f3 := E3.out.frozen 0
        have t4 := row1_cell E4.out
        have f4 := E4.out.frozen 0
        clear hq
        gi_wp2_with fail
        have TS := Lib.hid (three_set (x' := .int .i64 0) (y' := .int .i64 0) (z' := .bool false) E2.out E3.out E4.out (by omega) (by omega) (by omega))
        exact ⟨_, results_cell3 rfl _ _ rfl rfl rfl (run_loadVar1 _ Try.underlying3 rfl (row1_cell TS.out.1)) (run_loadVar1 _ Try.underlying3 rfl (row1_cell TS.out.2.1)) (run_loadVar1 _ Try.underlying4 rfl (row1_cell TS.out.2.2)), ret_iib (ff_f DA.out).1.symm (ff_f DA.out).2.symm (dec_false DA.out).symm, ((((EW.out.trans' X3.out).store (by show w.heap.size ≤ w.heap.size + 1 + 1 + 1; omega) _).store (by show w.heap.size ≤ w.heap.size + 1 + 1 + 1 + 1; omega) _).store (by show w.heap.size ≤ w.heap.size + 1 + 1 + 1 + 1 + 1; omega) _)⟩
    · obtain rfl : j = R.length := by omega
      have HST := Lib.hid Hr.out.2
      have HIN := Lib.hid (show LongOK M N ((R.length : Int) - 1) → RunIn M N R from fun hl => ⟨hl.1, by have := hl.2; have := H41.out; unfold InB at *; omega, fun i hi => (Hr.out.2 i hi).2⟩)
      have HLO := Lib.hid (show RunIn M N R → LongOK M N ((R.length : Int) - 1) from fun hb => ⟨hb.1, by have := hb.2.1; unfold InB at *; omega⟩)
      have EWr := Lib.hid Hr.out.1
      have rl := row1_cell (row_ext RL.out Hr.out.1)
      obtain ⟨p0, p1, p2, p3, p4, p5, p6⟩ := row7_facts (row_ext RA.out Hr.out.1)
      obtain ⟨q0, q1, q2, -, -, -⟩ := row3_facts (row_ext RB.out Hr.out.1)
      have hwrap : IntKind.i64.wrap ((R.length : Int) - 1) = (R.length : Int) - 1 := IntWalk.i64_in _ (by omega)
      obtain ⟨r, hrr⟩ : ∃ r : Int, r = (R.length : Int) - 1 := ⟨_, rfl⟩
      rw [← hrr] at hwrap HIN HLO
      clear Hr
      gi_wp2_with fail
      refine ⟨trivial, ?_⟩
      rw [← hrr]
      clear rl p0 p1 p2 p3 p4 p5 p6 q0 q1 q2
      have RLr := Lib.hid (row_ext RL.out EWr.out)
      have E2r := Lib.hid (row_ext E2.out EWr.out)
      have E3r := Lib.hid (row_ext E3.out EWr.out)
      have E4r := Lib.hid (row_ext E4.out EWr.out)
      have Zr := Lib.hid (show w.heap.size + 6 ≤ wr.heap.size by have := ZW.out; have := EWr.out.size; omega)
      obtain ⟨W0, hW0⟩ : ∃ W : World, W = wr := ⟨_, rfl⟩
      subst hW0
      (with_reducible refine (callsIn_wide.2 runOf_any).mono ?_)
      rintro e w2 ⟨rfl, hx, hz, hc⟩
      have X2 := Lib.hid hx
      have C2 := Lib.hid hc
      have Z2 := Lib.hid (show w2.heap.size = W0.heap.size + 3 from hz)
      have W2 := Lib.hid (EW.out.trans' (EWr.out.trans' hx))
      clear hx hz hc
      gi_wp2_with fail
      refine' rangeRun (n := 5) (gf := 148) (X := []) (c := cntR M N r) (Rd := RdR M N) (by omega) rfl enters_run
        (runOf_stops (n := 5 - 1) (by omega) HM.out HN.out W2.out C2.out (by have := Z2.out; have := Zr.out; omega) (Nat.le_refl _) (by intro b hb; simp at hb) (by have := Z2.out; refine ⟨by omega, by simp⟩) (by have := Z2.out; refine ⟨by omega, by simp⟩) (by have := Z2.out; refine ⟨by omega, by simp⟩))
        (FAt w M N R (.slice ra R.length rc) w2.heap.size) (FIx w M N R) (fun k W W' hi hk => hi.kc hk (by have := Z2.out; have := Zr.out; omega)) (fun _ _ _ _ hs hk => hs.kc hk (by have := Z2.out; have := Zr.out; omega)) (fun k v W0 W W' hr hk => hr.kc hk)
        ⟨W2.out, Nat.le_refl _, row_ext E2r.out X2.out, row_ext E3r.out X2.out, row_ext E4r.out X2.out, fun j hj => absurd hj (by omega), row_ext RLr.out X2.out⟩
        _ ?assign ?body ?done ?stop
      case assign =>
        intro l k v W K hK
        gi_wp2
        exact hK
      case body =>
        rintro l k v W0 W hk hi0 hkc hr
        obtain ⟨a, q, bs, rfl, ho, hge⟩ := hr
        have hlo : LongOK M N r ∧ k ≤ r.toNat := by
          by_cases hl : LongOK M N r
          · rw [cntR_t hl] at hk; exact ⟨hl, by omega⟩
          · rw [cntR_f hl] at hk; omega
        have hkR : k < R.length := by have := hlo.1.2; unfold InB at this; omega
        have hd2 : w.heap.size + 9 ≤ w2.heap.size := by have := Z2.out; have := Zr.out; omega
        obtain ⟨hx, hwb, r2, r3, r4, hno, rl⟩ := FAt.kc (B := w2.heap.size) hi0 hkc (by omega)
        have HX := Lib.hid hx
        have G2 := Lib.hid r2
        have G3 := Lib.hid r3
        have G4 := Lib.hid r4
        have HNO := Lib.hid hno
        have HI := Lib.hid (HIN.out hlo.1)
        have HSK := Lib.hid (HI.out.2.2 k hkR)
        have HWB := Lib.hid hwb
        have rl0 := row1_cell rl
        have RLW := Lib.hid rl
        have t2 := row1_cell r2
        have f2 := r2.frozen 0
        have t3 := row1_cell r3
        have f3 := r3.frozen 0
        have t4 := row1_cell r4
        have f4 := r4.frozen 0
        have hn40 : N.ends.length ≤ 40 := hlo.1.1.2.1.1.2
        obtain ⟨b, o, xa, xc, rfl, z0, hxr⟩ := ssRow (HRR.out.ext hx) hkR
        rw [HSK.out.1] at z0 hxr
        obtain ⟨xa', xb, xo, xd, e, hxa, -, xm, hxc⟩ := hxr
        simp only [Value.slice.injEq] at e
        obtain ⟨rfl, -, rfl⟩ := e
        obtain ⟨ya', yb, yo, yd, e, hya, -, ym, hyc⟩ := ho.read
        simp only [Value.slice.injEq] at e
        obtain ⟨rfl, -, rfl⟩ := e
        unfold maxLen at xm ym
        have HXA := Lib.hid hxa
        have HXC := Lib.hid hxc
        have HYA := Lib.hid hya
        have HYC := Lib.hid hyc
        clear hx hwb r2 r3 r4 ho hno hlo hi0 hkc hge rl hxa hxc hya hyc
        gi_wp2_with fail
        gi_loopw [40] (fun i wx => ∃ v : Nat, v ≤ N.ends.length ∧ i = .int .i64 v ∧ W = wx ∧ Hid (∀ u, u < v → ¬ DiffAt M N R k u)) (fun i _ => N.ends.length + 1 - (intOf i).toNat)
        case atStart => exact ⟨0, Nat.zero_le _, by trivial, by trivial, fun u hu => absurd hu (by omega)⟩
        case round =>
          obtain ⟨v, hv, rfl, rfl, Hs⟩ := hrel
          by_cases hlv : v < N.ends.length
          · obtain rfl := HXA.out (by have := HSK.out.1; omega)
            obtain rfl := HYA.out (by have := length_runL M N k; omega)
            obtain ⟨_, z1, rfl, -⟩ := HXC.out v (by rw [HSK.out.1]; exact hlv)
            obtain ⟨_, z2, rfl, -⟩ := HYC.out v (by rw [length_runL]; exact hlv)
            obtain ⟨x, hx⟩ : ∃ x, gi (gr R k) v = x := ⟨_, rfl⟩
            obtain ⟨y, hy⟩ : ∃ y, gi (runL M N k) v = y := ⟨_, rfl⟩
            have HD := Lib.hid (show DiffAt M N R k v ↔ x ≠ y by unfold DiffAt; rw [hx, hy])
            rw [hx] at z1
            rw [hy] at z2
            clear hx hy
            by_cases hd : x = y
            · have b2 : (x != y) = false := bne_eq_false_iff_eq.2 hd
              have Hd := Lib.hid (show ¬ DiffAt M N R k v from fun h => HD.out.1 h hd)
              clear hd
              gi_wp2_with fail
              go_roundw
              case rel =>
                refine ⟨v + 1, by omega, by go_num, by trivial, fun u hu => ?_⟩
                by_cases e : u = v
                · subst e; exact Hd.out
                · exact Hs.out u (by omega)
              case measure => simp [intOf]; omega
            · have b2 : (x != y) = true := bne_iff_ne.2 hd
              have Hd := Lib.hid (HD.out.2 hd)
              clear hd
              gi_wp2_with fail
              have TS := Lib.hid (three_set (x' := .int .i64 (k : Int)) (y' := .int .i64 (v : Int)) (z' := .bool true) G2.out G3.out G4.out (by omega) (by omega) (by omega))
              exact ⟨((KeepsOthers.setCell _ _ _).trans (KeepsOthers.setCell _ _ _)).trans (KeepsOthers.setCell _ _ _), rfl, (((HX.out.store (by show w.heap.size ≤ w.heap.size + 1 + 1 + 1; omega) _).store (by show w.heap.size ≤ w.heap.size + 1 + 1 + 1 + 1; omega) _).store (by show w.heap.size ≤ w.heap.size + 1 + 1 + 1 + 1 + 1; omega) _), HNO.out, v, hlv, Hd.out, Hs.out, TS.out.1, TS.out.2.1, TS.out.2.2⟩
          · obtain rfl : v = N.ends.length := by omega
            have HNB := Lib.hid (show ¬ Bad M N R k from fun ⟨u, h1, h2⟩ => Hs.out u h1 h2)
            gi_wp2_with fail
            refine ⟨KeepsOthers.refl _, KpT.of_ext (Ext.rfl' _) HWB.out, HX.out, HWB.out, G2.out, G3.out, G4.out, fun j hj => ?_, RLW.out⟩
            by_cases e : j = k
            · subst e; exact HNB.out
            · exact HNO.out j (by omega)
      case done =>
        rintro D W hD hi hK
        have hd2 : w.heap.size + 9 ≤ w2.heap.size := by have := Z2.out; have := Zr.out; omega
        obtain ⟨hx, hwb, r2, r3, r4, hno, -⟩ := hi
        have DA := Lib.hid (show ¬ FaultB M N R from fun hb => fault_none (fun j hj => hno j (by rw [cntR_t (HLO.out hb.1)]; omega)) hb)
        have HX := Lib.hid hx
        have TS := Lib.hid (three_set (x' := .int .i64 0) (y' := .int .i64 0) (z' := .bool false) r2 r3 r4 (by omega) (by omega) (by omega))
        have t2 := row1_cell r2
        have f2 := r2.frozen 0
        have t3 := row1_cell r3
        have f3 := r3.frozen 0
        have t4 := row1_cell r4
        have f4 := r4.frozen 0
        clear hx hwb r2 r3 r4 hno
        gi_wp2
        have hK' : (((W.setCell ⟨w.heap.size + 1 + 1 + 1, 0, none⟩ (.int .i64 0)).setCell ⟨w.heap.size + 1 + 1 + 1 + 1, 0, none⟩ (.int .i64 0)).setCell ⟨w.heap.size + 1 + 1 + 1 + 1 + 1, 0, none⟩ (.bool false)).heap[D]? = some (.deferred (some [])) :=
          (Below.heap_setCell _ _ _ _ (by show D ≠ w.heap.size + 1 + 1 + 1 + 1 + 1; omega)).trans ((Below.heap_setCell _ _ _ _ (by show D ≠ w.heap.size + 1 + 1 + 1 + 1; omega)).trans ((Below.heap_setCell _ _ _ _ (by show D ≠ w.heap.size + 1 + 1 + 1; omega)).trans hK))
        have KK := Lib.hid (Kc.put (B := w2.heap.size) (o' := .deferred none) hD hK' rfl)
        refine ⟨by simp, .inl ⟨_, _, rfl, run_takeDeferred hK', ?_⟩⟩
        exact ⟨_, results_cell3 rfl _ _ rfl rfl rfl (run_loadVar1 _ Try.underlying3 rfl (row1_cell (KK.out.row TS.out.1))) (run_loadVar1 _ Try.underlying3 rfl (row1_cell (KK.out.row TS.out.2.1))) (run_loadVar1 _ Try.underlying4 rfl (row1_cell (KK.out.row TS.out.2.2))), ret_iib (ff_f DA.out).1.symm (ff_f DA.out).2.symm (dec_false DA.out).symm, KK.out.ext (((HX.out.store (by show w.heap.size ≤ w.heap.size + 1 + 1 + 1; omega) _).store (by show w.heap.size ≤ w.heap.size + 1 + 1 + 1 + 1; omega) _).store (by show w.heap.size ≤ w.heap.size + 1 + 1 + 1 + 1 + 1; omega) _) (by omega)⟩
      case stop =>
        rintro D cd k W hD hk hh hK
        have hd2 : w.heap.size + 9 ≤ w2.heap.size := by have := Z2.out; have := Zr.out; omega
        obtain ⟨rfl, hx, hno, v, hv, hd, hnv, r2, r3, r4⟩ := hh
        have hlo : LongOK M N r ∧ k ≤ r.toNat := by
          by_cases hl : LongOK M N r
          · rw [cntR_t hl] at hk; exact ⟨hl, by omega⟩
          · rw [cntR_f hl] at hk; omega
        have hkR : k < R.length := by have := hlo.1.2; unfold InB at this; omega
        have FH := Lib.hid (fault_hit (HIN.out hlo.1) hkR hno hv hd hnv)
        have KK := Lib.hid (Kc.put (B := w2.heap.size) (o' := .deferred none) hD hK rfl)
        gi_wp2
        refine ⟨by simp, .inl ⟨_, _, rfl, run_takeDeferred hK, ?_⟩⟩
        exact ⟨_, results_cell3 rfl _ _ rfl rfl rfl (run_loadVar1 _ Try.underlying3 rfl (row1_cell (KK.out.row r2))) (run_loadVar1 _ Try.underlying3 rfl (row1_cell (KK.out.row r3))) (run_loadVar1 _ Try.underlying4 rfl (row1_cell (KK.out.row r4))), ret_iib FH.out.2.1.symm FH.out.2.2.symm (dec_true FH.out.1).symm, KK.out.ext hx (by omega)⟩
end Go.Proofs.Ytdcgpodjoalokaa
