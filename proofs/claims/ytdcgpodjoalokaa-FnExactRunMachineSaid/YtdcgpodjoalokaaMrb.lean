/- RunMachine, the program. -/
import Derived.Test.YtdcgpodjoalokaaMra
namespace Go.Proofs.Ytdcgpodjoalokaa
open Go.RowKit Go.Shelf
attribute [local go_sem] Oper.semAt_some

theorem owns_kc {B0 B t k n : Nat} {W W' : World} {v : Value} {xs : List Value} (hk : Kc B0 W W') (h : W.ownsRow B t k v n xs) : W'.ownsRow B t k v n xs := by
  obtain ⟨h0, h1⟩ := h
  refine ⟨h0, ?_⟩
  rcases h1 with h1 | ⟨g, cap, cur, e, hb, hh, r⟩
  · exact .inl h1
  · exact .inr ⟨g, cap, cur, e, hb, hk.cells g _ hh rfl, r⟩
theorem GrowI.kc {B0 B : Nat} {W W' : World} {v : Value} {l : List (List Int)} {k : Nat} (h : GrowI B W v l k) (hk : Kc B0 W W') : GrowI B W' v l k := by
  obtain ⟨R, T, h1, h2, h3, h4⟩ := h
  exact ⟨R, T, owns_kc hk h1, fun i hi => hk.keepI (h2 i hi), h3, h4⟩
theorem GrowI.stepK {B0 B : Nat} {W0 W : World} {v x : Value} {l : List (List Int)} {k : Nat} {bs : List Nat} (h : GrowI B W0 v l k) (hk : Kc B0 W0 W) (ho : OwnI W x (gr l k) bs) (hf : ∀ b ∈ bs, W0.heap.size ≤ b) (hB : B ≤ W0.heap.size) :
    ∃ R, W.ownsRow B 24 1 v k ((List.range k).map R) ∧ ∀ v' w2 w', Ext W w2 → Grew w2 w' B 24 1 v v' (k + 1) ((List.range k).map R ++ [x]) → GrowI B w' v' l (k + 1) := by
  obtain ⟨R, T, h1, h2, h3, h4⟩ := h
  refine ⟨R, owns_kc hk h1, fun _ _ _ hx hg => GrowI.step (owns_ext (owns_kc hk h1) hx) (fun i hi => (hk.keepI (h2 i hi)).ext hx) h3 h4 (bs := bs) (ho.ext hx) (fun b hb => ⟨Nat.le_trans hB (hf b hb), fun hm => ?_⟩) hg⟩
  obtain ⟨i, hi, hbi⟩ := List.mem_flatMap.1 hm
  have := (h2 i (List.mem_range.1 hi)).1.lt b hbi
  have := hf b hb
  omega
theorem KpT.of_grow {B t k n : Nat} {X : List Nat} {W W' : World} {v : Value} {xs : List Value} (ho : W.ownsRow B t k v n xs) (hne : 3 ≠ t) (hg : W.grownBy W' v.ownBlock) (hB : B ≤ W.heap.size) : KpT B X W W' := by
  refine ⟨hg.os, hg.tape, hg.output, hg.size, fun b hb _ => hg.block b (by omega) fun e => ?_, fun b c z _ hc => ?_⟩
  · have := (ho.lt b e.symm).1
    omega
  · refine hg.block b (Array.getElem?_eq_some_iff.1 hc).1 fun e => hne ?_
    rcases ho.2 with ⟨rfl, -⟩ | ⟨g, cap, cur, rfl, -, hh, -⟩
    · cases e
    · simp only [Value.ownBlock, Option.some.injEq] at e
      subst e
      rw [hh] at hc
      simp only [Option.some.injEq, Obj.cells.injEq] at hc
      exact hc.2.1.symm
theorem KeepsOthers.of_owns {B t k n : Nat} {W W' : World} {v : Value} {xs : List Value} (ho : W.ownsRow B t k v n xs) (hg : W.grownBy W' v.ownBlock) : KeepsOthers W W' :=
  KeepsOthers.of_grownBy hg fun j o hj hh => by
    rcases ho.2 with ⟨rfl, -⟩ | ⟨g, cap, cur, rfl, -, h, -⟩
    · cases hj
    · simp only [Value.ownBlock, Option.some.injEq] at hj
      subst hj
      rw [h] at hh
      cases hh
      rfl

/-- The box of the run when k lists have come. -/
def RunsAt (w : World) (M : Mach) (N : Net) (L B n : Nat) (k : Nat) (W : World) : Prop :=
  Ext w W ∧ B ≤ W.heap.size ∧ ∃ v, W.rowIs L 22 1 (fun _ => v) ∧ (k = 0 → v = .slice none 0 0) ∧ GrowI B W v (runsL M N n) k
theorem RunsAt.kc {w : World} {M : Mach} {N : Net} {L B n k : Nat} {W W' : World} (h : RunsAt w M N L B n k W) (hk : Kc B W W') (hB : w.heap.size ≤ B) : RunsAt w M N L B n k W' := by
  obtain ⟨h1, h0, v, h2, h3, h4⟩ := h
  exact ⟨hk.ext h1 hB, Nat.le_trans h0 hk.size, v, hk.row h2, h3, h4.kc hk⟩

set_option maxHeartbeats 6400000 in
set_option maxRecDepth 100000 in
theorem implRunMachine_any {w : World} {vm vn : Value} {M : Mach} {N : Net} (r : Int) (h : MachAt w vm M) (k : NetAt w vn N) :
    Calls Try.prog 47 #[vm, vn, .int .i64 r] w fun e w' => ∃ v' bs, e = .returned (.tuple #[v', .bool (dec (RunB M N r))]) ∧ Ext w w' ∧ OwnII w' v' (rmAns M N r) bs ∧ Fresh w bs := by
  have HM := Lib.hid h
  have HN := Lib.hid k
  obtain ⟨a3, c3, a4, c4, a5, c5, a6, c6, rfl⟩ := h.agg
  obtain ⟨v0, v1, v2, rfl⟩ := k.agg
  obtain ⟨W1, hW1⟩ : ∃ W1, W1 = ((w.alloc (.cells #[.int .i64 M.deg, .int .i64 M.sts, .int .i64 M.msgs, .slice a3 M.start.length c3, .slice a4 M.send.length c4, .slice a5 M.cls.length c5, .slice a6 M.out.length c6] 31)).alloc (.cells #[v0, v1, v2] 43)).alloc (.cells #[.slice none 0 0] 22) := ⟨_, rfl⟩
  have EW := Lib.hid (show Ext w W1 by rw [hW1]; exact (((Ext.rfl' w).alloc' _).alloc' _).alloc' _)
  have ZW := Lib.hid (show W1.heap.size = w.heap.size + 3 by rw [hW1]; simp)
  have RL := Lib.hid (show W1.rowIs (w.heap.size + 1 + 1) 22 1 (fun _ => .slice none 0 0) by
    rw [hW1]
    have := row1_made ((w.alloc (.cells #[.int .i64 M.deg, .int .i64 M.sts, .int .i64 M.msgs, .slice a3 M.start.length c3, .slice a4 M.send.length c4, .slice a5 M.cls.length c5, .slice a6 M.out.length c6] 31)).alloc (.cells #[v0, v1, v2] 43)) (.slice none 0 0) 22
    rw [World.size_alloc, World.size_alloc] at this
    exact this)
  have RA := Lib.hid (show W1.rowIs w.heap.size 31 7 (sept (.int .i64 M.deg) (.int .i64 M.sts) (.int .i64 M.msgs) (.slice a3 M.start.length c3) (.slice a4 M.send.length c4) (.slice a5 M.cls.length c5) (.slice a6 M.out.length c6)) by rw [hW1]; exact ((row7_made _ _ _ _ _ _ _ _ _).alloc _).alloc _)
  have RB := Lib.hid (show W1.rowIs (w.heap.size + 1) 43 3 (tri v0 v1 v2) by
    rw [hW1]
    have := (row3_made (w.alloc (.cells #[.int .i64 M.deg, .int .i64 M.sts, .int .i64 M.msgs, .slice a3 M.start.length c3, .slice a4 M.send.length c4, .slice a5 M.cls.length c5, .slice a6 M.out.length c6] 31)) v0 v1 v2 43).alloc (.cells #[.slice none 0 0] 22)
    rw [World.size_alloc] at this
    exact this)
  obtain ⟨p0, p1, p2, p3, p4, p5, p6⟩ := row7_facts RA.out
  obtain ⟨q0, q1, q2, -, -, -⟩ := row3_facts RB.out
  rw [hW1] at p0 p1 p2 p3 p4 p5 p6 q0 q1 q2
  clear h k
  obtain ⟨i0, hi, hz0, hz1, hz2⟩ := info_parts Try.infoTSIm
  have I0 := Lib.hid (And.intro hi (And.intro hz0 (And.intro hz1 hz2)))
  clear hi hz0 hz1 hz2
  refine (callsIn_wide (n := 5)).1 ?_
  refine callsIn_of_wp_marks Try.func47 rfl trivial ?_ rfl
  simp only [Try.ntmps47, List.size_toArray, List.length_cons, List.length_nil, Nat.reduceAdd, Nat.reduceSub, Array.replicate_succ, Array.replicate_zero, List.push_toArray, List.append_toArray, List.nil_append, List.cons_append]
  by_cases hr40 : r ≤ 40
  case neg =>
    have b1 : decide ((40 : Int) < r) = true := decide_eq_true (by omega)
    have D1 := Lib.hid (show ¬ RunB M N r from fun h => hr40 h.2.2)
    clear hr40 hW1
    gi_wp2_with fail
    exact ⟨_, results_tmp2 rfl _ _ _, _, [], by rw [dec_false D1.out]; rfl, ((Ext.rfl' w).alloc' _).alloc' _, by rw [rmAns_f D1.out]; exact own_nilIIm _, Fresh.nil _⟩
  have b1 : decide ((40 : Int) < r) = false := decide_eq_false (by omega)
  have H40 := Lib.hid hr40
  clear hr40
  gi_wp2_with fail
  refine ⟨trivial, ?_⟩
  rw [← hW1]
  clear hW1 p0 p1 p2 p3 p4 p5 p6 q0 q1 q2
  (with_reducible refine (callsIn_wide.2 runOf_any).mono ?_)
  rintro e w2 ⟨rfl, hx, hz, hc⟩
  have X2 := Lib.hid hx
  have C2 := Lib.hid hc
  have Z2 := Lib.hid (show w2.heap.size = w.heap.size + 6 by have := ZW.out; omega)
  have W2 := Lib.hid (EW.out.trans' hx)
  clear hx hz hc
  gi_wp2_with fail
  refine rangeRun (n := 5) (gf := 148) (X := [w.heap.size + 1 + 1]) (c := cntR M N r) (Rd := RdR M N) (by omega) rfl enters_run
    (runOf_stops (n := 5 - 1) (by omega) HM.out HN.out W2.out C2.out (by have := Z2.out; omega) (Nat.le_refl _) (by intro b hb; simp at hb; omega) (by have := Z2.out; have := ZW.out; refine ⟨by omega, by simp; omega⟩) (by have := Z2.out; have := ZW.out; refine ⟨by omega, by simp; omega⟩) (by have := Z2.out; have := ZW.out; refine ⟨by omega, by simp; omega⟩))
    (RunsAt w M N (w.heap.size + 1 + 1) w2.heap.size (r.toNat + 1)) (fun _ _ _ => False) (fun k W W' hi hk => hi.kc hk (by have := Z2.out; omega)) (fun _ _ _ _ hs _ => hs) (fun k v W0 W W' hr hk => hr.kc hk)
    ⟨W2.out, Nat.le_refl _, .slice none 0 0, row_ext RL.out X2.out, fun _ => rfl, GrowI.nil _ _ _⟩
    (fun k v => { tmps := #[.agg #[.int .i64 M.deg, .int .i64 M.sts, .int .i64 M.msgs, .slice a3 M.start.length c3, .slice a4 M.send.length c4, .slice a5 M.cls.length c5, .slice a6 M.out.length c6], .agg #[v0, v1, v2], .int .i64 r, .pointer (some ⟨w.heap.size, 0, none⟩), .pointer (some ⟨w.heap.size + 1, 0, none⟩), undef, .slice none 0 0, .bool false, .pointer (some ⟨w.heap.size + 1 + 1, 0, none⟩), undef, v,
      .int .i64 r, .bool false, .agg #[.int .i64 M.deg, .int .i64 M.sts, .int .i64 M.msgs, .slice a3 M.start.length c3, .slice a4 M.send.length c4, .slice a5 M.cls.length c5, .slice a6 M.out.length c6], .agg #[v0, v1, v2], .int .i64 r, .func (.func 148) #[] #[.pointer (some ⟨W1.heap.size, 0, none⟩), .pointer (some ⟨W1.heap.size + 1, 0, none⟩), .pointer (some ⟨W1.heap.size + 1 + 1, 0, none⟩)], .int .i64 (k : Int), v, undef, undef, undef, undef, undef, undef, undef, undef], defers := [] }) ?assign ?body ?done ?stop
  case assign =>
    intro l k v W K hK
    gi_wp2
    exact hK
  case body =>
    rintro l k v W0 W hk hi0 hkc hr
    obtain ⟨a, q, bs, rfl, ho, hge⟩ := hr
    have hk40 : k < r.toNat + 1 ∧ r.toNat + 1 ≤ 41 := by
      have := H40.out
      by_cases hl : LongOK M N r
      · rw [cntR_t hl] at hk; omega
      · rw [cntR_f hl] at hk; omega
    obtain ⟨hx0, hb0, u, hrow0, hu0, hg0⟩ := hi0
    have hxW := hkc.ext hx0 (by have := Z2.out; omega)
    have hrow := hkc.row hrow0
    obtain ⟨R, hR1, hR2⟩ := GrowI.stepK hg0 hkc (by rw [gr_runsL _ _ hk40.1]; exact ho) hge hb0
    obtain ⟨ua, uc, rfl⟩ := owns_slice hR1
    have c1 := (row_ext hrow ((Ext.rfl' W).alloc' (.cells #[.slice a N.ends.length q] 24))).cell (i := 0) (by omega)
    have c0 := hrow.cell (i := 0) (by omega)
    have hWB : w2.heap.size ≤ W.heap.size := Nat.le_trans hb0 hkc.size
    have HX := Lib.hid hxW
    have HR := Lib.hid hrow
    have HO := Lib.hid hR1
    have HG := Lib.hid hR2
    have HK := Lib.hid hk40
    clear hxW hrow ho hge hkc hx0 hrow0 hg0 hu0 hR1 hR2 c1
    gi_wp2_with (gi_at_builtin; refine wpListIn_append_own _ rfl _ _ 22 rfl w2.heap.size 24 i0 (.slice none 0 0) 1 24 Try.underlying22 I0.out.1 I0.out.2.1 I0.out.2.2.1 I0.out.2.2.2 rfl (by decide) (.slice ua k uc) k ((List.range k).map R) rfl (owns_ext HO.out ((Ext.rfl' W).alloc' _)) ⟨W.heap.size, 0, none⟩ 1 1 [.slice a N.ends.length q] rfl rfl (fun j u hu => (src_one W (.slice a N.ends.length q) 24 rfl).2.2.1 _ rfl j u hu) (by intro u hu; obtain rfl := List.mem_singleton.1 hu; rfl) (by unfold maxLen; omega) (by omega) (by simp; omega) ?_; intro v' w4 hown hgb _; obtain ⟨va, vq, rfl⟩ := owns_slice hown; have HW := Lib.hid hown; have HB := Lib.hid hgb; clear hown hgb; have RL4 := Lib.hid (show w4.rowIs (w.heap.size + 1 + 1) 22 1 (fun _ => .slice ua k uc) from (row_ext HR.out ((Ext.rfl' W).alloc' (.cells #[.slice a N.ends.length q] 24))).of_block (HB.out.block _ (by have := Z2.out; simp; omega) fun e => by have := (World.ownsRow.lt HO.out _ e.symm).1; have := Z2.out; omega)); have c2 := RL4.out.cell (i := 0) (by omega); have c3' := RL4.out.frozen 0)
    have G4 := Lib.hid (HG.out _ _ _ ((Ext.rfl' W).alloc' _) ⟨HW.out, HB.out, HB.out.size⟩)
    have KA := Lib.hid (KpT.of_ext (B := w2.heap.size) (X := [w.heap.size + 1 + 1]) ((Ext.rfl' W).alloc' (.cells #[.slice a N.ends.length q] 24)) hWB)
    have KB := Lib.hid (KA.out.trans' (KpT.of_grow (owns_ext HO.out ((Ext.rfl' W).alloc' _)) (by decide) HB.out (by simp; omega)))
    have KC := Lib.hid (KB.out.trans' (KpT.store (p := ⟨w.heap.size + 1 + 1, 0, none⟩) (by simp) (by have := Z2.out; show w.heap.size + 1 + 1 < w2.heap.size; omega) (.slice va (k + 1) vq)))
    refine ⟨((KeepsOthers.alloc W _).trans (KeepsOthers.of_owns (owns_ext HO.out ((Ext.rfl' W).alloc' _)) HB.out)).trans (KeepsOthers.setCell _ _ _), KC.out, KC.out.ext HX.out (by have := Z2.out; omega) (by intro b hb; simp at hb; omega), Nat.le_trans hWB KC.out.size, _, row1_set RL4.out _, fun h => absurd h (by omega), ?_⟩
    exact G4.out.keep fun b hb _ => Below.heap_setCell _ _ _ _ (by have := Z2.out; show b ≠ w.heap.size + 1 + 1; omega)
  case done =>
    rintro D W hD hi hK
    obtain ⟨hx, hb0, u, hrow, hu0, hu1⟩ := hi
    have c1 := hrow.cell (i := 0) (by omega)
    by_cases hl : LongOK M N r
    · rw [cntR_t hl] at hu1
      have hRB := Lib.hid (show RunB M N r from ⟨hl.1, by have := hl.2; have := H40.out; unfold InB at *; omega⟩)
      obtain ⟨a, q, rfl, -⟩ := hu1.parts (by omega)
      obtain ⟨n, hn⟩ : ∃ n, n = r.toNat + 1 := ⟨_, rfl⟩
      have HN' := Lib.hid hn
      rw [← hn] at c1 hrow hu0 hu1
      have hpos : 0 < n := by omega
      have hdp : decide ((0 : Int) < (n : Int)) = true := decide_eq_true (by omega)
      have D1 := Lib.hid (dec_true hRB.out)
      have A1 := Lib.hid (rmAns_t hRB.out)
      have HX := Lib.hid hx
      have HG := Lib.hid hu1
      clear hx hrow hu0 hu1 hl hn hb0
      gi_wp2
      refine wpIn_wide.2 ?_
      go_quiet (fail)
      gi_wp2
      have hK' : (W.drewN nq).heap[D]? = some (.deferred (some [])) := by simpa using hK
      have KK := Lib.hid (Kc.put (B := w2.heap.size) (o' := .deferred none) hD hK' rfl)
      have KE := Lib.hid ((Ext.rfl' W).drewN' nq)
      have KF := Lib.hid (Kc.of_ext (B := w2.heap.size) KE.out (by have := (Array.getElem?_eq_some_iff.1 hK).1; omega))
      obtain ⟨bs, ho, hnd, hge⟩ := GrowI.done (l := runsL M N n) (by rw [length_runsL]; exact (HG.out.kc KF.out).kc KK.out)
      refine ⟨by simp, .inl ⟨_, _, rfl, run_takeDeferred hK', ?_⟩⟩
      exact ⟨_, results_tmp2 rfl _ _ _, _, bs, by rw [D1.out]; rfl, KK.out.ext (HX.out.trans' KE.out) (by have := Z2.out; omega), by rw [A1.out, ← HN'.out]; exact ho, hnd, fun b hb => by have := hge b hb; have := Z2.out; omega⟩
    · rw [cntR_f hl] at hu0
      obtain rfl := hu0 rfl
      have hRB := Lib.hid (show ¬ RunB M N r from fun h => hl ⟨h.1, by have := h.2; unfold InB at *; omega⟩)
      have D1 := Lib.hid (dec_false hRB.out)
      have A1 := Lib.hid (rmAns_f hRB.out)
      have HX := Lib.hid hx
      clear hx hrow hu0 hu1 hl hb0
      gi_wp2
      refine wpIn_wide.2 ?_
      go_quiet (fail)
      gi_wp2
      have hK' : (W.drewN nq).heap[D]? = some (.deferred (some [])) := by simpa using hK
      have KK := Lib.hid (Kc.put (B := w2.heap.size) (o' := .deferred none) hD hK' rfl)
      have KE := Lib.hid ((Ext.rfl' W).drewN' nq)
      refine ⟨by simp, .inl ⟨_, _, rfl, run_takeDeferred hK', ?_⟩⟩
      exact ⟨_, results_tmp2 rfl _ _ _, _, [], by rw [D1.out]; rfl, KK.out.ext (HX.out.trans' KE.out) (by have := Z2.out; omega), by rw [A1.out]; exact own_nilIIm _, Fresh.nil _⟩
  case stop =>
    rintro D cd k W _ _ hh _
    exact hh.elim
end Go.Proofs.Ytdcgpodjoalokaa
