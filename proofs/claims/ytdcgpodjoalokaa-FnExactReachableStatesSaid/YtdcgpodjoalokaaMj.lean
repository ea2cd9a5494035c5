/- The model's IsMachine, maOn, maAsked, maStates and RunsOn. -/
import Derived.Test.YtdcgpodjoalokaaMi
import Derived.Test.YtdcgpodjoalokaaKd
namespace Go.Proofs.Ytdcgpodjoalokaa
open Go.RowKit

theorem wpAnyG_oneG {P : Program} {ops : Array Oper} {Q : Exit → Act → World → Prop} {S : World → Prop} {n : Nat} {i : Nat} {o : Oper} {fuel : Nat} {listed : Array Bool} {a : Act} {w : World} (ho : ops[i]? = some o) (hr : Region.ready .any ops listed = [i]) (hw : Region.wanted o (yielded ops a.tmps) = true)
    (h : ∀ K' : Act → World → Prop, Shut (∀ a w, (i ≠ n → S w) → ((i ≠ n → S w) → wpAnyG P ops Q S n fuel (listed.setIfInBounds i true) a w) → K' a w) → Oper.wp P o a w K' Q) : wpAnyG P ops Q S n (fuel + 1) listed a w := by
  refine ⟨fun h0 => (by rw [hr] at h0; cases h0), fun j hj => ?_⟩
  rw [hr] at hj
  obtain rfl := List.mem_singleton.1 hj
  refine wpOp_step ho (fun K' hK => ?_)
  rw [if_pos hw]
  exact h K' (fun a w hS hW => hK a w ⟨hS, hW hS⟩)

theorem MachAt.agg {w : World} {v : Value} {M : Mach} (h : MachAt w v M) : ∃ a3 c3 a4 c4 a5 c5 a6 c6, v = .agg #[.int .i64 M.deg, .int .i64 M.sts, .int .i64 M.msgs, .slice a3 M.start.length c3, .slice a4 M.send.length c4, .slice a5 M.cls.length c5, .slice a6 M.out.length c6] := by
  obtain ⟨a3, c3, a4, c4, a5, c5, a6, c6, h1, -⟩ := h
  exact ⟨a3, c3, a4, c4, a5, c5, a6, c6, h1⟩
theorem NetAt.agg {w : World} {v : Value} {N : Net} (h : NetAt w v N) : ∃ v0 v1 v2, v = .agg #[v0, v1, v2] := by
  obtain ⟨v0, v1, v2, rfl, -⟩ := h
  exact ⟨v0, v1, v2, rfl⟩

set_option maxHeartbeats 1600000 in
set_option maxRecDepth 100000 in
theorem neDegrees_any {w : World} {v : Value} {N : Net} (h : NetAt w v N) (hs : N.ends.length ≤ 1048576) :
    Calls Try.prog 134 #[v] w fun e w' => ∃ v' bs, e = .returned v' ∧ Ext w w' ∧ OwnI w' v' (degs N) bs ∧ Fresh w bs := by
  obtain ⟨v0, v1, v2, rfl, hE, hI, hP⟩ := h
  clear hI hP
  obtain ⟨a, b, o, c, rfl, ha, hl, hm, hc⟩ := hE
  unfold maxLen at hm
  have Hc := Lib.hid hc
  have Ha := Lib.hid ha
  clear hc ha
  have HX := Lib.hid (boxed_ext w (.slice a N.ends.length c) v1 v2 43)
  obtain ⟨i0, hi, hz0, hz1, hz2⟩ := info_parts Try.info3
  have I0 := Lib.hid (And.intro hi (And.intro hz0 (And.intro hz1 hz2)))
  clear hi hz0 hz1 hz2
  go_enter Try.func134, Try.ntmps134
  go_wp2
  go_loopg [3, 9] N.ends.length (fun g s i wr => ∃ k : Nat, k ≤ N.ends.length ∧ g = N.ends.length - k ∧ i = .int .i64 k ∧ Hid (Ext (boxed w (.slice a N.ends.length c) v1 v2 43) wr ∧ wr.ownsRow (w.heap.size + 1) 3 1 s k (degCells N k)))
  case atStart => exact ⟨0, Nat.zero_le _, rfl, rfl, Ext.rfl' _, World.ownsRow_nil _ _ _ _⟩
  case round =>
    obtain ⟨k, hk, rfl, rfl, Hr⟩ := hrel
    by_cases hlt : k < N.ends.length
    · obtain ⟨z, hz, hz2⟩ := Hc.out k hlt
      obtain ⟨a', b', o', c', rfl, _, hl', hm', _⟩ := hz2
      unfold maxLen at hm'
      obtain rfl := Ha.out (by omega)
      have hz1 := Hr.out.1.cell' (HX.out.cell' hz)
      have hB : w.heap.size + 1 ≤ wr.heap.size := by have := Hr.out.1.size; simpa using this
      clear hz
      go_wp2_with (at_builtin; refine wpList_append_own _ rfl _ _ 24 rfl (w.heap.size + 1) 3 i0 (.int .i64 0) 1 8 Try.underlying24 I0.out.1 I0.out.2.1 I0.out.2.2.1 I0.out.2.2.2 rfl (by decide) _ _ _ rfl (Hr.out.2.alloc _) ⟨wr.heap.size, 0, none⟩ 1 1 [.int .i64 ((gr N.ends k).length : Int)] rfl rfl ?c1 ?c2 ?c3 ?c4 ?c5 ?_)
      case c2 => simp [Value.oneCell']
      case c3 => unfold maxLen; omega
      case c4 => omega
      case c5 => first | omega | (simp; omega)
      intro v' w1 hown' hgrow _
      have Hn : Hid (Ext (boxed w (.slice (some ⟨b, o, none⟩) N.ends.length c) v1 v2 43) w1 ∧ w1.ownsRow (w.heap.size + 1) 3 1 v' (k + 1) (degCells N (k + 1))) := by
        refine ⟨grown_ext (Hr.out.1.alloc' _) (by simp) (Hr.out.2.alloc _) hgrow, ?_⟩
        rw [← degCells_succ]
        exact hown'
      clear hown' hgrow
      go_wp2
      go_roundg (N.ends.length - (k + 1))
      case measure => omega
      case rel => exact ⟨k + 1, by omega, rfl, by go_num, Hn⟩
    · obtain rfl : k = N.ends.length := by omega
      go_wp2
      go_ret
      have hdl : (degs N).length = N.ends.length := by simp [degs]
      obtain ⟨bs, ho, hnd, hge⟩ := own_of_row (l := degs N) (by rw [hdl]; exact Hr.out.2) (fun i hi => degCells_get N i (by omega))
        (fun i hi => by
          rw [gi_degs N i (by omega)]
          obtain ⟨z, _, a', b', o', c', _, _, h3, h4, _⟩ := Hc.out i (by omega)
          unfold maxLen at h4
          exact ⟨by omega, by omega⟩)
      exact ⟨_, bs, rfl, HX.out.trans' Hr.out.1, ho, hnd, fun b hb => by have := hge b hb; omega⟩

set_option maxHeartbeats 1600000 in
set_option maxRecDepth 100000 in
theorem specIsMachine_any {w : World} {v : Value} {M : Mach} (h : MachAt w v M) : Calls Try.prog 20 #[v] w fun e w' => e = .returned (.bool (dec (MachOK M))) ∧ Ext w w' := by
  have HV := Lib.hid h
  obtain ⟨a3, c3, a4, c4, a5, c5, a6, c6, rfl⟩ := h.agg
  have EW := Lib.hid (boxed7_ext w (.int .i64 M.deg) (.int .i64 M.sts) (.int .i64 M.msgs) (.slice a3 M.start.length c3) (.slice a4 M.send.length c4) (.slice a5 M.cls.length c5) (.slice a6 M.out.length c6) 31)
  obtain ⟨p0, p1, p2, p3, p4, p5, p6⟩ := row7_facts (boxed7_row w (.int .i64 M.deg) (.int .i64 M.sts) (.int .i64 M.msgs) (.slice a3 M.start.length c3) (.slice a4 M.send.length c4) (.slice a5 M.cls.length c5) (.slice a6 M.out.length c6) 31)
  clear h
  go_enter Try.func20, Try.ntmps20
  go_wp2_with (go_at_call 71; (with_reducible refine (maGood_any (HV.out.ext EW.out)).mono ?_); rintro e w' ⟨rfl, hx⟩; have HX := Lib.hid (EW.out.trans' hx); clear hx)
  go_ret
  exact ⟨rfl, HX.out⟩

/-- Two boxes: a machine and a network. -/
def twoBox (w : World) (x0 x1 x2 x3 x4 x5 x6 v0 v1 v2 : Value) : World := (w.alloc (.cells #[x0, x1, x2, x3, x4, x5, x6] 31)).alloc (.cells #[v0, v1, v2] 43)
theorem twoBox_ext (w : World) (x0 x1 x2 x3 x4 x5 x6 v0 v1 v2 : Value) : Ext w (twoBox w x0 x1 x2 x3 x4 x5 x6 v0 v1 v2) := (boxed7_ext _ _ _ _ _ _ _ _ _).trans' (boxed_ext _ _ _ _ _)
theorem twoBox_m (w : World) (x0 x1 x2 x3 x4 x5 x6 v0 v1 v2 : Value) : (twoBox w x0 x1 x2 x3 x4 x5 x6 v0 v1 v2).rowIs w.heap.size 31 7 (sept x0 x1 x2 x3 x4 x5 x6) := (boxed7_row _ _ _ _ _ _ _ _ _).alloc _
theorem twoBox_n (w : World) (x0 x1 x2 x3 x4 x5 x6 v0 v1 v2 : Value) : (twoBox w x0 x1 x2 x3 x4 x5 x6 v0 v1 v2).rowIs (w.heap.size + 1) 43 3 (tri v0 v1 v2) := by
  simpa [twoBox] using boxed_row (boxed7 w x0 x1 x2 x3 x4 x5 x6 31) v0 v1 v2 43
theorem gi_degs' (N : Net) (i : Nat) (h : i < N.ends.length) : gi (degs N) i = ((gr N.ends i).length : Int) := gi_degs N i h
theorem onOK_iff {M : Mach} {N : Net} (_ : MachOK M) (hn : Good N) : OnOK M N ↔ AllIn (degs N) 0 M.deg ∧ AllIn N.inputs 0 (((gr M.start 0).length : Int) - 1) := by
  obtain ⟨-, -, -, hi, hj⟩ := hn
  have hl : (degs N).length = N.ends.length := by simp [degs]
  constructor
  · intro h
    refine ⟨fun i hi' => ?_, fun i hi' => ?_⟩
    · rw [hl] at hi'
      rw [gi_degs _ _ hi']
      have := (h i hi').1
      omega
    · have h1 := (h i (by omega)).2
      have h2 := (hj i hi').1
      omega
  · rintro ⟨h1, h2⟩ v hv
    have k1 := h1 v (by omega)
    rw [gi_degs _ _ hv] at k1
    have k2 := h2 v (by omega)
    exact ⟨k1.2, by omega⟩

set_option maxHeartbeats 3200000 in
set_option maxRecDepth 100000 in
theorem maOn_any {w : World} {vm vn : Value} {M : Mach} {N : Net} (h : MachAt w vm M) (k : NetAt w vn N) (hm : MachOK M) (hn : Good N) : Calls Try.prog 81 #[vm, vn] w fun e w' => e = .returned (.bool (dec (OnOK M N))) ∧ Ext w w' := by
  have HM := Lib.hid h
  have HN := Lib.hid k
  obtain ⟨a3, c3, a4, c4, a5, c5, a6, c6, rfl, h3, -⟩ := h
  obtain ⟨v0, v1, v2, rfl, hE, -, hP⟩ := k
  obtain ⟨W1, hW1⟩ : ∃ W1, W1 = twoBox w (.int .i64 M.deg) (.int .i64 M.sts) (.int .i64 M.msgs) (.slice a3 M.start.length c3) (.slice a4 M.send.length c4) (.slice a5 M.cls.length c5) (.slice a6 M.out.length c6) v0 v1 v2 := ⟨_, rfl⟩
  have EW := Lib.hid (show Ext w W1 by rw [hW1]; exact twoBox_ext _ _ _ _ _ _ _ _ _ _ _)
  have RA := Lib.hid (show W1.rowIs w.heap.size 31 7 (sept (.int .i64 M.deg) (.int .i64 M.sts) (.int .i64 M.msgs) (.slice a3 M.start.length c3) (.slice a4 M.send.length c4) (.slice a5 M.cls.length c5) (.slice a6 M.out.length c6)) by rw [hW1]; exact twoBox_m _ _ _ _ _ _ _ _ _ _ _)
  have RB := Lib.hid (show W1.rowIs (w.heap.size + 1) 43 3 (tri v0 v1 v2) by rw [hW1]; exact twoBox_n _ _ _ _ _ _ _ _ _ _ _)
  have HE3 := Lib.hid h3
  have HNE := Lib.hid hE
  have HNP := Lib.hid hP
  clear h3 hE hP
  obtain ⟨p0, p1, p2, p3, p4, p5, p6⟩ := row7_facts RA.out
  obtain ⟨q0, q1, q2, -, -, -⟩ := row3_facts RB.out
  unfold twoBox at hW1
  have HOK := Lib.hid hm
  have HG := Lib.hid hn
  have hpos : 0 < M.start.length := by have := hm.2.1.1; have := hm.1.1.1; omega
  have he1 : ((gr M.start 0).length : Int) ≤ 10 := hm.2.1.2.1.2
  have he0 : 1 ≤ ((gr M.start 0).length : Int) := hm.2.1.2.1.1
  obtain ⟨b, oo, ra, rc, rfl, z0, hrow0⟩ := ssRow (HE3.out.ext EW.out) (k := 0) hpos
  rw [Nat.add_zero] at z0
  obtain ⟨-, m0, n0⟩ := isLen hrow0
  unfold maxLen at m0
  have hsl : M.start.length ≤ 7 := by have := hm.2.1.1; have := hm.1.1.2; omega
  have hnn : N.ends.length ≤ 1048576 := by have := hn.1.2; omega
  obtain ⟨p8, p9, rfl⟩ := HNP.out.isSlice
  obtain ⟨-, m2, n2⟩ := isLen HNP.out
  unfold maxLen at m2
  have hw64 : IntKind.i64.wrap (((gr M.start 0).length : Int) - 1) = ((gr M.start 0).length : Int) - 1 := IntWalk.i64_in _ (by omega)
  clear hm hn hrow0
  have mkS : ∀ w' : World, Ext W1 w' → w'.cell? ⟨w.heap.size, 0, none⟩ = some (.int .i64 M.deg) ∧ w'.cell? ⟨w.heap.size, 3, none⟩ = some (.slice (some ⟨b, oo, none⟩) M.start.length c3) ∧ w'.cell? ⟨w.heap.size + 1, 0, none⟩ = some v0 ∧ w'.cell? ⟨w.heap.size + 1, 1, none⟩ = some v1 ∧ w'.cell? ⟨w.heap.size + 1, 2, none⟩ = some (.slice p8 N.inputs.length p9) ∧ w'.cell? ⟨b, oo, none⟩ = some (.slice ra (gr M.start 0).length rc) := fun w' h => ⟨h.cell' p0, h.cell' p3, h.cell' q0, h.cell' q1, h.cell' q2, h.cell' z0⟩
  clear p0 p1 p2 p3 p4 p5 p6 q0 q1 q2 z0
  go_enter Try.func81, Try.ntmps81
  go_upto_region 1 with fail
  rw [← hW1]
  clear hW1
  refine wp_region_gate (n := 16) (S := fun w' => w'.cell? ⟨w.heap.size, 0, none⟩ = some (.int .i64 M.deg) ∧ w'.cell? ⟨w.heap.size, 3, none⟩ = some (.slice (some ⟨b, oo, none⟩) M.start.length c3) ∧ w'.cell? ⟨w.heap.size + 1, 0, none⟩ = some v0 ∧ w'.cell? ⟨w.heap.size + 1, 1, none⟩ = some v1 ∧ w'.cell? ⟨w.heap.size + 1, 2, none⟩ = some (.slice p8 N.inputs.length p9) ∧ w'.cell? ⟨b, oo, none⟩ = some (.slice ra (gr M.start 0).length rc)) (by kernel_rfl) (mkS _ (Ext.rfl' W1).drew') (fun hHeld => ?_)
  refine wpAnyG_take (i := 0) (v := ?_) rfl (by decide +kernel) (by kernel_rfl) (by decide) (by kernel_rfl) (by kernel_rfl) (fun _ _ _ h => h) (Or.inl ⟨by kernel_rfl, ?_⟩) hHeld ?_
  rotate_left 1
  · (intro w' hSw; (try dsimp only at hSw); go_simp) <;> with_reducible rfl
  simp only [Act.put]
  refine wpAnyG_take (i := 2) (v := ?_) rfl (by decide +kernel) (by kernel_rfl) (by decide) (by kernel_rfl) (by kernel_rfl) (fun _ _ _ h => h) (Or.inl ⟨by kernel_rfl, ?_⟩) hHeld ?_
  rotate_left 1
  · (intro w' hSw; (try dsimp only at hSw); go_simp) <;> with_reducible rfl
  simp only [Act.put]
  refine wpAnyG_take (i := 3) (v := ?_) rfl (by decide +kernel) (by kernel_rfl) (by decide) (by kernel_rfl) (by kernel_rfl) (fun _ _ _ h => h) (Or.inl ⟨by kernel_rfl, ?_⟩) hHeld ?_
  rotate_left 1
  · (intro w' hSw; (try dsimp only at hSw); go_simp) <;> with_reducible rfl
  simp only [Act.put]
  refine wpAnyG_one (i := 1) rfl (by kernel_rfl) rfl (fun K hK => ?_)
  go_simp
  (with_reducible refine (neDegrees_any (HN.out.ext (EW.out.trans' (Ext.rfl' W1).drew')) hnn).mono ?_)
  rintro e w2 ⟨dv, db, rfl, hx2, hod, -⟩
  have X2 := Lib.hid ((Ext.rfl' W1).drew'.trans' hx2)
  have HOD := Lib.hid hod.read
  obtain ⟨da, dc, rfl⟩ := hod.read.isSlice
  clear hx2 hod
  clear hHeld
  refine hK.out _ _ (fun _ => mkS _ X2.out) (fun hHeld' => ?_)
  have hHeld := hHeld' (by decide)
  clear hK K hHeld'
  by_cases e1 : AllIn (degs N) 0 M.deg
  case neg =>
    have D := Lib.hid (show ¬ OnOK M N from fun h => e1 ((onOK_iff HOK.out HG.out).1 h).1)
    refine wpAnyG_one (i := 4) rfl (by kernel_rfl) rfl (fun K hK => ?_)
    go_simp
    (with_reducible refine (l1All_any _ _ HOD.out).mono ?_)
    rintro e w3 ⟨rfl, rfl⟩
    rw [dec_false e1]
    clear hHeld
    refine hK.out _ _ (fun _ => mkS _ X2.out) (fun hHeld' => ?_)
    have hHeld := hHeld' (by decide)
    clear hK K hHeld'
    refine wpAnyG_take (i := 5) (v := ?_) rfl (by decide +kernel) (by kernel_rfl) (by decide) (by kernel_rfl) (by kernel_rfl) (fun _ _ _ h => h) (Or.inl ⟨by kernel_rfl, ?_⟩) hHeld ?_
    rotate_left 1
    · (intro w' hSw; (try dsimp only at hSw); go_simp) <;> with_reducible rfl
    simp only [Act.put]
    refine wpAnyG_take (i := 6) (v := undef) rfl (by decide +kernel) (by kernel_rfl) (by decide) (by kernel_rfl) (by kernel_rfl) (fun _ _ _ h => h) (Or.inr ⟨by kernel_rfl, rfl⟩) hHeld ?_
    simp only [Act.put]
    refine wpAnyG_take (i := 7) (v := undef) rfl (by decide +kernel) (by kernel_rfl) (by decide) (by kernel_rfl) (by kernel_rfl) (fun _ _ _ h => h) (Or.inr ⟨by kernel_rfl, rfl⟩) hHeld ?_
    simp only [Act.put]
    refine wpAnyG_take (i := 8) (v := undef) rfl (by decide +kernel) (by kernel_rfl) (by decide) (by kernel_rfl) (by kernel_rfl) (fun _ _ _ h => h) (Or.inr ⟨by kernel_rfl, rfl⟩) hHeld ?_
    simp only [Act.put]
    refine wpAnyG_take (i := 9) (v := undef) rfl (by decide +kernel) (by kernel_rfl) (by decide) (by kernel_rfl) (by kernel_rfl) (fun _ _ _ h => h) (Or.inr ⟨by kernel_rfl, rfl⟩) hHeld ?_
    simp only [Act.put]
    refine wpAnyG_take (i := 10) (v := undef) rfl (by decide +kernel) (by kernel_rfl) (by decide) (by kernel_rfl) (by kernel_rfl) (fun _ _ _ h => h) (Or.inr ⟨by kernel_rfl, rfl⟩) hHeld ?_
    simp only [Act.put]
    refine wpAnyG_take (i := 11) (v := undef) rfl (by decide +kernel) (by kernel_rfl) (by decide) (by kernel_rfl) (by kernel_rfl) (fun _ _ _ h => h) (Or.inr ⟨by kernel_rfl, rfl⟩) hHeld ?_
    simp only [Act.put]
    refine wpAnyG_take (i := 12) (v := undef) rfl (by decide +kernel) (by kernel_rfl) (by decide) (by kernel_rfl) (by kernel_rfl) (fun _ _ _ h => h) (Or.inr ⟨by kernel_rfl, rfl⟩) hHeld ?_
    simp only [Act.put]
    refine wpAnyG_take (i := 13) (v := undef) rfl (by decide +kernel) (by kernel_rfl) (by decide) (by kernel_rfl) (by kernel_rfl) (fun _ _ _ h => h) (Or.inr ⟨by kernel_rfl, rfl⟩) hHeld ?_
    simp only [Act.put]
    refine wpAnyG_take (i := 14) (v := undef) rfl (by decide +kernel) (by kernel_rfl) (by decide) (by kernel_rfl) (by kernel_rfl) (fun _ _ _ h => h) (Or.inr ⟨by kernel_rfl, rfl⟩) hHeld ?_
    simp only [Act.put]
    refine wpAnyG_take (i := 15) (v := ?_) rfl (by decide +kernel) (by kernel_rfl) (by decide) (by kernel_rfl) (by kernel_rfl) (fun _ _ _ h => h) (Or.inl ⟨by kernel_rfl, ?_⟩) hHeld ?_
    rotate_left 1
    · (intro w' hSw; (try dsimp only at hSw); go_simp) <;> with_reducible rfl
    simp only [Act.put]
    refine wpAnyG_one (i := 16) rfl (by kernel_rfl) rfl (fun K hK => ?_)
    go_simp
    refine hK.out _ _ (fun h => absurd rfl h) (fun _ => ?_)
    clear hK K
    refine wpAnyG_done (by kernel_rfl) ?_ _
    clear hHeld
    go_wp2
    go_ret
    exact ⟨ret_f D.out, EW.out.trans' X2.out⟩
  have HD := Lib.hid (dec_congr (p := AllIn N.inputs 0 (((gr M.start 0).length : Int) - 1)) (q := OnOK M N) ⟨fun k => (onOK_iff HOK.out HG.out).2 ⟨e1, k⟩, fun k => ((onOK_iff HOK.out HG.out).1 k).2⟩)
  refine wpAnyG_one (i := 4) rfl (by kernel_rfl) rfl (fun K hK => ?_)
  go_simp
  (with_reducible refine (l1All_any _ _ HOD.out).mono ?_)
  rintro e w3 ⟨rfl, rfl⟩
  rw [dec_true e1]
  clear hHeld
  refine hK.out _ _ (fun _ => mkS _ X2.out) (fun hHeld' => ?_)
  have hHeld := hHeld' (by decide)
  clear hK K hHeld'
  refine wpAnyG_take (i := 5) (v := ?_) rfl (by decide +kernel) (by kernel_rfl) (by decide) (by kernel_rfl) (by kernel_rfl) (fun _ _ _ h => h) (Or.inl ⟨by kernel_rfl, ?_⟩) hHeld ?_
  rotate_left 1
  · (intro w' hSw; (try dsimp only at hSw); go_simp) <;> with_reducible rfl
  simp only [Act.put]
  refine wpAnyG_take (i := 6) (v := ?_) rfl (by decide +kernel) (by kernel_rfl) (by decide) (by kernel_rfl) (by kernel_rfl) (fun _ _ _ h => h) (Or.inl ⟨by kernel_rfl, ?_⟩) hHeld ?_
  rotate_left 1
  · (intro w' hSw; (try dsimp only at hSw); go_simp) <;> with_reducible rfl
  simp only [Act.put]
  refine wpAnyG_take (i := 7) (v := ?_) rfl (by decide +kernel) (by kernel_rfl) (by decide) (by kernel_rfl) (by kernel_rfl) (fun _ _ _ h => h) (Or.inl ⟨by kernel_rfl, ?_⟩) hHeld ?_
  rotate_left 1
  · (intro w' hSw; (try dsimp only at hSw); go_simp) <;> with_reducible rfl
  simp only [Act.put]
  refine wpAnyG_take (i := 8) (v := ?_) rfl (by decide +kernel) (by kernel_rfl) (by decide) (by kernel_rfl) (by kernel_rfl) (fun _ _ _ h => h) (Or.inl ⟨by kernel_rfl, ?_⟩) hHeld ?_
  rotate_left 1
  · (intro w' hSw; (try dsimp only at hSw); go_simp) <;> with_reducible rfl
  simp only [Act.put]
  refine wpAnyG_take (i := 9) (v := ?_) rfl (by decide +kernel) (by kernel_rfl) (by decide) (by kernel_rfl) (by kernel_rfl) (fun _ _ _ h => h) (Or.inl ⟨by kernel_rfl, ?_⟩) hHeld ?_
  rotate_left 1
  · (intro w' hSw; (try dsimp only at hSw); go_simp) <;> with_reducible rfl
  simp only [Act.put]
  refine wpAnyG_take (i := 10) (v := ?_) rfl (by decide +kernel) (by kernel_rfl) (by decide) (by kernel_rfl) (by kernel_rfl) (fun _ _ _ h => h) (Or.inl ⟨by kernel_rfl, ?_⟩) hHeld ?_
  rotate_left 1
  · (intro w' hSw; (try dsimp only at hSw); go_simp) <;> with_reducible rfl
  simp only [Act.put]
  refine wpAnyG_take (i := 11) (v := ?_) rfl (by decide +kernel) (by kernel_rfl) (by decide) (by kernel_rfl) (by kernel_rfl) (fun _ _ _ h => h) (Or.inl ⟨by kernel_rfl, ?_⟩) hHeld ?_
  rotate_left 1
  · (intro w' hSw; (try dsimp only at hSw); go_simp) <;> with_reducible rfl
  simp only [Act.put]
  refine wpAnyG_take (i := 12) (v := ?_) rfl (by decide +kernel) (by kernel_rfl) (by decide) (by kernel_rfl) (by kernel_rfl) (fun _ _ _ h => h) (Or.inl ⟨by kernel_rfl, ?_⟩) hHeld ?_
  rotate_left 1
  · (intro w' hSw; (try dsimp only at hSw); go_simp) <;> with_reducible rfl
  simp only [Act.put]
  refine wpAnyG_take (i := 13) (v := ?_) rfl (by decide +kernel) (by kernel_rfl) (by decide) (by kernel_rfl) (by kernel_rfl) (fun _ _ _ h => h) (Or.inl ⟨by kernel_rfl, ?_⟩) hHeld ?_
  rotate_left 1
  · (intro w' hSw; (try dsimp only at hSw); go_simp) <;> with_reducible rfl
  simp only [Act.put]
  refine wpAnyG_oneG (i := 14) rfl (by kernel_rfl) (by kernel_rfl) (fun K hK => ?_)
  go_simp
  (with_reducible refine (l1All_any _ _ ((HNP.out.ext EW.out).ext X2.out)).mono ?_)
  rintro e w3 ⟨rfl, rfl⟩
  rw [HD.out]
  clear hHeld
  refine hK.out _ _ (fun _ => mkS _ X2.out) (fun hHeld' => ?_)
  have hHeld := hHeld' (by decide)
  clear hK K hHeld'
  refine wpAnyG_take (i := 15) (v := ?_) rfl (by decide +kernel) (by kernel_rfl) (by decide) (by kernel_rfl) (by kernel_rfl) (fun _ _ _ h => h) (Or.inl ⟨by kernel_rfl, ?_⟩) hHeld ?_
  rotate_left 1
  · (intro w' hSw; (try dsimp only at hSw); go_simp) <;> with_reducible rfl
  simp only [Act.put]
  refine wpAnyG_one (i := 16) rfl (by kernel_rfl) rfl (fun K hK => ?_)
  go_simp
  refine hK.out _ _ (fun h => absurd rfl h) (fun _ => ?_)
  clear hK K
  refine wpAnyG_done (by kernel_rfl) ?_ _
  clear hHeld
  go_wp2
  go_ret
  exact ⟨rfl, EW.out.trans' X2.out⟩
theorem ret_bb2 {a b c d : Bool} (h : a = b) (k : c = d) : Ending.returned (.tuple #[.bool a, .bool c]) = .returned (.tuple #[.bool b, .bool d]) := by rw [h, k]
def Valid2 (M : Mach) (N : Net) : Prop := MachOK M ∧ Good N

set_option maxHeartbeats 3200000 in
set_option maxRecDepth 100000 in
theorem maAsked_any {w : World} {vm vn : Value} {M : Mach} {N : Net} (h : MachAt w vm M) (k : NetAt w vn N) : Calls Try.prog 85 #[vm, vn] w fun e w' => e = .returned (.bool (dec (Asked M N))) ∧ Ext w w' := by
  have HM := Lib.hid h
  have HN := Lib.hid k
  obtain ⟨a3, c3, a4, c4, a5, c5, a6, c6, rfl, h3, -⟩ := h
  obtain ⟨v0, v1, v2, rfl, hE, -, hP⟩ := k
  obtain ⟨W1, hW1⟩ : ∃ W1, W1 = twoBox w (.int .i64 M.deg) (.int .i64 M.sts) (.int .i64 M.msgs) (.slice a3 M.start.length c3) (.slice a4 M.send.length c4) (.slice a5 M.cls.length c5) (.slice a6 M.out.length c6) v0 v1 v2 := ⟨_, rfl⟩
  have EW := Lib.hid (show Ext w W1 by rw [hW1]; exact twoBox_ext _ _ _ _ _ _ _ _ _ _ _)
  have RA := Lib.hid (show W1.rowIs w.heap.size 31 7 (sept (.int .i64 M.deg) (.int .i64 M.sts) (.int .i64 M.msgs) (.slice a3 M.start.length c3) (.slice a4 M.send.length c4) (.slice a5 M.cls.length c5) (.slice a6 M.out.length c6)) by rw [hW1]; exact twoBox_m _ _ _ _ _ _ _ _ _ _ _)
  have RB := Lib.hid (show W1.rowIs (w.heap.size + 1) 43 3 (tri v0 v1 v2) by rw [hW1]; exact twoBox_n _ _ _ _ _ _ _ _ _ _ _)
  have HE3 := Lib.hid h3
  have HNE := Lib.hid hE
  have HNP := Lib.hid hP
  clear h3 hE hP
  obtain ⟨p0, p1, p2, p3, p4, p5, p6⟩ := row7_facts RA.out
  obtain ⟨q0, q1, q2, -, -, -⟩ := row3_facts RB.out
  unfold twoBox at hW1
  go_enter Try.func85, Try.ntmps85
  go_upto_region 1 with fail
  rw [← hW1]
  clear hW1
  go_wp2_with fail
  (with_reducible refine (maGood_any (HM.out.ext EW.out)).mono ?_)
  rintro e w2 ⟨rfl, hx⟩
  have Y1 := Lib.hid (hx)
  clear hx p0 p1 p2 p3 p4 p5 p6 q0 q1 q2
  obtain ⟨p0, p1, p2, p3, p4, p5, p6⟩ := row7_facts (row_ext RA.out Y1.out)
  obtain ⟨q0, q1, q2, -, -, -⟩ := row3_facts (row_ext RB.out Y1.out)
  by_cases e1 : MachOK M
  case neg =>
    have D := Lib.hid (show ¬ Asked M N from fun h => e1 h.1)
    rw [dec_false e1]
    clear e1
    go_wp2
    go_ret
    exact ⟨ret_f D.out, EW.out.trans' Y1.out⟩
  rw [dec_true e1]
  go_wp2_with fail
  (with_reducible refine (neGood_any (HN.out.ext (EW.out.trans' Y1.out))).mono ?_)
  rintro e w3 ⟨rfl, hx⟩
  have Y2 := Lib.hid (Y1.out.trans' hx)
  clear hx p0 p1 p2 p3 p4 p5 p6 q0 q1 q2
  obtain ⟨p0, p1, p2, p3, p4, p5, p6⟩ := row7_facts (row_ext RA.out Y2.out)
  obtain ⟨q0, q1, q2, -, -, -⟩ := row3_facts (row_ext RB.out Y2.out)
  by_cases e2 : Good N
  case neg =>
    have D := Lib.hid (show ¬ Asked M N from fun h => e2 h.2.1)
    rw [dec_false e2]
    clear e2
    go_wp2
    go_ret
    exact ⟨ret_f D.out, EW.out.trans' Y2.out⟩
  rw [dec_true e2]
  have HD := Lib.hid (dec_congr (p := OnOK M N) (q := Asked M N) ⟨fun k => ⟨e1, e2, k⟩, fun k => k.2.2⟩)
  go_wp2_with fail
  (with_reducible refine (maOn_any (HM.out.ext (EW.out.trans' Y2.out)) (HN.out.ext (EW.out.trans' Y2.out)) e1 e2).mono ?_)
  rintro e w4 ⟨rfl, hx⟩
  rw [HD.out]
  have Y3 := Lib.hid (Y2.out.trans' hx)
  clear hx
  go_wp2
  go_ret
  exact ⟨rfl, EW.out.trans' Y3.out⟩
set_option maxHeartbeats 3200000 in
set_option maxRecDepth 100000 in
theorem specRunsOn_any {w : World} {vm vn : Value} {M : Mach} {N : Net} (h : MachAt w vm M) (k : NetAt w vn N) : Calls Try.prog 25 #[vm, vn] w fun e w' => e = .returned (.tuple #[.bool (dec (Asked M N)), .bool (dec (Valid2 M N))]) ∧ Ext w w' := by
  have HM := Lib.hid h
  have HN := Lib.hid k
  obtain ⟨a3, c3, a4, c4, a5, c5, a6, c6, rfl, h3, -⟩ := h
  obtain ⟨v0, v1, v2, rfl, hE, -, hP⟩ := k
  obtain ⟨W1, hW1⟩ : ∃ W1, W1 = twoBox w (.int .i64 M.deg) (.int .i64 M.sts) (.int .i64 M.msgs) (.slice a3 M.start.length c3) (.slice a4 M.send.length c4) (.slice a5 M.cls.length c5) (.slice a6 M.out.length c6) v0 v1 v2 := ⟨_, rfl⟩
  have EW := Lib.hid (show Ext w W1 by rw [hW1]; exact twoBox_ext _ _ _ _ _ _ _ _ _ _ _)
  have RA := Lib.hid (show W1.rowIs w.heap.size 31 7 (sept (.int .i64 M.deg) (.int .i64 M.sts) (.int .i64 M.msgs) (.slice a3 M.start.length c3) (.slice a4 M.send.length c4) (.slice a5 M.cls.length c5) (.slice a6 M.out.length c6)) by rw [hW1]; exact twoBox_m _ _ _ _ _ _ _ _ _ _ _)
  have RB := Lib.hid (show W1.rowIs (w.heap.size + 1) 43 3 (tri v0 v1 v2) by rw [hW1]; exact twoBox_n _ _ _ _ _ _ _ _ _ _ _)
  have HE3 := Lib.hid h3
  have HNE := Lib.hid hE
  have HNP := Lib.hid hP
  clear h3 hE hP
  obtain ⟨p0, p1, p2, p3, p4, p5, p6⟩ := row7_facts RA.out
  obtain ⟨q0, q1, q2, -, -, -⟩ := row3_facts RB.out
  unfold twoBox at hW1
  go_enter Try.func25, Try.ntmps25
  go_upto_region 1 with fail
  rw [← hW1]
  clear hW1
  go_wp2_with fail
  (with_reducible refine (maGood_any (HM.out.ext EW.out)).mono ?_)
  rintro e w2 ⟨rfl, hx⟩
  have Y1 := Lib.hid (hx)
  clear hx p0 p1 p2 p3 p4 p5 p6 q0 q1 q2
  obtain ⟨p0, p1, p2, p3, p4, p5, p6⟩ := row7_facts (row_ext RA.out Y1.out)
  obtain ⟨q0, q1, q2, -, -, -⟩ := row3_facts (row_ext RB.out Y1.out)
  by_cases e1 : MachOK M
  case neg =>
    have D := Lib.hid (show ¬ Asked M N ∧ ¬ Valid2 M N from ⟨fun h => e1 h.1, fun h => e1 h.1⟩)
    rw [dec_false e1]
    clear e1
    go_wp2
    go_ret2
    exact ⟨ret_bb2 (dec_false D.out.1).symm (dec_false D.out.2).symm, EW.out.trans' Y1.out⟩
  rw [dec_true e1]
  go_wp2_with fail
  (with_reducible refine (neGood_any (HN.out.ext (EW.out.trans' Y1.out))).mono ?_)
  rintro e w3 ⟨rfl, hx⟩
  have Y2 := Lib.hid (Y1.out.trans' hx)
  clear hx p0 p1 p2 p3 p4 p5 p6 q0 q1 q2
  obtain ⟨p0, p1, p2, p3, p4, p5, p6⟩ := row7_facts (row_ext RA.out Y2.out)
  obtain ⟨q0, q1, q2, -, -, -⟩ := row3_facts (row_ext RB.out Y2.out)
  by_cases e2 : Good N
  case neg =>
    have D := Lib.hid (show ¬ Asked M N ∧ ¬ Valid2 M N from ⟨fun h => e2 h.2.1, fun h => e2 h.2⟩)
    rw [dec_false e2]
    clear e2
    go_wp2
    go_ret2
    exact ⟨ret_bb2 (dec_false D.out.1).symm (dec_false D.out.2).symm, EW.out.trans' Y2.out⟩
  rw [dec_true e2]
  have HD := Lib.hid (dec_congr (p := OnOK M N) (q := Asked M N) ⟨fun k => ⟨e1, e2, k⟩, fun k => k.2.2⟩)
  have HV := Lib.hid (dec_true (p := Valid2 M N) ⟨e1, e2⟩)
  go_wp2_with fail
  (with_reducible refine (maOn_any (HM.out.ext (EW.out.trans' Y2.out)) (HN.out.ext (EW.out.trans' Y2.out)) e1 e2).mono ?_)
  rintro e w4 ⟨rfl, hx⟩
  rw [HD.out]
  have Y3 := Lib.hid (Y2.out.trans' hx)
  clear hx
  go_wp2
  go_ret2
  exact ⟨ret_bb2 rfl HV.out.symm, EW.out.trans' Y3.out⟩
set_option maxHeartbeats 3200000 in
set_option maxRecDepth 100000 in
theorem maStates_any {w : World} {vm vn vs : Value} {M : Mach} {N : Net} {s : List Int} (h : MachAt w vm M) (k : NetAt w vn N) (hs : IntSl w vs s) : Calls Try.prog 89 #[vm, vn, vs] w fun e w' => e = .returned (.bool (dec (Sts M N s))) ∧ Ext w w' := by
  have HS := Lib.hid hs
  obtain ⟨sa, sc, rfl⟩ := hs.isSlice
  clear hs
  have HM := Lib.hid h
  have HN := Lib.hid k
  obtain ⟨a3, c3, a4, c4, a5, c5, a6, c6, rfl, h3, -⟩ := h
  obtain ⟨v0, v1, v2, rfl, hE, -, hP⟩ := k
  obtain ⟨W1, hW1⟩ : ∃ W1, W1 = twoBox w (.int .i64 M.deg) (.int .i64 M.sts) (.int .i64 M.msgs) (.slice a3 M.start.length c3) (.slice a4 M.send.length c4) (.slice a5 M.cls.length c5) (.slice a6 M.out.length c6) v0 v1 v2 := ⟨_, rfl⟩
  have EW := Lib.hid (show Ext w W1 by rw [hW1]; exact twoBox_ext _ _ _ _ _ _ _ _ _ _ _)
  have RA := Lib.hid (show W1.rowIs w.heap.size 31 7 (sept (.int .i64 M.deg) (.int .i64 M.sts) (.int .i64 M.msgs) (.slice a3 M.start.length c3) (.slice a4 M.send.length c4) (.slice a5 M.cls.length c5) (.slice a6 M.out.length c6)) by rw [hW1]; exact twoBox_m _ _ _ _ _ _ _ _ _ _ _)
  have RB := Lib.hid (show W1.rowIs (w.heap.size + 1) 43 3 (tri v0 v1 v2) by rw [hW1]; exact twoBox_n _ _ _ _ _ _ _ _ _ _ _)
  have HE3 := Lib.hid h3
  have HNE := Lib.hid hE
  have HNP := Lib.hid hP
  clear h3 hE hP
  obtain ⟨p0, p1, p2, p3, p4, p5, p6⟩ := row7_facts RA.out
  obtain ⟨q0, q1, q2, -, -, -⟩ := row3_facts RB.out
  unfold twoBox at hW1
  obtain ⟨ea, eb, eo, ec, rfl, -, el, em, -⟩ := HNE.out
  unfold maxLen at em
  go_enter Try.func89, Try.ntmps89
  go_upto_region 1 with fail
  rw [← hW1]
  clear hW1
  go_wp2_with fail
  (with_reducible refine (maAsked_any (HM.out.ext EW.out) (HN.out.ext EW.out)).mono ?_)
  rintro e w2 ⟨rfl, hx⟩
  have Y1 := Lib.hid (hx)
  clear hx p0 p1 p2 p3 p4 p5 p6 q0 q1 q2
  obtain ⟨p0, p1, p2, p3, p4, p5, p6⟩ := row7_facts (row_ext RA.out Y1.out)
  obtain ⟨q0, q1, q2, -, -, -⟩ := row3_facts (row_ext RB.out Y1.out)
  by_cases e1 : Asked M N
  case neg =>
    have D := Lib.hid (show ¬ Sts M N s from fun h => e1 h.1)
    rw [dec_false e1]
    clear e1
    go_wp2
    go_ret
    exact ⟨ret_f D.out, EW.out.trans' Y1.out⟩
  rw [dec_true e1]
  have HD := Lib.hid (dec_congr (p := RowB s (N.ends.length : Int) M.sts) (q := Sts M N s) ⟨fun k => ⟨e1, by have := k.1; omega, k.2⟩, fun k => ⟨by have := k.2.1; omega, k.2.2⟩⟩)
  obtain ⟨g3, g4⟩ : 0 ≤ M.sts ∧ M.sts ≤ 1048576 := by have := e1.1.1.2.1; unfold InB at this; omega
  go_wp2_with (go_at_call 106; (with_reducible refine (maRow_any _ _ (HS.out.ext (EW.out.trans' Y1.out)) g3 g4).mono ?_); rintro e w' ⟨rfl, rfl⟩; rw [HD.out])
  go_ret
  exact ⟨rfl, EW.out.trans' Y1.out⟩
end Go.Proofs.Ytdcgpodjoalokaa
