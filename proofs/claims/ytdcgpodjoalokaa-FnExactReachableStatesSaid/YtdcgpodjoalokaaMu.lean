/- StepMachine on both sides. -/
import Derived.Test.YtdcgpodjoalokaaMs
import Derived.Test.YtdcgpodjoalokaaMp
namespace Go.Proofs.Ytdcgpodjoalokaa
open Go.RowKit

theorem stepL_r {M : Mach} {N : Net} {s : List Int} (h : Sts M N s) : ∀ i, i < (stepL M N s).length → inI64 (gi (stepL M N s) i) := fun i hi => by
  have := (step_sts h).2 i hi
  have := h.1.1.1.2.1.2
  exact inI64_small (by omega) (by omega)
theorem OwnI.parts {w : World} {v : Value} {l : List Int} {bs : List Nat} (h : OwnI w v l bs) (hn : 0 < l.length) : ∃ b c g, bs = [b] ∧ v = .slice (some ⟨b, 0, none⟩) l.length c ∧ l.length ≤ c ∧ c ≤ maxLen ∧ w.rowIs b 3 c g ∧ ∀ i, i < l.length → g i = .int .i64 (gi l i) := by
  obtain ⟨⟨c, h1, h2, h3⟩, -⟩ := h
  rcases h3 with ⟨hz, -⟩ | ⟨b, m, g, rfl, rfl, ⟨hm, rfl⟩, hr, hf⟩
  · omega
  · rw [Nat.mul_one] at hr hf
    exact ⟨b, c, g, rfl, rfl, h1, h2, hr, hf⟩
theorem OwnI.ofRow {w : World} {l : List Int} {b c n : Nat} {g : Nat → Value} (hl : l.length = n) (h1 : n ≤ c) (h2 : c ≤ maxLen) (hr : w.rowIs b 3 c g) (hg : ∀ i, i < n → g i = .int .i64 (gi l i)) (hi : ∀ i, i < l.length → inI64 (gi l i)) : OwnI w (.slice (some ⟨b, 0, none⟩) n c) l [b] := by
  subst hl
  exact ⟨⟨c, h1, h2, .inr ⟨b, c, g, rfl, rfl, ⟨by omega, by omega⟩, hr, fun i hi => hg i (by omega)⟩⟩, hi⟩

set_option maxHeartbeats 6400000 in
set_option maxRecDepth 100000 in
theorem nextStates_any {w : World} {vm vn vs : Value} {M : Mach} {N : Net} {s : List Int} (h : MachAt w vm M) (k : NetAt w vn N) (hs : IntSl w vs s) (ha : Sts M N s) : Calls Try.prog 98 #[vm, vn, vs] w fun e w' => ∃ v' bs, e = .returned v' ∧ Ext w w' ∧ OwnI w' v' (stepL M N s) bs ∧ Fresh w bs := by
  have HSS := Lib.hid hs
  obtain ⟨ssa, ssc, rfl⟩ := hs.isSlice
  obtain ⟨-, ssm, ssn⟩ := isLen hs
  unfold maxLen at ssm
  clear hs
  have HM := Lib.hid h
  have HN := Lib.hid k
  obtain ⟨a3, c3, a4, c4, a5, c5, a6, c6, rfl, h3, h4, -⟩ := h
  obtain ⟨v0, v1, v2, rfl, hE, -, hP⟩ := k
  obtain ⟨W1, hW1⟩ : ∃ W1, W1 = twoBox w (.int .i64 M.deg) (.int .i64 M.sts) (.int .i64 M.msgs) (.slice a3 M.start.length c3) (.slice a4 M.send.length c4) (.slice a5 M.cls.length c5) (.slice a6 M.out.length c6) v0 v1 v2 := ⟨_, rfl⟩
  have EW := Lib.hid (show Ext w W1 by rw [hW1]; exact twoBox_ext _ _ _ _ _ _ _ _ _ _ _)
  have RA := Lib.hid (show W1.rowIs w.heap.size 31 7 (sept (.int .i64 M.deg) (.int .i64 M.sts) (.int .i64 M.msgs) (.slice a3 M.start.length c3) (.slice a4 M.send.length c4) (.slice a5 M.cls.length c5) (.slice a6 M.out.length c6)) by rw [hW1]; exact twoBox_m _ _ _ _ _ _ _ _ _ _ _)
  have RB := Lib.hid (show W1.rowIs (w.heap.size + 1) 43 3 (tri v0 v1 v2) by rw [hW1]; exact twoBox_n _ _ _ _ _ _ _ _ _ _ _)
  have hsz : W1.heap.size = w.heap.size + 2 := by rw [hW1]; simp [twoBox]
  have HSZ := Lib.hid hsz
  have HE3 := Lib.hid (h3.ext EW.out)
  have HE4 := Lib.hid (h4.ext EW.out)
  have HNE := Lib.hid (hE.ext EW.out)
  have HNP := Lib.hid (hP.ext EW.out)
  obtain ⟨-, ms3, ns3⟩ := ssLen h3
  obtain ⟨-, ms4, ns4⟩ := ssLen h4
  unfold maxLen at ms3 ms4
  clear h3 h4 hE hP hsz
  obtain ⟨p0, p1, p2, p3, p4, p5, p6⟩ := row7_facts RA.out
  obtain ⟨q0, q1, q2, -, -, -⟩ := row3_facts RB.out
  unfold twoBox at hW1
  have HA := Lib.hid ha
  have HG := Lib.hid ha.1.2.1
  obtain ⟨ea, eb, eo, ec, rfl, hea, el, em, hec⟩ := HNE.out
  unfold maxLen at em
  have HEA := Lib.hid hea
  have HEC := Lib.hid hec
  have hn40 : N.ends.length ≤ 40 := ha.1.2.1.1.2
  clear hea hec
  have hsl : s.length = N.ends.length := ha.2.1
  have HSL := Lib.hid hsl
  have HMK := Lib.hid ha.1.1
  have hm1 : N.ends.length ≤ 1048576 := by omega
  rw [hsl] at HSS ssn ⊢
  obtain ⟨n, hn⟩ : ∃ n, n = N.ends.length := ⟨_, rfl⟩
  have hmk := run_make_row' (P := Try.prog) 24 3 (.int .i64 0) 8 Try.underlying24 Try.info3 rfl .i64 .i64 N.ends.length (by omega) (by omega)
  obtain ⟨W2, hW2⟩ : ∃ W2, W2 = W1.alloc (.cells (madeCells #[.int .i64 0] N.ends.length) 3) := ⟨_, rfl⟩
  have E2 := Lib.hid (show Ext W1 W2 by rw [hW2]; exact (Ext.rfl' _).alloc' _)
  have R2 := Lib.hid (show W2.rowIs W1.heap.size 3 N.ends.length (copied (stepL M N s) 0) by rw [hW2]; exact (World.rowIs_made W1 _ _ _).congr fun i _ => by simp [copied])
  have Z2 := Lib.hid (show W2.heap.size = W1.heap.size + 1 by rw [hW2]; simp)
  obtain ⟨t0, t1, t2, t3, t4, t5, t6⟩ := row7_facts (row_ext RA.out E2.out)
  obtain ⟨r0, r1, r2, -, -, -⟩ := row3_facts (row_ext RB.out E2.out)
  have EW2 := Lib.hid (EW.out.trans' E2.out)
  clear ha hsl p0 p1 p2 p3 p4 p5 p6 q0 q1 q2 hn
  go_enter Try.func98, Try.ntmps98
  go_upto_region 1 with fail
  rw [← hW1]
  clear hW1
  go_upto_region 2 with fail
  rw [← hW2]
  clear hmk hW2
  go_wp2_with fail
  (with_reducible refine (inboxesOf_any (HM.out.ext EW2.out) (HN.out.ext EW2.out) (HSS.out.ext EW2.out) HA.out).mono ?_)
  rintro e w3 ⟨x, bs, rfl, hx, ho, hf⟩
  have X3 := Lib.hid hx
  have hlen : (inboxes M N s).length = N.ends.length := length_inboxes M N s
  obtain ⟨ia, ic, hiv⟩ := ho.read.isSlice
  rw [hlen] at hiv
  subst hiv
  have HO := Lib.hid ho
  have HF := Lib.hid hf
  have HLI := Lib.hid hlen
  obtain ⟨-, imx, imn⟩ := ssLen ho.read
  unfold maxLen at imx
  clear hx ho hf t0 t1 t2 t3 t4 t5 t6 r0 r1 r2 hlen
  go_wp2
  go_loopg [18] N.ends.length (fun g i wr => ∃ k : Nat, k ≤ N.ends.length ∧ g = N.ends.length - k ∧ i = .int .i64 k ∧ Hid (Ext W1 wr ∧ wr.rowIs W1.heap.size 3 N.ends.length (copied (stepL M N s) k) ∧ OwnII wr (.slice ia N.ends.length ic) (inboxes M N s) bs))
  case atStart => exact ⟨0, Nat.zero_le _, rfl, rfl, E2.out.trans' X3.out, row_ext R2.out X3.out, HO.out⟩
  case round =>
    obtain ⟨k, hk, rfl, rfl, Hr⟩ := hrel
    by_cases hlt : k < N.ends.length
    · have HK := Lib.hid hlt
      have KR := Lib.hid (EW.out.trans' Hr.out.1)
      obtain ⟨ib, io, ra, rc, rfl, q1, hrow1⟩ := ssRow Hr.out.2.2.read (k := k) (by have := HLI.out; omega)
      rw [gr_inboxes _ _ _ _ hlt] at q1 hrow1
      have HI := Lib.hid hrow1
      obtain ⟨-, ry1, ry2⟩ := isLen hrow1
      unfold maxLen at ry1
      obtain ⟨sa', pb, po, pd, e, hpa, -, -, hpc⟩ := HSS.out.ext KR.out
      rw [HSL.out] at e hpa hpc
      simp only [Value.slice.injEq] at e
      obtain ⟨rfl, -, rfl⟩ := e
      obtain rfl := hpa (by omega)
      obtain ⟨_, z2, rfl, -⟩ := hpc k hlt
      obtain ⟨sr0, sr1⟩ := HA.out.2.2 k (by have := HSL.out; omega)
      obtain ⟨sv, hsv⟩ : ∃ sv, sv = gi s k := ⟨_, rfl⟩
      have HSV := Lib.hid hsv
      rw [← hsv] at z2 sr0 sr1
      have z3 := Hr.out.2.1.cell hlt
      rw [show copied (stepL M N s) k k = .int .i64 0 by simp [copied]] at z3
      have z4 := Hr.out.2.1.frozen k
      obtain ⟨t0, t1, t2, t3, t4, t5, t6⟩ := row7_facts (row_ext RA.out Hr.out.1)
      clear hpa hpc hsv hrow1
      have mkS : ∀ w' : World, Ext wr w' → w'.cell? ⟨w.heap.size, 0, none⟩ = some (.int .i64 M.deg) ∧ w'.cell? ⟨w.heap.size, 1, none⟩ = some (.int .i64 M.sts) ∧ w'.cell? ⟨w.heap.size, 2, none⟩ = some (.int .i64 M.msgs) ∧ w'.cell? ⟨w.heap.size, 3, none⟩ = some (.slice a3 M.start.length c3) ∧ w'.cell? ⟨w.heap.size, 4, none⟩ = some (.slice a4 M.send.length c4) ∧ w'.cell? ⟨w.heap.size, 5, none⟩ = some (.slice a5 M.cls.length c5) ∧ w'.cell? ⟨w.heap.size, 6, none⟩ = some (.slice a6 M.out.length c6) ∧ w'.cell? ⟨pb, po + k, none⟩ = some (.int .i64 sv) ∧ w'.cell? ⟨W1.heap.size, k, none⟩ = some (.int .i64 0) := fun w' h => ⟨h.cell' t0, h.cell' t1, h.cell' t2, h.cell' t3, h.cell' t4, h.cell' t5, h.cell' t6, h.cell' z2, h.cell' z3⟩
      clear t0 t1 t2 t3 t4 t5 t6 z2 z3
      go_upto_region 5 with fail
      refine wp_region_gate (n := 10) (S := fun w' => w'.cell? ⟨w.heap.size, 0, none⟩ = some (.int .i64 M.deg) ∧ w'.cell? ⟨w.heap.size, 1, none⟩ = some (.int .i64 M.sts) ∧ w'.cell? ⟨w.heap.size, 2, none⟩ = some (.int .i64 M.msgs) ∧ w'.cell? ⟨w.heap.size, 3, none⟩ = some (.slice a3 M.start.length c3) ∧ w'.cell? ⟨w.heap.size, 4, none⟩ = some (.slice a4 M.send.length c4) ∧ w'.cell? ⟨w.heap.size, 5, none⟩ = some (.slice a5 M.cls.length c5) ∧ w'.cell? ⟨w.heap.size, 6, none⟩ = some (.slice a6 M.out.length c6) ∧ w'.cell? ⟨pb, po + k, none⟩ = some (.int .i64 sv) ∧ w'.cell? ⟨W1.heap.size, k, none⟩ = some (.int .i64 0)) (by kernel_rfl) (mkS _ (Ext.rfl' wr).drew') (fun hHeld => ?_)
      refine wpAnyG_take (i := 0) (v := ?_) rfl (by decide +kernel) (by kernel_rfl) (by decide) (by kernel_rfl) (by kernel_rfl) (fun _ _ _ h => h) (Or.inl ⟨by kernel_rfl, ?_⟩) hHeld ?_
      rotate_left 1
      · (intro w' hSw; (try dsimp only at hSw); go_simp) <;> with_reducible rfl
      simp only [Act.put]
      refine wpAnyG_take (i := 1) (v := ?_) rfl (by decide +kernel) (by kernel_rfl) (by decide) (by kernel_rfl) (by kernel_rfl) (fun _ _ _ h => h) (Or.inl ⟨by kernel_rfl, ?_⟩) hHeld ?_
      rotate_left 1
      · (intro w' hSw; (try dsimp only at hSw); go_simp) <;> with_reducible rfl
      simp only [Act.put]
      refine wpAnyG_take (i := 2) (v := ?_) rfl (by decide +kernel) (by kernel_rfl) (by decide) (by kernel_rfl) (by kernel_rfl) (fun _ _ _ h => h) (Or.inl ⟨by kernel_rfl, ?_⟩) hHeld ?_
      rotate_left 1
      · (intro w' hSw; (try dsimp only at hSw); go_simp) <;> with_reducible rfl
      simp only [Act.put]
      refine wpAnyG_take (i := 3) (v := ?_) rfl (by decide +kernel) (by kernel_rfl) (by decide) (by kernel_rfl) (by kernel_rfl) (fun _ _ _ h => h) (Or.inl ⟨by kernel_rfl, ?_⟩) hHeld ?_
      rotate_left 1
      · (intro w' hSw; (try dsimp only at hSw); go_simp) <;> with_reducible rfl
      simp only [Act.put]
      refine wpAnyG_take (i := 4) (v := ?_) rfl (by decide +kernel) (by kernel_rfl) (by decide) (by kernel_rfl) (by kernel_rfl) (fun _ _ _ h => h) (Or.inl ⟨by kernel_rfl, ?_⟩) hHeld ?_
      rotate_left 1
      · (intro w' hSw; (try dsimp only at hSw); go_simp) <;> with_reducible rfl
      simp only [Act.put]
      refine wpAnyG_take (i := 5) (v := ?_) rfl (by decide +kernel) (by kernel_rfl) (by decide) (by kernel_rfl) (by kernel_rfl) (fun _ _ _ h => h) (Or.inl ⟨by kernel_rfl, ?_⟩) hHeld ?_
      rotate_left 1
      · (intro w' hSw; (try dsimp only at hSw); go_simp) <;> with_reducible rfl
      simp only [Act.put]
      refine wpAnyG_take (i := 6) (v := ?_) rfl (by decide +kernel) (by kernel_rfl) (by decide) (by kernel_rfl) (by kernel_rfl) (fun _ _ _ h => h) (Or.inl ⟨by kernel_rfl, ?_⟩) hHeld ?_
      rotate_left 1
      · (intro w' hSw; (try dsimp only at hSw); go_simp) <;> with_reducible rfl
      simp only [Act.put]
      refine wpAnyG_take (i := 7) (v := ?_) rfl (by decide +kernel) (by kernel_rfl) (by decide) (by kernel_rfl) (by kernel_rfl) (fun _ _ _ h => h) (Or.inl ⟨by kernel_rfl, ?_⟩) hHeld ?_
      rotate_left 1
      · (intro w' hSw; (try dsimp only at hSw); go_simp) <;> with_reducible rfl
      simp only [Act.put]
      refine wpAnyG_one (i := 8) rfl (by kernel_rfl) rfl (fun K hK => ?_)
      go_simp
      (with_reducible refine (nextState_any (HM.out.ext (KR.out.trans' (Ext.rfl' wr).drew')) HMK.out sr0 sr1 (HI.out.ext (Ext.rfl' wr).drew')).mono ?_)
      rintro e w4 ⟨rfl, hx⟩
      have X4 := Lib.hid ((Ext.rfl' wr).drew'.trans' hx)
      have R4 := Lib.hid (row_ext Hr.out.2.1 X4.out)
      have f4 := R4.out.frozen k
      clear hx z4
      clear hHeld
      refine hK.out _ _ (fun _ => mkS _ X4.out) (fun hHeld' => ?_)
      have hHeld := hHeld' (by decide)
      clear hK K hHeld'
      refine wpAnyG_take (i := 9) (v := ?_) rfl (by decide +kernel) (by kernel_rfl) (by decide) (by kernel_rfl) (by kernel_rfl) (fun _ _ _ h => h) (Or.inl ⟨by kernel_rfl, ?_⟩) hHeld ?_
      rotate_left 1
      · (intro w' hSw; (try dsimp only at hSw); go_simp) <;> with_reducible rfl
      simp only [Act.put]
      refine wpAnyG_one (i := 10) rfl (by kernel_rfl) rfl (fun K hK => ?_)
      go_simp
      refine hK.out _ _ (fun h => absurd rfl h) (fun _ => ?_)
      clear hK K
      refine wpAnyG_done (by kernel_rfl) ?_ _
      have HNX := Lib.hid (show nextS M sv (inboxL M N s k) = gi (stepL M N s) k by rw [gi_stepL _ _ _ _ HK.out, ← HSV.out])
      clear hHeld mkS f4 q1
      go_wp2
      go_roundg (N.ends.length - (k + 1))
      case measure => omega
      case rel =>
        refine ⟨k + 1, by omega, rfl, by go_num, (Hr.out.1.trans' X4.out).store (Nat.le_refl _) _, by rw [HNX.out]; exact copied_step R4.out, (Hr.out.2.2.ext X4.out).keep fun b hb => Below.heap_setCell _ _ _ _ ?_⟩
        have := HF.out.2 b hb
        have := Z2.out
        show b ≠ W1.heap.size
        omega
    · obtain rfl : k = N.ends.length := by omega
      have HOO := Lib.hid (show OwnI wr (.slice (some ⟨W1.heap.size, 0, none⟩) N.ends.length N.ends.length) (stepL M N s) [W1.heap.size] from own_rowM (length_stepL M N s) (fun i hi => stepL_r HA.out i (by rw [length_stepL]; exact hi)) (by omega) Hr.out.2.1)
      go_wp2
      go_ret
      exact ⟨_, _, rfl, EW.out.trans' Hr.out.1, HOO.out, by simp, fun b hb => by obtain rfl := List.mem_singleton.1 hb; have := HSZ.out; omega⟩

set_option maxHeartbeats 6400000 in
set_option maxRecDepth 100000 in
theorem maStep_any {w : World} {vm vn vs : Value} {M : Mach} {N : Net} {s : List Int} (h : MachAt w vm M) (k : NetAt w vn N) (hs : IntSl w vs s) (ha : Sts M N s) : Calls Try.prog 97 #[vm, vn, vs] w fun e w' => ∃ v' bs, e = .returned v' ∧ Ext w w' ∧ OwnI w' v' (stepL M N s) bs ∧ Fresh w bs := by
  have HSS := Lib.hid hs
  obtain ⟨ssa, ssc, rfl⟩ := hs.isSlice
  obtain ⟨-, ssm, ssn⟩ := isLen hs
  unfold maxLen at ssm
  clear hs
  have HM := Lib.hid h
  have HN := Lib.hid k
  obtain ⟨a3, c3, a4, c4, a5, c5, a6, c6, rfl, h3, h4, -⟩ := h
  obtain ⟨v0, v1, v2, rfl, hE, -, hP⟩ := k
  obtain ⟨W1, hW1⟩ : ∃ W1, W1 = twoBox w (.int .i64 M.deg) (.int .i64 M.sts) (.int .i64 M.msgs) (.slice a3 M.start.length c3) (.slice a4 M.send.length c4) (.slice a5 M.cls.length c5) (.slice a6 M.out.length c6) v0 v1 v2 := ⟨_, rfl⟩
  have EW := Lib.hid (show Ext w W1 by rw [hW1]; exact twoBox_ext _ _ _ _ _ _ _ _ _ _ _)
  have RA := Lib.hid (show W1.rowIs w.heap.size 31 7 (sept (.int .i64 M.deg) (.int .i64 M.sts) (.int .i64 M.msgs) (.slice a3 M.start.length c3) (.slice a4 M.send.length c4) (.slice a5 M.cls.length c5) (.slice a6 M.out.length c6)) by rw [hW1]; exact twoBox_m _ _ _ _ _ _ _ _ _ _ _)
  have RB := Lib.hid (show W1.rowIs (w.heap.size + 1) 43 3 (tri v0 v1 v2) by rw [hW1]; exact twoBox_n _ _ _ _ _ _ _ _ _ _ _)
  have hsz : W1.heap.size = w.heap.size + 2 := by rw [hW1]; simp [twoBox]
  have HSZ := Lib.hid hsz
  have HE3 := Lib.hid (h3.ext EW.out)
  have HE4 := Lib.hid (h4.ext EW.out)
  have HNE := Lib.hid (hE.ext EW.out)
  have HNP := Lib.hid (hP.ext EW.out)
  obtain ⟨-, ms3, ns3⟩ := ssLen h3
  obtain ⟨-, ms4, ns4⟩ := ssLen h4
  unfold maxLen at ms3 ms4
  clear h3 h4 hE hP hsz
  obtain ⟨p0, p1, p2, p3, p4, p5, p6⟩ := row7_facts RA.out
  obtain ⟨q0, q1, q2, -, -, -⟩ := row3_facts RB.out
  unfold twoBox at hW1
  have HA := Lib.hid ha
  have HG := Lib.hid ha.1.2.1
  obtain ⟨ea, eb, eo, ec, rfl, hea, el, em, hec⟩ := HNE.out
  unfold maxLen at em
  have HEA := Lib.hid hea
  have HEC := Lib.hid hec
  have hn40 : N.ends.length ≤ 40 := ha.1.2.1.1.2
  clear hea hec
  have hsl : s.length = N.ends.length := ha.2.1
  have HSL := Lib.hid hsl
  have HMK := Lib.hid ha.1.1
  have hm1 : s.length ≤ 1048576 := by omega
  have hpos : 0 < s.length := by have := ha.1.2.1.1.1; omega
  have HPOS := Lib.hid hpos
  have HM1 := Lib.hid hm1
  rw [hsl] at HSS ssn ⊢
  clear ha hsl hm1 hpos
  go_enter Try.func97, Try.ntmps97
  go_upto_region 1 with fail
  rw [← hW1]
  clear hW1
  go_wp2_with fail
  (with_reducible refine (l1Own_any (HSS.out.ext EW.out) HM1.out).mono ?_)
  rintro e w2 ⟨a', c', bs, rfl, hx, ho, hf⟩
  obtain ⟨B, cB, g0, rfl, he, h1, h2, hrow, hg⟩ := ho.parts HPOS.out
  simp only [Value.slice.injEq] at he
  obtain ⟨rfl, -, rfl⟩ := he
  have X2 := Lib.hid hx
  have hB : W1.heap.size ≤ B := hf.2 B (by simp)
  have HR0 := Lib.hid hrow
  have HG0 := Lib.hid hg
  unfold maxLen at h2
  have hm3 : c' ≤ maxLen := by unfold maxLen; exact h2
  have HM3 := Lib.hid hm3
  clear hx ho hf hrow hg hm3 p0 p1 p2 p3 p4 p5 p6 q0 q1 q2
  rw [HSL.out] at h1 ⊢
  go_wp2
  go_loopg [15] N.ends.length (fun g i wr => ∃ k : Nat, k ≤ N.ends.length ∧ g = N.ends.length - k ∧ i = .int .i64 k ∧ Hid (Ext W1 wr ∧ ∃ g', wr.rowIs B 3 c' g' ∧ ∀ i, i < N.ends.length → g' i = .int .i64 (if i < k then gi (stepL M N s) i else gi s i)))
  case atStart => exact ⟨0, Nat.zero_le _, rfl, rfl, X2.out, g0, HR0.out, fun i hi => by rw [HG0.out i (by have := HSL.out; omega)]; simp⟩
  case round =>
    obtain ⟨k, hk, rfl, rfl, Hr⟩ := hrel
    by_cases hlt : k < N.ends.length
    · have HK := Lib.hid hlt
      have KR := Lib.hid (EW.out.trans' Hr.out.1)
      obtain ⟨sa', pb, po, pd, e, hpa, -, -, hpc⟩ := HSS.out.ext KR.out
      rw [HSL.out] at e hpa hpc
      simp only [Value.slice.injEq] at e
      obtain ⟨rfl, -, rfl⟩ := e
      obtain rfl := hpa (by omega)
      obtain ⟨_, z2, rfl, -⟩ := hpc k hlt
      obtain ⟨sr0, sr1⟩ := HA.out.2.2 k (by have := HSL.out; omega)
      obtain ⟨sv, hsv⟩ := Int.eq_ofNat_of_zero_le sr0
      have HSV := Lib.hid hsv
      rw [hsv] at z2 sr0 sr1
      obtain ⟨t0, t1, t2, t3, t4, t5, t6⟩ := row7_facts (row_ext RA.out Hr.out.1)
      obtain ⟨r0, r1, r2, -, -, -⟩ := row3_facts (row_ext RB.out Hr.out.1)
      clear hpa hpc hsv
      have mkS : ∀ w' : World, Ext wr w' → w'.cell? ⟨w.heap.size, 0, none⟩ = some (.int .i64 M.deg) ∧ w'.cell? ⟨w.heap.size, 1, none⟩ = some (.int .i64 M.sts) ∧ w'.cell? ⟨w.heap.size, 2, none⟩ = some (.int .i64 M.msgs) ∧ w'.cell? ⟨w.heap.size, 3, none⟩ = some (.slice a3 M.start.length c3) ∧ w'.cell? ⟨w.heap.size, 4, none⟩ = some (.slice a4 M.send.length c4) ∧ w'.cell? ⟨w.heap.size, 5, none⟩ = some (.slice a5 M.cls.length c5) ∧ w'.cell? ⟨w.heap.size, 6, none⟩ = some (.slice a6 M.out.length c6) ∧ w'.cell? ⟨w.heap.size + 1, 0, none⟩ = some (.slice ea N.ends.length ec) ∧ w'.cell? ⟨w.heap.size + 1, 1, none⟩ = some v1 ∧ w'.cell? ⟨w.heap.size + 1, 2, none⟩ = some v2 := fun w' h => ⟨h.cell' t0, h.cell' t1, h.cell' t2, h.cell' t3, h.cell' t4, h.cell' t5, h.cell' t6, h.cell' r0, h.cell' r1, h.cell' r2⟩
      clear t0 t1 t2 t3 t4 t5 t6 r0 r1 r2
      go_upto_region 5 with fail
      refine wp_region_gate (n := 8) (S := fun w' => w'.cell? ⟨w.heap.size, 0, none⟩ = some (.int .i64 M.deg) ∧ w'.cell? ⟨w.heap.size, 1, none⟩ = some (.int .i64 M.sts) ∧ w'.cell? ⟨w.heap.size, 2, none⟩ = some (.int .i64 M.msgs) ∧ w'.cell? ⟨w.heap.size, 3, none⟩ = some (.slice a3 M.start.length c3) ∧ w'.cell? ⟨w.heap.size, 4, none⟩ = some (.slice a4 M.send.length c4) ∧ w'.cell? ⟨w.heap.size, 5, none⟩ = some (.slice a5 M.cls.length c5) ∧ w'.cell? ⟨w.heap.size, 6, none⟩ = some (.slice a6 M.out.length c6) ∧ w'.cell? ⟨w.heap.size + 1, 0, none⟩ = some (.slice ea N.ends.length ec) ∧ w'.cell? ⟨w.heap.size + 1, 1, none⟩ = some v1 ∧ w'.cell? ⟨w.heap.size + 1, 2, none⟩ = some v2) (by kernel_rfl) (mkS _ (Ext.rfl' wr).drew') (fun hHeld => ?_)
      refine wpAnyG_take (i := 0) (v := ?_) rfl (by decide +kernel) (by kernel_rfl) (by decide) (by kernel_rfl) (by kernel_rfl) (fun _ _ _ h => h) (Or.inl ⟨by kernel_rfl, ?_⟩) hHeld ?_
      rotate_left 1
      · (intro w' hSw; (try dsimp only at hSw); go_simp) <;> with_reducible rfl
      simp only [Act.put]
      refine wpAnyG_take (i := 1) (v := ?_) rfl (by decide +kernel) (by kernel_rfl) (by decide) (by kernel_rfl) (by kernel_rfl) (fun _ _ _ h => h) (Or.inl ⟨by kernel_rfl, ?_⟩) hHeld ?_
      rotate_left 1
      · (intro w' hSw; (try dsimp only at hSw); go_simp) <;> with_reducible rfl
      simp only [Act.put]
      refine wpAnyG_take (i := 2) (v := ?_) rfl (by decide +kernel) (by kernel_rfl) (by decide) (by kernel_rfl) (by kernel_rfl) (fun _ _ _ h => h) (Or.inl ⟨by kernel_rfl, ?_⟩) hHeld ?_
      rotate_left 1
      · (intro w' hSw; (try dsimp only at hSw); go_simp) <;> with_reducible rfl
      simp only [Act.put]
      refine wpAnyG_take (i := 3) (v := ?_) rfl (by decide +kernel) (by kernel_rfl) (by decide) (by kernel_rfl) (by kernel_rfl) (fun _ _ _ h => h) (Or.inl ⟨by kernel_rfl, ?_⟩) hHeld ?_
      rotate_left 1
      · (intro w' hSw; (try dsimp only at hSw); go_simp) <;> with_reducible rfl
      simp only [Act.put]
      refine wpAnyG_take (i := 4) (v := ?_) rfl (by decide +kernel) (by kernel_rfl) (by decide) (by kernel_rfl) (by kernel_rfl) (fun _ _ _ h => h) (Or.inl ⟨by kernel_rfl, ?_⟩) hHeld ?_
      rotate_left 1
      · (intro w' hSw; (try dsimp only at hSw); go_simp) <;> with_reducible rfl
      simp only [Act.put]
      refine wpAnyG_take (i := 5) (v := ?_) rfl (by decide +kernel) (by kernel_rfl) (by decide) (by kernel_rfl) (by kernel_rfl) (fun _ _ _ h => h) (Or.inl ⟨by kernel_rfl, ?_⟩) hHeld ?_
      rotate_left 1
      · (intro w' hSw; (try dsimp only at hSw); go_simp) <;> with_reducible rfl
      simp only [Act.put]
      refine wpAnyG_one (i := 6) rfl (by kernel_rfl) rfl (fun K hK => ?_)
      go_simp
      have KD := Lib.hid (KR.out.trans' (Ext.rfl' wr).drew')
      (with_reducible refine (maInbox_any (HM.out.ext KD.out) (HN.out.ext KD.out) (HSS.out.ext KD.out) HA.out k HK.out).mono ?_)
      rintro e w3 ⟨x, bs3, rfl, hx, ho, -⟩
      have X3 := Lib.hid ((Ext.rfl' wr).drew'.trans' hx)
      have HO3 := Lib.hid ho.read
      clear hx ho KD
      clear hHeld
      refine hK.out _ _ (fun _ => mkS _ X3.out) (fun hHeld' => ?_)
      have hHeld := hHeld' (by decide)
      clear hK K hHeld'
      refine wpAnyG_one (i := 7) rfl (by kernel_rfl) rfl (fun K hK => ?_)
      go_simp
      (with_reducible refine (maClause_any (HM.out.ext (KR.out.trans' X3.out)) HMK.out HO3.out).mono ?_)
      rintro e w4 ⟨rfl, hx⟩
      have X4 := Lib.hid (X3.out.trans' hx)
      clear hx
      clear hHeld
      refine hK.out _ _ (fun _ => mkS _ X4.out) (fun hHeld' => ?_)
      have hHeld := hHeld' (by decide)
      clear hK K hHeld'
      refine wpAnyG_one (i := 8) rfl (by kernel_rfl) rfl (fun K hK => ?_)
      go_simp
      refine hK.out _ _ (fun h => absurd rfl h) (fun _ => ?_)
      clear hK K
      refine wpAnyG_done (by kernel_rfl) ?_ _
      clear hHeld mkS z2
      obtain ⟨g', hrow, hg⟩ := Hr.out.2
      have HR4 := Lib.hid (row_ext hrow X4.out)
      have HG4 := Lib.hid hg
      have K4 := Lib.hid (KR.out.trans' X4.out)
      obtain ⟨t0, t1, t2, t3, t4, t5, t6⟩ := row7_facts (row_ext RA.out (Hr.out.1.trans' X4.out))
      clear hrow hg
      have HST := Lib.hid (show gi (stepL M N s) k = nextS M (sv : Int) (inboxL M N s k) by rw [gi_stepL _ _ _ _ HK.out, HSV.out])
      obtain ⟨ci1, ci2⟩ := clauseI_range M (sv : Int) (inboxL M N s k)
      obtain ⟨-, -, -, ⟨hcl, -⟩, hout⟩ := HMK.out
      have hol : sv < M.out.length := by have := hout.1; omega
      obtain ⟨ho0, ho1⟩ := hout.2 sv hol
      by_cases e1 : clauseI M (sv : Int) (inboxL M N s k) = -1
      · have E := Lib.hid (show gi (stepL M N s) k = sv by rw [HST.out]; unfold nextS; rw [if_pos (.inl e1)])
        rw [e1]
        clear e1 ci1 ci2 ho0 ho1 hout hcl hol
        go_wp2
        go_roundg (N.ends.length - (k + 1))
        case measure => omega
        case rel =>
          refine ⟨k + 1, by omega, rfl, by go_num, Hr.out.1.trans' X4.out, g', HR4.out, fun i hi => ?_⟩
          rw [HG4.out i hi]
          by_cases e : i = k
          · subst e; rw [if_neg (by omega), if_pos (by omega), E.out, HSV.out]
          · by_cases hl : i < k
            · rw [if_pos hl, if_pos (by omega)]
            · rw [if_neg hl, if_neg (by omega)]
      · obtain ⟨kc, hkc⟩ := Int.eq_ofNat_of_zero_le (show 0 ≤ clauseI M (sv : Int) (inboxL M N s k) by omega)
        have hk1 : kc < M.cls.length := by omega
        have HKC := Lib.hid hkc
        rw [hkc]
        obtain ⟨u3, d3, u4, d4, u5, d5, u6, d6, hag, hv3, hv4, hv5, hv6, -⟩ := HM.out.ext K4.out
        simp only [Value.agg.injEq, Array.mk.injEq, List.cons.injEq, Value.slice.injEq, and_true, true_and] at hag
        obtain ⟨⟨rfl, rfl⟩, ⟨rfl, rfl⟩, ⟨rfl, rfl⟩, rfl, rfl⟩ := hag
        obtain ⟨-, hm5, hn5⟩ := clLen hv5
        obtain ⟨-, hm6, hn6⟩ := isLen hv6
        unfold maxLen at hm5 hm6
        obtain ⟨b, oo, rfl, -, -, q3, -⟩ := clRow hv5 hk1
        obtain ⟨oa, ob, od, oe, e, hoa, -, -, hoc⟩ := hv6
        simp only [Value.slice.injEq] at e
        obtain ⟨rfl, -, rfl⟩ := e
        obtain rfl := hoa (by omega)
        obtain ⟨_, q4, rfl, -⟩ := hoc sv hol
        have z3 := HR4.out.cell (i := k) (by omega)
        have z4 := HR4.out.frozen k
        rw [HG4.out k HK.out] at z3
        clear hoa hoc hv3 hv4 hv5 hkc
        by_cases e2 : gi M.out sv = -1
        · have b2 : decide (gi M.out sv < 0) = true := decide_eq_true (by omega)
          have E := Lib.hid (show gi (stepL M N s) k = (gc M.cls kc).nx by
            rw [HST.out]; unfold nextS
            rw [HKC.out, if_neg (by rw [Int.toNat_natCast]; rintro (h | h); omega; exact h e2), Int.toNat_natCast])
          clear e1 e2 ci1 ci2 ho0 ho1
          go_wp2
          go_roundg (N.ends.length - (k + 1))
          case measure => omega
          case rel =>
            refine ⟨k + 1, by omega, rfl, by go_num, (Hr.out.1.trans' X4.out).store hB _, _, HR4.out.set k _, fun i hi => ?_⟩
            by_cases e : i = k
            · subst e; rw [if_pos rfl, if_pos (by omega), E.out]
            · rw [if_neg e, HG4.out i hi]
              by_cases hl : i < k
              · rw [if_pos hl, if_pos (by omega)]
              · rw [if_neg hl, if_neg (by omega)]
        · have b2 : decide (gi M.out sv < 0) = false := decide_eq_false (by omega)
          have E := Lib.hid (show gi (stepL M N s) k = sv by rw [HST.out]; unfold nextS; rw [if_pos (.inr (by rw [Int.toNat_natCast]; exact e2))])
          clear e1 e2 ci1 ci2 ho0 ho1
          go_wp2
          go_roundg (N.ends.length - (k + 1))
          case measure => omega
          case rel =>
            refine ⟨k + 1, by omega, rfl, by go_num, Hr.out.1.trans' X4.out, g', HR4.out, fun i hi => ?_⟩
            rw [HG4.out i hi]
            by_cases e : i = k
            · subst e; rw [if_neg (by omega), if_pos (by omega), E.out, HSV.out]
            · by_cases hl : i < k
              · rw [if_pos hl, if_pos (by omega)]
              · rw [if_neg hl, if_neg (by omega)]
    · obtain rfl : k = N.ends.length := by omega
      obtain ⟨g', hrow, hg⟩ := Hr.out.2
      have HOO := Lib.hid (show OwnI wr (.slice (some ⟨B, 0, none⟩) N.ends.length c') (stepL M N s) [B] from OwnI.ofRow (length_stepL M N s) h1 HM3.out hrow (fun i hi => by rw [hg i hi, if_pos hi]) (stepL_r HA.out))
      have HB := Lib.hid hB
      clear hrow hg
      go_wp2
      go_ret
      exact ⟨_, _, rfl, EW.out.trans' Hr.out.1, HOO.out, by simp, fun b hb => by obtain rfl := List.mem_singleton.1 hb; have := HSZ.out; have := HB.out; omega⟩

end Go.Proofs.Ytdcgpodjoalokaa
