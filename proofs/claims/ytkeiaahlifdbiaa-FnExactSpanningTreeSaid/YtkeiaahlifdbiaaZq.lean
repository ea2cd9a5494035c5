/- SpanningTree. -/
import Derived.Test.YtkeiaahlifdbiaaZo
namespace Go.Proofs.Ytkeiaahlifdbiaa
open Go.RowKit

def spanF (N : Net) (x : Int) (v : Nat) : Int := idxP (fun i => decide (gi (dst N x) (gn (gr N.ends v) i).toNat < gi (dst N x) v)) (gr N.ends v).length
def spanQ (N : Net) (D : List Int) (v : Nat) : Int := idxP (fun i => decide (0 < gi D v ∧ gi D (gn (gr N.ends v) i).toNat = gi D v - 1)) (gr N.ends v).length
def span (N : Net) (x : Int) : List Int := tab (spanF N x) N.ends.length
/-- A nearer neighbour is nearer by one. -/
theorem span_eq {N : Net} (hG : Good N) {x : Int} (hx : 0 ≤ x ∧ x < N.ends.length) {v : Nat} (hv : v < N.ends.length) : spanQ N (dst N x) v = spanF N x v := by
  have hW := good_w hG
  have F := far hW.leads hx
  refine idxP_congr _ fun i hi => ?_
  have hr := hW.leads.node v hv i hi
  obtain ⟨w, hw⟩ := Int.eq_ofNat_of_zero_le hr.1
  have hwn : w < N.ends.length := by omega
  have e : (gn (gr N.ends v) i).toNat = w := by rw [hw, Int.toNat_natCast]
  have ha : Adj N (v : Int) (w : Int) := ⟨i, by unfold rw'; rw [Int.toNat_natCast]; exact hi, by unfold rw'; rw [Int.toNat_natCast]; exact hw⟩
  have hb : Adj N (w : Int) (v : Int) := adj_symm hG (by omega) ha
  show decide _ = decide _
  rw [e, decide_eq_decide]
  have rv := F.ok.rng v hv
  have rw_ := F.ok.rng w hwn
  constructor
  · rintro ⟨h1, h2⟩; omega
  · intro h
    have hvm : (v : Int) ∈ wk N x := (F.ok.has v hv).1 (by omega)
    have h1 := F.near _ hvm _ ha
    have h2 := F.near _ h1.1 _ hb
    have h3 := (F.ok.has w hwn).2 h1.1
    rw [Int.toNat_natCast, Int.toNat_natCast] at h2
    omega
theorem span_in {N : Net} (hG : GoodW N) (x : Int) : ∀ i, i < (span N x).length → inI64 (gi (span N x) i) := fun i hi => by
  unfold span at hi ⊢
  rw [tab_len] at hi
  rw [gi_tab hi]
  have := idxP_range (fun j => decide (gi (dst N x) (gn (gr N.ends i) j).toNat < gi (dst N x) i)) (gr N.ends i).length
  have := hG.deg i hi
  unfold spanF inI64
  omega
theorem spanAns_len (N : Net) (x : Int) : (ansOf (NodeAns N x) (span N x)).length ≤ 40 := ansOf_len fun h => by
  unfold span; rw [tab_len]; exact (good_w h.1).most

set_option maxHeartbeats 6400000 in
set_option maxRecDepth 100000 in
theorem portsTowards_any {w : World} {vn : Value} {N : Net} (x : Nat) (hx : x < N.ends.length) (h : NetAt w vn N) (hG : GoodW N) :
    Calls Try.prog 116 #[vn, .int .i64 x] w fun e w' => ∃ v' bs, e = .returned v' ∧ Ext w w' ∧ OwnI w' v' (span N x) bs ∧ Fresh w bs := by
  have HA := Lib.hid h
  obtain ⟨v0, v1, v2, rfl, hEa, -, -⟩ := h
  obtain ⟨ea, eb, eo, ec, rfl, hea, hel, hem, hec⟩ := hEa
  unfold maxLen at hem
  have HEA := Lib.hid hea
  have HEC := Lib.hid hec
  clear hea hec
  have HG := Lib.hid hG
  clear hG
  have hA1 := HG.out.one
  have hA40 := HG.out.most
  have HDL := Lib.hid (dst_small HG.out (x := (x : Int)) (by omega)).1
  obtain ⟨D, hD⟩ : ∃ D, D = dst N (x : Int) := ⟨_, rfl⟩
  have HD := Lib.hid hD
  rw [← hD] at HDL
  have HSF := Lib.hid (show ∀ v, spanF N (x : Int) v = idxP (fun i => decide (gi D (gn (gr N.ends v) i).toNat < gi D v)) (gr N.ends v).length by intro v; rw [hD]; rfl)
  clear hD
  obtain ⟨W1, hW1⟩ : ∃ W1, W1 = w.alloc (.cells #[.slice ea N.ends.length ec, v1, v2] 29) := ⟨_, rfl⟩
  have K0 := Lib.hid (show Ext w W1 by rw [hW1]; exact boxed_ext _ _ _ _ _)
  have R0 := Lib.hid (show W1.rowIs w.heap.size 29 3 (tri (.slice ea N.ends.length ec) v1 v2) by rw [hW1]; exact boxed_row _ _ _ _ _)
  obtain ⟨p0, p1, p2, -, -, -⟩ := row3_facts R0.out
  rw [hW1] at p0 p1 p2
  have hmk := run_make_row' (P := Try.prog) 23 3 (.int .i64 0) 8 Try.underlying23 Try.info3 rfl .i64 .i64 N.ends.length (by omega) (by omega)
  go_enter Try.func116, Try.ntmps116
  go_wp2_with fail
  rw [← hW1]
  clear hW1 p0 p1 p2
  (with_reducible refine (distancesFrom_any x hx (HA.out.ext K0.out) HG.out).mono ?_)
  rintro e w3 ⟨ud, bd, rfl, hx3, hod, hfd⟩
  rw [← HD.out] at hod
  obtain ⟨da, dc, rfl⟩ := hod.1.slice
  have X3 := Lib.hid hx3
  have O3 := Lib.hid hod
  rw [HDL.out] at O3 ⊢
  clear hx3 hod hfd
  obtain ⟨W4, hW4⟩ : ∃ W4, W4 = w3.alloc (.cells #[.slice da N.ends.length dc] 23) := ⟨_, rfl⟩
  have X4 := Lib.hid (show Ext W1 W4 by rw [hW4]; exact X3.out.alloc' _)
  have O4 := Lib.hid (show OwnI W4 (.slice da N.ends.length dc) D bd by rw [hW4]; exact O3.out.ext ((Ext.rfl' _).alloc' _))
  obtain ⟨dp, hdp⟩ : ∃ dp, dp = w3.heap.size := ⟨_, rfl⟩
  have C4 := Lib.hid (show W4.cell? ⟨dp, 0, none⟩ = some (.slice da N.ends.length dc) by rw [hW4, hdp]; simp)
  have Z4 := Lib.hid (show W4.heap.size = w3.heap.size + 1 by rw [hW4]; simp)
  have K4 := Lib.hid (K0.out.trans' X4.out)
  obtain ⟨p0, p1, p2, -, -, -⟩ := row3_facts (row_ext R0.out X4.out)
  obtain ⟨q0, q1, q2, -, -, -⟩ := row3_facts (row_ext R0.out (X4.out.alloc' (.cells (madeCells #[.int .i64 0] N.ends.length) 3)))
  rw [hW4] at p0 p1 p2 q0 q1 q2
  go_wp2_with fail
  rw [← hW4]
  clear hW4 p0 p1 p2 q0 q1 q2 hmk
  obtain ⟨mb, hmb⟩ : ∃ mb, mb = w3.heap.size + 1 := ⟨_, rfl⟩
  have HMB := Lib.hid (show mb = W4.heap.size by rw [Z4.out]; exact hmb)
  have HGE := Lib.hid (show W4.heap.size ≤ mb by rw [Z4.out]; omega)
  rw [← hmb, ← hdp]
  clear hmb hdp
  go_loopg [19] N.ends.length (fun g i wr => ∃ k : Nat, k ≤ N.ends.length ∧ g = N.ends.length - k ∧ i = .int .i64 k ∧ Hid (Ext W4 wr ∧ wr.rowIs mb 3 N.ends.length (tabRow (spanF N (x : Int)) k)))
  case atStart => exact ⟨0, Nat.zero_le _, rfl, rfl, (Ext.rfl' _).alloc' _, by rw [HMB.out]; exact (World.rowIs_made _ _ _ _).congr fun i _ => by simp [tabRow]⟩
  case round =>
    obtain ⟨k, hk, rfl, rfl, Hr⟩ := hrel
    have Y0 := Lib.hid Hr.out.1
    have T0 := Lib.hid Hr.out.2
    have E0 := Lib.hid (K4.out.trans' Hr.out.1)
    clear Hr
    by_cases hlt : k < N.ends.length
    · obtain rfl := HEA.out (by omega)
      obtain ⟨_, hra, hrowa⟩ := HEC.out k hlt
      have HROW := Lib.hid hrowa
      obtain ⟨aa, ab, ao, ac, rfl, -, hal, ham, -⟩ := hrowa
      unfold maxLen at ham
      have x1 := E0.out.cell' hra
      have h6 := HG.out.deg k hlt
      have HRJ := Lib.hid (show ∀ t, t < (gr N.ends k).length → 0 ≤ gn (gr N.ends k) t ∧ gn (gr N.ends k) t < (N.ends.length : Int) from HG.out.leads.node k hlt)
      clear hra
      obtain ⟨wo, hwo⟩ : ∃ wo : World, wo = wr := ⟨_, rfl⟩
      subst hwo
      obtain ⟨W5, hW5⟩ : ∃ W5, W5 = wo.alloc (.cells #[.int .i64 k] 3) := ⟨_, rfl⟩
      have X5 := Lib.hid (show Ext wo W5 by rw [hW5]; exact (Ext.rfl' _).alloc' _)
      have C5 := Lib.hid (show W5.cell? ⟨wo.heap.size, 0, none⟩ = some (.int .i64 k) by rw [hW5]; simp)
      have HS := Lib.hid (show ∀ W, Ext W5 W → ∀ i : Nat, i < (gr N.ends k).length → Calls Try.prog 149 (#[.agg #[.int .i64 (gn (gr N.ends k) i), .int .i64 (gp (gr N.ends k) i)]] ++ #[.pointer (some ⟨dp, 0, none⟩), .pointer (some ⟨wo.heap.size, 0, none⟩)]) W fun e w' => e = .returned (.bool (decide (gi D (gn (gr N.ends k) i).toNat < gi D k))) ∧ Ext W w' from fun W hW i hi => by
        have hr := HRJ.out i hi
        have XW := Y0.out.trans' (X5.out.trans' hW)
        have := towardClosure_any (D := D) (dp := dp) (vp := wo.heap.size) (n := N.ends.length) (v := k) (z := (gn (gr N.ends k) i).toNat) (p := gp (gr N.ends k) i) (XW.cell' C4.out) (O4.out.ext XW) HDL.out (hW.cell' C5.out) (by omega) hlt
        rwa [Int.toNat_of_nonneg hr.1] at this)
      have mkS : ∀ w' : World, Ext W5 w' → w'.cell? ⟨wo.heap.size, 0, none⟩ = some (.int .i64 k) := fun w' h => h.cell' C5.out
      go_wp2_with fail
      rw [← hW5]
      clear hW5 x1
      refine wp_region_gate (n := 6) (S := fun w' => w'.cell? ⟨wo.heap.size, 0, none⟩ = some (.int .i64 k)) (by kernel_rfl) (mkS _ (Ext.rfl' W5).drew') (fun hHeld => ?_)
      refine wpAnyG_take (i := 0) (v := ?_) rfl (by decide +kernel) (by kernel_rfl) (by decide) (by kernel_rfl) (by kernel_rfl) (fun _ _ _ h => h) (Or.inl ⟨by kernel_rfl, ?_⟩) hHeld ?_
      rotate_left 1
      · (intro w' hSw; (try dsimp only at hSw); go_simp) <;> with_reducible rfl
      simp only [Act.put]
      refine wpAnyG_take (i := 1) (v := ?_) rfl (by decide +kernel) (by kernel_rfl) (by decide) (by kernel_rfl) (by kernel_rfl) (fun _ _ _ h => h) (Or.inl ⟨by kernel_rfl, ?_⟩) hHeld ?_
      rotate_left 1
      · (intro w' hSw; (try dsimp only at hSw); go_simp) <;> with_reducible rfl
      simp only [Act.put]
      refine wpAnyG_take (i := 2) (v := ?_) rfl (by decide +kernel) (by kernel_rfl) (by decide) (by kernel_rfl) (by kernel_rfl) (fun _ _ _ h => h) (Or.inl ⟨by kernel_rfl, ?_⟩) hHeld ?_
      rotate_left 1
      · (intro w' hSw; (try dsimp only at hSw); go_simp) <;> with_reducible rfl
      simp only [Act.put]
      refine wpAnyG_take (i := 3) (v := ?_) rfl (by decide +kernel) (by kernel_rfl) (by decide) (by kernel_rfl) (by kernel_rfl) (fun _ _ _ h => h) (Or.inl ⟨by kernel_rfl, ?_⟩) hHeld ?_
      rotate_left 1
      · (intro w' hSw; (try dsimp only at hSw); go_simp) <;> with_reducible rfl
      simp only [Act.put]
      refine wpAnyG_one (i := 4) rfl (by kernel_rfl) rfl (fun K hK => ?_)
      go_simp
      have CALL := indexFuncE_any 149 #[.pointer (some ⟨dp, 0, none⟩), .pointer (some ⟨wo.heap.size, 0, none⟩)] enters_toward (fun i => decide (gi D (gn (gr N.ends k) i).toNat < gi D k)) (HROW.out.ext (E0.out.trans' (X5.out.trans' (Ext.rfl' W5).drew'))) (by omega) fun W hW => HS.out W ((Ext.rfl' W5).drew'.trans' hW)
      have HC := Lib.hid CALL
      clear CALL
      (with_reducible refine HC.out.mono ?_)
      rintro e w6 ⟨rfl, hx6⟩
      rw [← HSF.out k]
      have X6 := Lib.hid ((Ext.rfl' W5).drew'.trans' hx6)
      have XX := Lib.hid (X5.out.trans' X6.out)
      have T6 := Lib.hid (row_ext T0.out XX.out)
      have f1 := T6.out.cell hlt
      have f2 := T6.out.frozen k
      clear hHeld hx6 HC
      refine hK.out _ _ (fun _ => mkS _ X6.out) (fun hHeld' => ?_)
      have hHeld := hHeld' (by decide)
      clear hK K hHeld'
      refine wpAnyG_one (i := 5) rfl (by kernel_rfl) rfl (fun K hK => ?_)
      go_simp
      refine hK.out _ _ (fun _ => hHeld) (fun _ => ?_)
      clear hK K
      refine wpAnyG_one (i := 6) rfl (by kernel_rfl) rfl (fun K hK => ?_)
      go_simp
      refine hK.out _ _ (fun h => absurd rfl h) (fun _ => ?_)
      clear hK K
      refine wpAnyG_done (by kernel_rfl) ?_ _
      clear hHeld mkS f1 f2
      go_wp2
      go_roundg (N.ends.length - (k + 1))
      case measure => omega
      case rel => exact ⟨k + 1, by omega, rfl, by go_num, (Y0.out.trans' XX.out).store HGE.out _, tabRow_step T6.out⟩
    · obtain rfl : k = N.ends.length := by omega
      have HR := Lib.hid (tabRow_num T0.out)
      go_wp2
      go_ret
      exact ⟨_, [mb], rfl, E0.out, num_own HR.out (tab_len _ _) (by omega) (span_in HG.out _), by simp, fun y hy => by
        simp only [List.mem_singleton] at hy
        subst hy
        have := HGE.out; have := K4.out.size; omega⟩

set_option maxHeartbeats 6400000 in
set_option maxRecDepth 100000 in
theorem meToward_any {w : World} {vn vd : Value} {N : Net} {D : List Int} (v : Nat) (hv : v < N.ends.length) (h : NetAt w vn N) (hd : IntSl w vd D) (hG : GoodW N) (hDl : D.length = N.ends.length) (hDr : ∀ i, i < N.ends.length → -1 ≤ gi D i ∧ gi D i < 41) :
    Calls Try.prog 147 #[vn, vd, .int .i64 v] w fun e w' => e = .returned (.int .i64 (spanQ N D v)) ∧ Ext w w' := by
  have HA := Lib.hid h
  obtain ⟨v0, v1, v2, rfl, hEa, -, -⟩ := h
  clear hEa
  have HG := Lib.hid hG
  have HDR := Lib.hid hDr
  have HSQ := Lib.hid (show spanQ N D v = idxP (fun i => decide (0 < gi D v ∧ gi D (gn (gr N.ends v) i).toNat = gi D v - 1)) (gr N.ends v).length from rfl)
  clear hG hDr
  have hA40 := HG.out.most
  have h6 := HG.out.deg v hv
  have HRJ := Lib.hid (show ∀ t, t < (gr N.ends v).length → 0 ≤ gn (gr N.ends v) t ∧ gn (gr N.ends v) t < (N.ends.length : Int) from HG.out.leads.node v hv)
  obtain ⟨da, db, dq, dc, rfl, hda, hdl, hdm, hdc⟩ := hd
  unfold maxLen at hdm
  rw [hDl] at hda hdl ⊢
  obtain rfl := hda (by omega)
  have HDC := Lib.hid (show ∀ i, i < N.ends.length → w.cell? ⟨db, dq + i, none⟩ = some (.int .i64 (gi D i)) from fun i hi => by
    obtain ⟨_, h1, rfl, -⟩ := hdc i (by omega)
    exact h1)
  clear hda hdc hDl
  obtain ⟨W1, hW1⟩ : ∃ W1, W1 = w.alloc (.cells #[v0, v1, v2] 29) := ⟨_, rfl⟩
  have K0 := Lib.hid (show Ext w W1 by rw [hW1]; exact boxed_ext _ _ _ _ _)
  have R0 := Lib.hid (show W1.rowIs w.heap.size 29 3 (tri v0 v1 v2) by rw [hW1]; exact boxed_row _ _ _ _ _)
  obtain ⟨p0, p1, p2, -, -, -⟩ := row3_facts R0.out
  rw [hW1] at p0 p1 p2
  go_enter Try.func147, Try.ntmps147
  go_wp2_with fail
  rw [← hW1]
  clear hW1 p0 p1 p2
  (with_reducible refine (neNear_any v hv (HA.out.ext K0.out) (by omega)).mono ?_)
  rintro e wn ⟨nv, nbs, rfl, hxn, hon, hfn⟩
  obtain ⟨na, nb0, no, nc, rfl, hna, hnl, hnm, hnc⟩ := hon.read
  unfold maxLen at hnm
  rw [length_nears] at hna hnl
  have HNA := Lib.hid hna
  have HNC := Lib.hid (show ∀ j, j < (gr N.ends v).length → wn.cell? ⟨nb0, no + j, none⟩ = some (.int .i64 (gn (gr N.ends v) j)) from fun j hj => by
    obtain ⟨_, h1, rfl, -⟩ := hnc j (by rw [length_nears]; exact hj)
    rw [gi_nears _ _ hj] at h1
    exact h1)
  have KN := Lib.hid (K0.out.trans' hxn)
  clear hna hnc hon hfn hxn
  go_wp2_with fail
  rw [length_nears] at *
  go_loopg [13] (gr N.ends v).length (fun g i wx => ∃ j : Nat, j ≤ (gr N.ends v).length ∧ g = (gr N.ends v).length - j ∧ i = .int .i64 j ∧ Hid (Ext wn wx ∧ ∀ t, t < j → decide (0 < gi D v ∧ gi D (gn (gr N.ends v) t).toNat = gi D v - 1) = false))
  case atStart => exact ⟨0, Nat.zero_le _, rfl, rfl, Ext.rfl' _, fun t ht => absurd ht (by omega)⟩
  case round =>
    obtain ⟨j, hj, rfl, rfl, Ht⟩ := hrel
    have Y1 := Lib.hid Ht.out.1
    have Q1 := Lib.hid Ht.out.2
    have F1 := Lib.hid (KN.out.trans' Y1.out)
    clear Ht
    by_cases hjt : j < (gr N.ends v).length
    · obtain rfl := HNA.out (by omega)
      have f1 := HNC.out j hjt
      have hl0 := HRJ.out j hjt
      obtain ⟨zz, hzz⟩ := Int.eq_ofNat_of_zero_le hl0.1
      have hzzn : zz < N.ends.length := by omega
      rw [hzz] at f1
      have HZZ := Lib.hid (show (gn (gr N.ends v) j).toNat = zz by rw [hzz, Int.toNat_natCast])
      clear hzz hl0
      have s1 := Y1.out.cell' f1
      have t2 := F1.out.cell' (HDC.out zz hzzn)
      have t4 := F1.out.cell' (HDC.out v hv)
      have hr2 := HDR.out zz hzzn
      have hr4 := HDR.out v hv
      obtain ⟨cz, hcz⟩ : ∃ c, c = gi D zz := ⟨_, rfl⟩
      obtain ⟨cv, hcv⟩ : ∃ c, c = gi D v := ⟨_, rfl⟩
      rw [← hcz] at t2 hr2
      rw [← hcv] at t4 hr4
      have HQ := Lib.hid (show decide (0 < gi D v ∧ gi D (gn (gr N.ends v) j).toNat = gi D v - 1) = decide (0 < cv ∧ cz = cv - 1) by rw [HZZ.out, hcz, hcv])
      have P1 : ∀ x' : Wx wr, x'.w.cell? ⟨db, dq + zz, none⟩ = some (.int .i64 cz) := fun x' => x'.ok.cell' t2
      have P2 : ∀ x' : Wx wr, x'.w.cell? ⟨db, dq + v, none⟩ = some (.int .i64 cv) := fun x' => x'.ok.cell' t4
      clear f1 hcz hcv t2 t4
      by_cases hp : 0 < cv
      · have hb1 : decide (cv > 0) = true := by simpa using hp
        go_wp2_with fail
        clear s1
        refine wp_region_ext (by kernel_rfl) (by kernel_rfl) ?_
        repeat (go_big_quiet_step (fail))
        refine wpQuiet_nil ?_
        rintro wq ⟨⟨_, hz2⟩, rfl⟩
        have E3 := Lib.hid hz2
        clear hz2 P1 P2
        by_cases hee : cz = cv - 1
        · have HI := Lib.hid (show spanQ N D v = (j : Int) by
            rw [HSQ.out]
            exact idxP_hit Q1.out (by rw [HQ.out]; exact decide_eq_true ⟨hp, hee⟩) _ hjt)
          have hbq : (cz == cv - 1) = true := by simpa using hee
          clear hee
          go_wp2
          go_ret
          exact ⟨ret_iZ HI.out.symm, F1.out.trans' E3.out⟩
        · have Q2 := Lib.hid (show ∀ t, t < j + 1 → decide (0 < gi D v ∧ gi D (gn (gr N.ends v) t).toNat = gi D v - 1) = false from fun t ht => by
            by_cases e : t = j
            · subst e; rw [HQ.out]; exact decide_eq_false fun h => hee h.2
            · exact Q1.out t (by omega))
          have hbq : (cz == cv - 1) = false := beq_eq_false_iff_ne.2 hee
          clear hee
          go_wp2
          go_roundg ((gr N.ends v).length - (j + 1))
          case measure => omega
          case rel => exact ⟨j + 1, by omega, rfl, by go_num, Y1.out.trans' E3.out, Q2.out⟩
      · have hb1 : decide (cv > 0) = false := by simpa using hp
        have Q2 := Lib.hid (show ∀ t, t < j + 1 → decide (0 < gi D v ∧ gi D (gn (gr N.ends v) t).toNat = gi D v - 1) = false from fun t ht => by
          by_cases e : t = j
          · subst e; rw [HQ.out]; exact decide_eq_false fun h => hp h.1
          · exact Q1.out t (by omega))
        go_wp2_with fail
        clear s1
        refine wp_region_ext (by kernel_rfl) (by kernel_rfl) ?_
        repeat (go_big_quiet_step (fail))
        refine wpQuiet_nil ?_
        rintro wq ⟨⟨_, hz2⟩, rfl⟩
        have E3 := Lib.hid hz2
        clear hz2 P1 P2
        go_wp2
        go_roundg ((gr N.ends v).length - (j + 1))
        case measure => omega
        case rel => exact ⟨j + 1, by omega, rfl, by go_num, Y1.out.trans' E3.out, Q2.out⟩
    · obtain rfl : j = (gr N.ends v).length := by omega
      have HI := Lib.hid (show spanQ N D v = -1 by rw [HSQ.out]; exact idxP_none _ Q1.out)
      go_wp2
      go_ret
      exact ⟨ret_iZ HI.out.symm, F1.out⟩

set_option maxHeartbeats 6400000 in
set_option maxRecDepth 100000 in
theorem meSpan_any {w : World} {vn : Value} {N : Net} (x : Nat) (hx : x < N.ends.length) (h : NetAt w vn N) (hGD : Good N) :
    Calls Try.prog 115 #[vn, .int .i64 x] w fun e w' => ∃ v' bs, e = .returned v' ∧ Ext w w' ∧ OwnI w' v' (span N x) bs ∧ Fresh w bs := by
  have HA := Lib.hid h
  have HG := Lib.hid (good_w hGD)
  have HSE := Lib.hid (show ∀ v, v < N.ends.length → spanQ N (dst N (x : Int)) v = spanF N (x : Int) v from fun v hv => span_eq hGD (by omega) hv)
  clear hGD
  have hA1 := HG.out.one
  have hA40 := HG.out.most
  have HDL := Lib.hid (dst_small HG.out (x := (x : Int)) (by omega))
  obtain ⟨D, hD⟩ : ∃ D, D = dst N (x : Int) := ⟨_, rfl⟩
  have HD := Lib.hid hD
  rw [← hD] at HDL HSE
  clear hD
  obtain ⟨v0, v1, v2, rfl, hEa, -, -⟩ := h
  obtain ⟨ea, eb, eo, ec, rfl, hea, hel, hem, hec⟩ := hEa
  unfold maxLen at hem
  clear hea hec
  obtain ⟨i0, hi, hz0, hz1, hz2⟩ := info_parts Try.info3
  have I0 := Lib.hid (And.intro hi (And.intro hz0 (And.intro hz1 hz2)))
  clear hi hz0 hz1 hz2
  obtain ⟨W1, hW1⟩ : ∃ W1, W1 = w.alloc (.cells #[.slice ea N.ends.length ec, v1, v2] 29) := ⟨_, rfl⟩
  have K0 := Lib.hid (show Ext w W1 by rw [hW1]; exact boxed_ext _ _ _ _ _)
  have R0 := Lib.hid (show W1.rowIs w.heap.size 29 3 (tri (.slice ea N.ends.length ec) v1 v2) by rw [hW1]; exact boxed_row _ _ _ _ _)
  obtain ⟨p0, p1, p2, -, -, -⟩ := row3_facts R0.out
  rw [hW1] at p0 p1 p2
  go_enter Try.func115, Try.ntmps115
  go_wp2_with fail
  rw [← hW1]
  clear hW1 p0 p1 p2
  (with_reducible refine (meFrom_any x hx (HA.out.ext K0.out) HG.out).mono ?_)
  rintro e wz ⟨ud, bd, rfl, hxz, hoz, hfz⟩
  rw [← HD.out] at hoz
  obtain ⟨da, dc, rfl⟩ := hoz.1.slice
  have XZ := Lib.hid hxz
  have KZ := Lib.hid (K0.out.trans' hxz)
  have RZ := Lib.hid (row_ext R0.out hxz)
  have OZ := Lib.hid hoz
  rw [HDL.out.1] at OZ ⊢
  obtain ⟨p0, p1, p2, -, -, -⟩ := row3_facts RZ.out
  clear hxz hoz hfz
  go_wp2_with fail
  clear p0 p1 p2
  go_loopg [6, 14] N.ends.length (fun g s i wr => ∃ k : Nat, k ≤ N.ends.length ∧ g = N.ends.length - k ∧ i = .int .i64 k ∧ Hid (Ext wz wr ∧ GrowN wz.heap.size wr s (tab (spanF N (x : Int)) k)))
  case atStart => exact ⟨0, Nat.zero_le _, rfl, rfl, Ext.rfl' _, GrowN.nil _ _⟩
  case round =>
    obtain ⟨k, hk, rfl, rfl, Hr⟩ := hrel
    have X0 := Lib.hid Hr.out.1
    have T0 := Lib.hid Hr.out.2
    have E0 := Lib.hid (KZ.out.trans' Hr.out.1)
    clear Hr
    by_cases hlt : k < N.ends.length
    · obtain ⟨p0, p1, p2, -, -, -⟩ := row3_facts (row_ext RZ.out X0.out)
      have RD := Lib.hid (OZ.out.ext X0.out).read
      go_wp2_with fail
      clear p0 p1 p2
      (with_reducible refine (meToward_any k hlt (HA.out.ext E0.out) RD.out HG.out HDL.out.1 (fun i hi => by have := HDL.out.2 i hi; omega)).mono ?_)
      rintro e w0l ⟨rfl, hx0l⟩
      rw [HSE.out k hlt]
      have X1 := Lib.hid (X0.out.trans' hx0l)
      have T1 := Lib.hid (T0.out.ext hx0l)
      have hsz := X1.out.size
      have hS : (tab (spanF N (x : Int)) k).length ≤ k := by rw [tab_len]; exact Nat.le_refl _
      have HSU := Lib.hid (tab_succ (spanF N (x : Int)) k)
      obtain ⟨z, hz⟩ : ∃ z, z = spanF N (x : Int) k := ⟨_, rfl⟩
      rw [← hz] at HSU ⊢
      clear hx0l hz
      go_wp2_with (first | (at_builtin; refine wpList_app2 rfl (.tmp 17) (.tmp 22) 23 rfl wz.heap.size 3 i0 (.int .i64 0) 1 8 Try.underlying23 I0.out.1 I0.out.2.1 I0.out.2.2.1 I0.out.2.2.2 rfl (by decide) _ (tab (spanF N (x : Int)) k).length (intCells (tab (spanF N (x : Int)) k)) rfl (T1.out.ext ((Ext.rfl' _).alloc' _)) (some ⟨w0l.heap.size, 0, none⟩) 1 1 (intCells [z]) rfl (src_lits w0l [z] 1 rfl 3) (by unfold maxLen; omega) (by omega) (by simp; omega) ?_))
      intro v' w4 hg
      have gx := T1.out.ext ((Ext.rfl' w0l).alloc' (.cells #[.int .i64 z] 3))
      have FI := Lib.hid (show Ext wz w4 ∧ GrowN wz.heap.size w4 v' (tab (spanF N (x : Int)) k ++ [z]) from
        ⟨grown_ext (X1.out.alloc' _) (Nat.le_refl _) gx hg.1.2.1, GrowN.step hg.1 rfl⟩)
      clear hg gx
      go_wp2
      go_roundg (N.ends.length - (k + 1))
      case measure => omega
      case rel => exact ⟨k + 1, by omega, rfl, by go_num, FI.out.1, by rw [HSU.out]; exact FI.out.2⟩
    · obtain rfl : k = N.ends.length := by omega
      go_wp2
      go_ret
      obtain ⟨bs, ho, hn, hb⟩ := T0.out.own (span_in HG.out _)
      exact ⟨_, bs, rfl, E0.out, ho, hn, fun b hb' => by have := hb b hb'; have := KZ.out.size; omega⟩

set_option maxHeartbeats 6400000 in
set_option maxRecDepth 100000 in
theorem spanX_any {w : World} {vn : Value} {N : Net} (x : Int) (h : NetAt w vn N) :
    Calls Try.prog 64 #[vn, .int .i64 x] w fun e w' => ∃ v' bs, e = .returned (.tuple #[v', .bool (dec (NodeAns N x))]) ∧ Ext w w' ∧ OwnI w' v' (ansOf (NodeAns N x) (span N x)) bs ∧ Fresh w bs := by
  have HA := Lib.hid h
  obtain ⟨v0, v1, v2, rfl, hEa, -, -⟩ := h
  clear hEa
  obtain ⟨W1, hW1⟩ : ∃ W1, W1 = w.alloc (.cells #[v0, v1, v2] 29) := ⟨_, rfl⟩
  have K0 := Lib.hid (show Ext w W1 by rw [hW1]; exact boxed_ext _ _ _ _ _)
  have R0 := Lib.hid (show W1.rowIs w.heap.size 29 3 (tri (v0) v1 v2) by rw [hW1]; exact boxed_row _ _ _ _ _)
  obtain ⟨p0, p1, p2, -, -, -⟩ := row3_facts R0.out
  rw [hW1] at p0 p1 p2
  by_cases hg0 : Good N
  case neg =>
    have G0 := Lib.hid (dec_false hg0)
    have D := Lib.hid (dec_false (p := NodeAns N x) fun h => hg0 (h.1))
    have NB := Lib.hid (show ¬ (NodeAns N x) from fun h => hg0 (h.1))
    clear hg0
    go_enter Try.func64, Try.ntmps64
    go_wp2_with fail
    rw [← hW1]
    clear hW1 p0 p1 p2
    (with_reducible refine (isNetwork_any (HA.out.ext K0.out)).mono ?_)
    rintro e w1g ⟨rfl, hxg⟩
    rw [G0.out]
    have K1 := Lib.hid (K0.out.trans' hxg)
    have R1 := Lib.hid (row_ext R0.out hxg)
    clear hxg
    obtain ⟨p0, p1, p2, -, -, -⟩ := row3_facts R1.out
    go_wp2
    go_ret2
    exact ⟨_, [], ret_mb D.out.symm, K1.out, by rw [ansOf_f NB.out]; exact own_nilI _, Fresh.nil _⟩
  have G0 := Lib.hid (dec_true hg0)
  have H0 := Lib.hid hg0
  clear hg0
  by_cases hg1 : NodeOK N x
  case neg =>
    have G1 := Lib.hid (dec_false hg1)
    have D := Lib.hid (dec_false (p := NodeAns N x) fun h => hg1 (h.2))
    have NB := Lib.hid (show ¬ (NodeAns N x) from fun h => hg1 (h.2))
    clear hg1
    go_enter Try.func64, Try.ntmps64
    go_wp2_with fail
    rw [← hW1]
    clear hW1 p0 p1 p2
    (with_reducible refine (isNetwork_any (HA.out.ext K0.out)).mono ?_)
    rintro e w1g ⟨rfl, hxg⟩
    rw [G0.out]
    have K1 := Lib.hid (K0.out.trans' hxg)
    have R1 := Lib.hid (row_ext R0.out hxg)
    clear hxg
    obtain ⟨p0, p1, p2, -, -, -⟩ := row3_facts R1.out
    go_wp2_with fail
    clear p0 p1 p2
    (with_reducible refine (hasNode_any _ (HA.out.ext K1.out)).mono ?_)
    rintro e w2g ⟨rfl, hxg⟩
    rw [G1.out]
    have K2 := Lib.hid (K1.out.trans' hxg)
    have R2 := Lib.hid (row_ext R1.out hxg)
    clear hxg
    obtain ⟨p0, p1, p2, -, -, -⟩ := row3_facts R2.out
    go_wp2
    go_ret2
    exact ⟨_, [], ret_mb D.out.symm, K2.out, by rw [ansOf_f NB.out]; exact own_nilI _, Fresh.nil _⟩
  have G1 := Lib.hid (dec_true hg1)
  have H1 := Lib.hid hg1
  clear hg1
  have HB := Lib.hid (show NodeAns N x from ⟨H0.out, H1.out⟩)
  have D := Lib.hid (dec_true HB.out)
  obtain ⟨xk, rfl, hxk⟩ := node_natZ HB.out
  have HGD := Lib.hid (show Good N from HB.out.1)
  have HG := Lib.hid (good_w HGD.out)
  go_enter Try.func64, Try.ntmps64
  go_wp2_with fail
  rw [← hW1]
  clear hW1 p0 p1 p2
  (with_reducible refine (isNetwork_any (HA.out.ext K0.out)).mono ?_)
  rintro e w1g ⟨rfl, hxg⟩
  rw [G0.out]
  have K1 := Lib.hid (K0.out.trans' hxg)
  have R1 := Lib.hid (row_ext R0.out hxg)
  clear hxg
  obtain ⟨p0, p1, p2, -, -, -⟩ := row3_facts R1.out
  go_wp2_with fail
  clear p0 p1 p2
  (with_reducible refine (hasNode_any _ (HA.out.ext K1.out)).mono ?_)
  rintro e w2g ⟨rfl, hxg⟩
  rw [G1.out]
  have K2 := Lib.hid (K1.out.trans' hxg)
  have R2 := Lib.hid (row_ext R1.out hxg)
  clear hxg
  obtain ⟨p0, p1, p2, -, -, -⟩ := row3_facts R2.out
  go_wp2_with fail
  clear p0 p1 p2
  (with_reducible refine (portsTowards_any xk hxk (HA.out.ext K2.out) HG.out).mono ?_)
  rintro e wz ⟨ud, bd, rfl, hxz, hoz, hfz⟩
  have KZ := Lib.hid (K2.out.trans' hxz)
  have OZ := Lib.hid hoz
  have FZ := Lib.hid (hfz.of K2.out.size)
  clear hxz hoz hfz
  go_wp2
  go_ret2
  exact ⟨_, bd, ret_mb D.out.symm, KZ.out, by rw [ansOf_t HB.out]; exact OZ.out, FZ.out⟩
set_option maxHeartbeats 6400000 in
set_option maxRecDepth 100000 in
theorem specSpan_any {w : World} {vn : Value} {N : Net} (x : Int) (h : NetAt w vn N) :
    Calls Try.prog 63 #[vn, .int .i64 x] w fun e w' => ∃ v' bs, e = .returned (.tuple #[v', .bool (dec (NodeAns N x))]) ∧ Ext w w' ∧ OwnI w' v' (ansOf (NodeAns N x) (span N x)) bs ∧ Fresh w bs := by
  have HA := Lib.hid h
  obtain ⟨v0, v1, v2, rfl, hEa, -, -⟩ := h
  clear hEa
  obtain ⟨W1, hW1⟩ : ∃ W1, W1 = w.alloc (.cells #[v0, v1, v2] 29) := ⟨_, rfl⟩
  have K0 := Lib.hid (show Ext w W1 by rw [hW1]; exact boxed_ext _ _ _ _ _)
  have R0 := Lib.hid (show W1.rowIs w.heap.size 29 3 (tri (v0) v1 v2) by rw [hW1]; exact boxed_row _ _ _ _ _)
  obtain ⟨p0, p1, p2, -, -, -⟩ := row3_facts R0.out
  rw [hW1] at p0 p1 p2
  by_cases hg0 : NodeAns N x
  case neg =>
    have G0 := Lib.hid (dec_false hg0)
    have D := Lib.hid (dec_false (p := NodeAns N x) fun h => hg0 (h))
    have NB := Lib.hid (show ¬ (NodeAns N x) from fun h => hg0 (h))
    clear hg0
    go_enter Try.func63, Try.ntmps63
    go_wp2_with fail
    rw [← hW1]
    clear hW1 p0 p1 p2
    (with_reducible refine (neNode_any _ (HA.out.ext K0.out)).mono ?_)
    rintro e w1g ⟨rfl, hxg⟩
    rw [G0.out]
    have K1 := Lib.hid (K0.out.trans' hxg)
    have R1 := Lib.hid (row_ext R0.out hxg)
    clear hxg
    obtain ⟨p0, p1, p2, -, -, -⟩ := row3_facts R1.out
    go_wp2
    go_ret2
    exact ⟨_, [], ret_mb D.out.symm, K1.out, by rw [ansOf_f NB.out]; exact own_nilI _, Fresh.nil _⟩
  have G0 := Lib.hid (dec_true hg0)
  have H0 := Lib.hid hg0
  clear hg0
  have HB := Lib.hid (show NodeAns N x from H0.out)
  have D := Lib.hid (dec_true HB.out)
  obtain ⟨xk, rfl, hxk⟩ := node_natZ HB.out
  have HGD := Lib.hid (show Good N from HB.out.1)
  have HG := Lib.hid (good_w HGD.out)
  go_enter Try.func63, Try.ntmps63
  go_wp2_with fail
  rw [← hW1]
  clear hW1 p0 p1 p2
  (with_reducible refine (neNode_any _ (HA.out.ext K0.out)).mono ?_)
  rintro e w1g ⟨rfl, hxg⟩
  rw [G0.out]
  have K1 := Lib.hid (K0.out.trans' hxg)
  have R1 := Lib.hid (row_ext R0.out hxg)
  clear hxg
  obtain ⟨p0, p1, p2, -, -, -⟩ := row3_facts R1.out
  go_wp2_with fail
  clear p0 p1 p2
  (with_reducible refine (meSpan_any xk hxk (HA.out.ext K1.out) HGD.out).mono ?_)
  rintro e wz ⟨ud, bd, rfl, hxz, hoz, hfz⟩
  have KZ := Lib.hid (K1.out.trans' hxz)
  have OZ := Lib.hid hoz
  have FZ := Lib.hid (hfz.of K1.out.size)
  clear hxz hoz hfz
  go_wp2
  go_ret2
  exact ⟨_, bd, ret_mb D.out.symm, KZ.out, by rw [ansOf_t HB.out]; exact OZ.out, FZ.out⟩
end Go.Proofs.Ytkeiaahlifdbiaa
