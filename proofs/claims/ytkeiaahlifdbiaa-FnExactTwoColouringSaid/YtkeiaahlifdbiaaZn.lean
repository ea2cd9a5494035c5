/- TwoColouring, the model's. -/
import Derived.Test.YtkeiaahlifdbiaaZm
namespace Go.Proofs.Ytkeiaahlifdbiaa
open Go.RowKit

set_option maxHeartbeats 6400000 in
set_option maxRecDepth 100000 in
theorem meTwo_any {w : World} {vn : Value} {N : Net} (h : NetAt w vn N) (hGD : Good N) :
    Calls Try.prog 114 #[vn] w fun e w' => ∃ v' bs, e = .returned (.tuple #[v', .bool (dec (TwoB N))]) ∧ Ext w w' ∧ OwnI w' v' (ansOf (TwoB N) (cols N)) bs ∧ Fresh w bs := by
  have HA := Lib.hid h
  obtain ⟨v0, v1, v2, rfl, hEa, -, -⟩ := h
  obtain ⟨ea, eb, eo, ec, rfl, hea, hel, hem, hec⟩ := hEa
  unfold maxLen at hem
  clear hea hec
  have HGD := Lib.hid hGD
  have HG := Lib.hid (good_w hGD)
  clear hGD
  have hA1 := HG.out.one
  have hA40 := HG.out.most
  have HPL := Lib.hid (show (parts N).length = N.ends.length from tab_len _ _)
  obtain ⟨W1, hW1⟩ : ∃ W1, W1 = w.alloc (.cells #[.slice ea N.ends.length ec, v1, v2] 29) := ⟨_, rfl⟩
  have K0 := Lib.hid (show Ext w W1 by rw [hW1]; exact boxed_ext _ _ _ _ _)
  have R0 := Lib.hid (show W1.rowIs w.heap.size 29 3 (tri (.slice ea N.ends.length ec) v1 v2) by rw [hW1]; exact boxed_row _ _ _ _ _)
  have Z1 := Lib.hid (show W1.heap.size = w.heap.size + 1 by rw [hW1]; simp)
  have hmk := run_make_row' (P := Try.prog) 23 3 (.int .i64 0) 8 Try.underlying23 Try.info3 rfl .i64 .i64 N.ends.length (by omega) (by omega)
  obtain ⟨W2, hW2⟩ : ∃ W2, W2 = W1.alloc (.cells (madeCells #[.int .i64 0] N.ends.length) 3) := ⟨_, rfl⟩
  obtain ⟨mb, hmb⟩ : ∃ mb, mb = w.heap.size + 1 := ⟨_, rfl⟩
  have X2 := Lib.hid (show Ext W1 W2 by rw [hW2]; exact (Ext.rfl' _).alloc' _)
  have HMB := Lib.hid (show mb = W1.heap.size by rw [Z1.out]; exact hmb)
  have HGE := Lib.hid (show W1.heap.size ≤ mb by rw [Z1.out]; omega)
  have TT := Lib.hid (show W2.rowIs mb 3 N.ends.length (tabRow (colF N) 0) by rw [hW2, HMB.out]; exact (World.rowIs_made _ _ _ _).congr fun i _ => by simp [tabRow])
  have HMZ := Lib.hid (show mb < W2.heap.size from TT.out.lt)
  obtain ⟨p0, p1, p2, -, -, -⟩ := row3_facts (row_ext R0.out X2.out)
  rw [hW2, hW1] at p0 p1 p2
  go_enter Try.func114, Try.ntmps114
  go_wp2_with fail
  rw [← hW1, ← hW2, ← hmb]
  clear hW1 hW2 hmb p0 p1 p2 hmk
  (with_reducible refine (meParts_any (HA.out.ext (K0.out.trans' X2.out)) HG.out).mono ?_)
  rintro e wz ⟨ud, bd, rfl, hxz, hoz, hfz⟩
  obtain ⟨pa, pc, rfl⟩ := hoz.1.slice
  have XZ := Lib.hid (X2.out.trans' hxz)
  have TZ := Lib.hid (row_ext TT.out hxz)
  have OZ := Lib.hid hoz
  have NB := Lib.hid (show mb ∉ bd from fun hb => by have := hfz.2 mb hb; have := HMZ.out; omega)
  rw [HPL.out] at OZ ⊢
  clear hxz hoz hfz
  go_wp2_with fail
  go_loopg [18] N.ends.length (fun g i wr => ∃ k : Nat, k ≤ N.ends.length ∧ g = N.ends.length - k ∧ i = .int .i64 k ∧ Hid (Ext W1 wr ∧ wr.rowIs mb 3 N.ends.length (tabRow (colF N) k) ∧ OwnI wr (.slice pa N.ends.length pc) (parts N) bd))
  case atStart => exact ⟨0, Nat.zero_le _, rfl, rfl, XZ.out, TZ.out, OZ.out⟩
  case round =>
    obtain ⟨k, hk, rfl, rfl, Hr⟩ := hrel
    have X0 := Lib.hid Hr.out.1
    have T0 := Lib.hid Hr.out.2.1
    have P0 := Lib.hid Hr.out.2.2
    have E0 := Lib.hid (K0.out.trans' Hr.out.1)
    clear Hr
    by_cases hlt : k < N.ends.length
    · obtain ⟨pa', pb, po, pc', e, ha, hl, hm, hcn⟩ := P0.out.read
      simp only [Value.slice.injEq] at e
      obtain ⟨rfl, -, rfl⟩ := e
      rw [HPL.out] at ha hl
      obtain rfl := ha (by omega)
      obtain ⟨_, hn1, rfl, _⟩ := hcn k (by rw [HPL.out]; exact hlt)
      unfold maxLen at hm
      obtain ⟨z, hz⟩ := Int.eq_ofNat_of_zero_le (less_range HG.out hlt).1
      have hzn : z < N.ends.length := by have := (less_range HG.out hlt).2; omega
      rw [show gi (parts N) k = lessL (wk N (k : Int)) from gi_tab hlt, hz] at hn1
      have HLZ := Lib.hid hz
      clear hcn ha hz
      obtain ⟨q0, q1, q2, -, -, -⟩ := row3_facts (row_ext R0.out X0.out)
      have mkS : ∀ w' : World, Ext wr w' → w'.cell? ⟨w.heap.size, 0, none⟩ = some (.slice ea N.ends.length ec) ∧ w'.cell? ⟨w.heap.size, 1, none⟩ = some v1 ∧ w'.cell? ⟨w.heap.size, 2, none⟩ = some v2 ∧ w'.cell? ⟨pb, po + k, none⟩ = some (.int .i64 z) := fun w' h => ⟨h.cell' q0, h.cell' q1, h.cell' q2, h.cell' hn1⟩
      go_wp2_with fail
      clear q0 q1 q2 hn1
      refine wp_region_gate (n := 13) (S := fun w' => w'.cell? ⟨w.heap.size, 0, none⟩ = some (.slice ea N.ends.length ec) ∧ w'.cell? ⟨w.heap.size, 1, none⟩ = some v1 ∧ w'.cell? ⟨w.heap.size, 2, none⟩ = some v2 ∧ w'.cell? ⟨pb, po + k, none⟩ = some (.int .i64 z)) (by kernel_rfl) (mkS _ (Ext.rfl' wr).drew') (fun hHeld => ?_)
      refine wpAnyG_take (i := 0) (v := ?_) rfl (by decide +kernel) (by kernel_rfl) (by decide) (by kernel_rfl) (by kernel_rfl) (fun _ _ _ h => h) (Or.inl ⟨by kernel_rfl, ?_⟩) hHeld ?_
      rotate_left 1
      · (intro w' hSw; (try dsimp only at hSw); go_simp) <;> with_reducible rfl
      simp only [Act.put]
      refine wpAnyG_take (i := 1) (v := ?_) rfl (by decide +kernel) (by kernel_rfl) (by decide) (by kernel_rfl) (by kernel_rfl) (fun _ _ _ h => h) (Or.inl ⟨by kernel_rfl, ?_⟩) hHeld ?_
      rotate_left 1
      · (intro w' hSw; (try dsimp only at hSw); go_simp) <;> with_reducible rfl
      simp only [Act.put]
      refine wpAnyG_take (i := 2) (v := ?_) rfl (by decide +kernel) (by kernel_rfl) (by decide) (by kernel_rfl) (by kernel_rfl) (fun _ _ _ h => h) (Or.inl ⟨by kernel_rfl, ?_⟩) hHeld ?_
      rotate_left 1
      · (intro w' hSw; (try dsimp only at hSw); go_simp) <;> with_reducible rfl
      simp only [Act.put]
      refine wpAnyG_take (i := 3) (v := ?_) rfl (by decide +kernel) (by kernel_rfl) (by decide) (by kernel_rfl) (by kernel_rfl) (fun _ _ _ h => h) (Or.inl ⟨by kernel_rfl, ?_⟩) hHeld ?_
      rotate_left 1
      · (intro w' hSw; (try dsimp only at hSw); go_simp) <;> with_reducible rfl
      simp only [Act.put]
      refine wpAnyG_take (i := 4) (v := ?_) rfl (by decide +kernel) (by kernel_rfl) (by decide) (by kernel_rfl) (by kernel_rfl) (fun _ _ _ h => h) (Or.inl ⟨by kernel_rfl, ?_⟩) hHeld ?_
      rotate_left 1
      · (intro w' hSw; (try dsimp only at hSw); go_simp) <;> with_reducible rfl
      simp only [Act.put]
      refine wpAnyG_take (i := 5) (v := ?_) rfl (by decide +kernel) (by kernel_rfl) (by decide) (by kernel_rfl) (by kernel_rfl) (fun _ _ _ h => h) (Or.inl ⟨by kernel_rfl, ?_⟩) hHeld ?_
      rotate_left 1
      · (intro w' hSw; (try dsimp only at hSw); go_simp) <;> with_reducible rfl
      simp only [Act.put]
      refine wpAnyG_take (i := 6) (v := ?_) rfl (by decide +kernel) (by kernel_rfl) (by decide) (by kernel_rfl) (by kernel_rfl) (fun _ _ _ h => h) (Or.inl ⟨by kernel_rfl, ?_⟩) hHeld ?_
      rotate_left 1
      · (intro w' hSw; (try dsimp only at hSw); go_simp) <;> with_reducible rfl
      simp only [Act.put]
      refine wpAnyG_take (i := 8) (v := ?_) rfl (by decide +kernel) (by kernel_rfl) (by decide) (by kernel_rfl) (by kernel_rfl) (fun _ _ _ h => h) (Or.inl ⟨by kernel_rfl, ?_⟩) hHeld ?_
      rotate_left 1
      · (intro w' hSw; (try dsimp only at hSw); go_simp) <;> with_reducible rfl
      simp only [Act.put]
      refine wpAnyG_one (i := 7) rfl (by kernel_rfl) rfl (fun K hK => ?_)
      go_simp
      (with_reducible refine (meFrom_any z hzn (HA.out.ext (E0.out.trans' (Ext.rfl' wr).drew')) HG.out).mono ?_)
      rintro e w3 ⟨ud, bd3, rfl, hx3, hod, hfr⟩
      have HDL := Lib.hid (dst_small HG.out (x := (z : Int)) (by omega))
      obtain ⟨_, db, dq, dc, rfl, ha2, hl2, hm2, hc2⟩ := hod.read
      rw [HDL.out.1] at ha2 hl2
      obtain rfl := ha2 (by omega)
      obtain ⟨_, hq, rfl, -⟩ := hc2 k (by rw [HDL.out.1]; exact hlt)
      unfold maxLen at hm2
      have hyr := HDL.out.2 k hlt
      have HCF := Lib.hid (show colF N k = (gi (dst N (z : Int)) k).tmod 2 by unfold colF; rw [HLZ.out])
      rw [HDL.out.1]
      obtain ⟨y, hy⟩ : ∃ y, y = gi (dst N (z : Int)) k := ⟨_, rfl⟩
      rw [← hy] at hq hyr HCF
      have hy2 := tmod_small hyr.1
      have X3 := Lib.hid ((Ext.rfl' wr).drew'.trans' hx3)
      have T3 := Lib.hid (row_ext T0.out X3.out)
      have P3 := Lib.hid (P0.out.ext X3.out)
      have f1 := T3.out.cell hlt
      have f2 := T3.out.frozen k
      clear hHeld hx3 hod hfr ha2 hc2 hy
      refine hK.out _ _ (fun _ => mkS _ X3.out) (fun hHeld' => ?_)
      have hHeld := hHeld' (by decide)
      clear hK K hHeld'
      refine wpAnyG_one (i := 9) rfl (by kernel_rfl) rfl (fun K hK => ?_)
      go_simp
      refine hK.out _ _ (fun _ => hHeld) (fun _ => ?_)
      clear hK K
      refine wpAnyG_one (i := 10) rfl (by kernel_rfl) rfl (fun K hK => ?_)
      go_simp
      refine hK.out _ _ (fun _ => hHeld) (fun _ => ?_)
      clear hK K
      refine wpAnyG_one (i := 11) rfl (by kernel_rfl) rfl (fun K hK => ?_)
      go_simp
      refine hK.out _ _ (fun _ => hHeld) (fun _ => ?_)
      clear hK K
      refine wpAnyG_one (i := 12) rfl (by kernel_rfl) rfl (fun K hK => ?_)
      go_simp
      refine hK.out _ _ (fun _ => hHeld) (fun _ => ?_)
      clear hK K
      refine wpAnyG_one (i := 13) rfl (by kernel_rfl) rfl (fun K hK => ?_)
      go_simp
      refine hK.out _ _ (fun h => absurd rfl h) (fun _ => ?_)
      clear hK K
      refine wpAnyG_done (by kernel_rfl) ?_ _
      clear hHeld mkS f1 f2 hq
      go_wp2
      go_roundg (N.ends.length - (k + 1))
      case measure => omega
      case rel => exact ⟨k + 1, by omega, rfl, by go_num, (X0.out.trans' X3.out).store HGE.out _, by have := tabRow_step T3.out; rw [HCF.out] at this; exact this, keep_off P3.out NB.out⟩
    · obtain rfl : k = N.ends.length := by omega
      have HR := Lib.hid (tabRow_num T0.out)
      obtain ⟨C, hC⟩ : ∃ C, C = cols N := ⟨_, rfl⟩
      have HC := Lib.hid hC
      have HCL := Lib.hid (show C.length = N.ends.length by rw [hC]; exact tab_len _ _)
      have HCI := Lib.hid (cols_in HG.out)
      rw [← hC] at HCI
      have HRC := Lib.hid (show wr.rowIs mb 3 N.ends.length (numRow C) by rw [hC]; exact HR.out)
      have HTB := Lib.hid (show TwoB N ↔ ∀ v, v < N.ends.length → RowP N C v by rw [hC]; exact ⟨fun h => h.2, fun h => ⟨HGD.out, h⟩⟩)
      clear hC
      obtain ⟨wo, hwo⟩ : ∃ wo : World, wo = wr := ⟨_, rfl⟩
      subst hwo
      go_wp2_with fail
      go_loopg [37] N.ends.length (fun g i wx => ∃ k : Nat, k ≤ N.ends.length ∧ g = N.ends.length - k ∧ i = .int .i64 k ∧ Hid (Ext wo wx ∧ ∀ v, v < k → RowP N C v))
      case atStart => exact ⟨0, Nat.zero_le _, rfl, rfl, Ext.rfl' _, fun v hv => absurd hv (by omega)⟩
      case round =>
        obtain ⟨v, hk, rfl, rfl, Hs⟩ := hrel
        have Y0 := Lib.hid Hs.out.1
        have Q0 := Lib.hid Hs.out.2
        have F0 := Lib.hid (E0.out.trans' Y0.out)
        have XR := Lib.hid (X0.out.trans' Y0.out)
        clear Hs
        by_cases hvn : v < N.ends.length
        · have h6 := HG.out.deg v hvn
          have HRJ := Lib.hid (show ∀ t, t < (gr N.ends v).length → 0 ≤ gn (gr N.ends v) t ∧ gn (gr N.ends v) t < (N.ends.length : Int) from HG.out.leads.node v hvn)
          obtain ⟨p0, p1, p2, -, -, -⟩ := row3_facts (row_ext R0.out XR.out)
          obtain ⟨wv, hwv⟩ : ∃ wv : World, wv = wr := ⟨_, rfl⟩
          subst hwv
          go_wp2_with fail
          clear p0 p1 p2
          (with_reducible refine (neNear_any v hvn (HA.out.ext F0.out) (by omega)).mono ?_)
          rintro e wn ⟨nv, nbs, rfl, hxn, hon, hfn⟩
          obtain ⟨na, nb0, no, nc, rfl, hna, hnl, hnm, hnc⟩ := hon.read
          unfold maxLen at hnm
          rw [length_nears] at hna hnl
          have HNA := Lib.hid hna
          have HNC := Lib.hid hnc
          have YN := Lib.hid (Y0.out.trans' hxn)
          clear hna hnc hon hfn hxn
          go_wp2_with fail
          rw [length_nears] at *
          go_loopg [44] (gr N.ends v).length (fun g i wx => ∃ j : Nat, j ≤ (gr N.ends v).length ∧ g = (gr N.ends v).length - j ∧ i = .int .i64 j ∧ Hid (Ext wn wx ∧ ∀ t, t < j → gi C (gn (gr N.ends v) t).toNat ≠ gi C v))
          case atStart => exact ⟨0, Nat.zero_le _, rfl, rfl, Ext.rfl' _, fun t ht => absurd ht (by omega)⟩
          case round =>
            obtain ⟨j, hj, rfl, rfl, Ht⟩ := hrel
            have Y1 := Lib.hid Ht.out.1
            have Q1 := Lib.hid Ht.out.2
            have Y2 := Lib.hid (YN.out.trans' Y1.out)
            have F1 := Lib.hid (E0.out.trans' Y2.out)
            clear Ht
            by_cases hjt : j < (gr N.ends v).length
            · obtain rfl := HNA.out (by omega)
              obtain ⟨_, f1, rfl, -⟩ := HNC.out j hjt
              rw [gi_nears _ _ hjt] at f1
              have hl0 := HRJ.out j hjt
              obtain ⟨zz, hzz⟩ := Int.eq_ofNat_of_zero_le hl0.1
              have hzzn : zz < N.ends.length := by omega
              rw [hzz] at f1
              have HZZ := Lib.hid (show (gn (gr N.ends v) j).toNat = zz by rw [hzz, Int.toNat_natCast])
              clear hzz hl0
              have s1 := Y1.out.cell' f1
              have t2 := (row_ext HRC.out Y2.out).cell hzzn
              have t4 := (row_ext HRC.out Y2.out).cell hvn
              unfold numRow at t2 t4
              obtain ⟨cz, hcz⟩ : ∃ c, c = gi C zz := ⟨_, rfl⟩
              obtain ⟨cv, hcv⟩ : ∃ c, c = gi C v := ⟨_, rfl⟩
              rw [← hcz] at t2
              rw [← hcv] at t4
              have HCZ := Lib.hid (show gi C (gn (gr N.ends v) j).toNat = cz by rw [HZZ.out, hcz])
              have HCV := Lib.hid hcv.symm
              have P1 : ∀ x' : Wx wr, x'.w.cell? ⟨mb, zz, none⟩ = some (.int .i64 cz) := fun x' => x'.ok.cell' t2
              have P2 : ∀ x' : Wx wr, x'.w.cell? ⟨mb, v, none⟩ = some (.int .i64 cv) := fun x' => x'.ok.cell' t4
              clear f1 hcz hcv t2 t4
              go_wp2_with fail
              clear s1
              refine wp_region_ext (by kernel_rfl) (by kernel_rfl) ?_
              repeat (go_big_quiet_step (fail))
              refine wpQuiet_nil ?_
              rintro wq ⟨⟨_, hz2⟩, rfl⟩
              have E3 := Lib.hid hz2
              clear hz2 P1 P2
              by_cases hee : cz = cv
              · have NB := Lib.hid (show ¬ TwoB N from fun h => (HTB.out.1 h) v hvn j hjt (by rw [HCZ.out, HCV.out]; exact hee))
                have hbq : (cv == cz) = true := by rw [hee]; simp
                clear hee
                go_wp2
                go_ret2
                exact ⟨_, [], ret_mb (dec_false NB.out).symm, F1.out.trans' E3.out, by rw [ansOf_f NB.out]; exact own_nilI _, Fresh.nil _⟩
              · have Q2 := Lib.hid (show ∀ t, t < j + 1 → gi C (gn (gr N.ends v) t).toNat ≠ gi C v from fun t ht => by
                  by_cases e : t = j
                  · subst e; rw [HCZ.out, HCV.out]; exact hee
                  · exact Q1.out t (by omega))
                have hbq : (cv == cz) = false := beq_eq_false_iff_ne.2 fun h => hee h.symm
                clear hee
                go_wp2
                go_roundg ((gr N.ends v).length - (j + 1))
                case measure => omega
                case rel => exact ⟨j + 1, by omega, rfl, by go_num, Y1.out.trans' E3.out, Q2.out⟩
            · have Q2 := Lib.hid (show ∀ u, u < v + 1 → RowP N C u from fun u hu => by
                by_cases e : u = v
                · subst e; exact fun t ht => Q1.out t (by omega)
                · exact Q0.out u (by omega))
              go_wp2
              go_roundg (N.ends.length - (v + 1))
              case measure => omega
              case rel => exact ⟨v + 1, by omega, rfl, by go_num, Y2.out, Q2.out⟩
        · obtain rfl : v = N.ends.length := by omega
          have HB := Lib.hid (HTB.out.2 Q0.out)
          have HRF := Lib.hid (row_ext HRC.out Y0.out)
          go_wp2
          go_ret2
          exact ⟨_, [mb], ret_mb (dec_true HB.out).symm, F0.out, by rw [ansOf_t HB.out, ← HC.out]; exact num_own HRF.out HCL.out (by omega) HCI.out, by simp, fun y hy => by
            simp only [List.mem_singleton] at hy
            subst hy
            have := HGE.out; have := K0.out.size; omega⟩
set_option maxHeartbeats 6400000 in
set_option maxRecDepth 100000 in
theorem specTwo_any {w : World} {vn : Value} {N : Net} (h : NetAt w vn N) :
    Calls Try.prog 61 #[vn] w fun e w' => ∃ v' bs, e = .returned (.tuple #[v', .bool (dec (TwoB N))]) ∧ Ext w w' ∧ OwnI w' v' (ansOf (TwoB N) (cols N)) bs ∧ Fresh w bs := by
  have HA := Lib.hid h
  obtain ⟨v0, v1, v2, rfl, hEa, -, -⟩ := h
  clear hEa
  obtain ⟨W1, hW1⟩ : ∃ W1, W1 = w.alloc (.cells #[v0, v1, v2] 29) := ⟨_, rfl⟩
  have K0 := Lib.hid (show Ext w W1 by rw [hW1]; exact boxed_ext _ _ _ _ _)
  have R0 := Lib.hid (show W1.rowIs w.heap.size 29 3 (tri (v0) v1 v2) by rw [hW1]; exact boxed_row _ _ _ _ _)
  obtain ⟨p0, p1, p2, -, -, -⟩ := row3_facts R0.out
  rw [hW1] at p0 p1 p2
  by_cases hg0 : Good N
  case neg =>
    have G0 := Lib.hid (dec_false hg0)
    have D := Lib.hid (dec_false (p := TwoB N) fun h => hg0 (h.1))
    have NB := Lib.hid (show ¬ (TwoB N) from fun h => hg0 (h.1))
    clear hg0
    go_enter Try.func61, Try.ntmps61
    go_wp2_with fail
    rw [← hW1]
    clear hW1 p0 p1 p2
    (with_reducible refine (neGood_any (HA.out.ext K0.out)).mono ?_)
    rintro e w1g ⟨rfl, hxg⟩
    rw [G0.out]
    have K1 := Lib.hid (K0.out.trans' hxg)
    have R1 := Lib.hid (row_ext R0.out hxg)
    clear hxg
    obtain ⟨p0, p1, p2, -, -, -⟩ := row3_facts R1.out
    go_wp2
    go_ret2
    exact ⟨_, [], ret_mb D.out.symm, K1.out, by rw [ansOf_f NB.out]; exact own_nilI _, Fresh.nil _⟩
  have G0 := Lib.hid (dec_true hg0)
  have H0 := Lib.hid hg0
  clear hg0
  go_enter Try.func61, Try.ntmps61
  go_wp2_with fail
  rw [← hW1]
  clear hW1 p0 p1 p2
  (with_reducible refine (neGood_any (HA.out.ext K0.out)).mono ?_)
  rintro e w1g ⟨rfl, hxg⟩
  rw [G0.out]
  have K1 := Lib.hid (K0.out.trans' hxg)
  have R1 := Lib.hid (row_ext R0.out hxg)
  clear hxg
  obtain ⟨p0, p1, p2, -, -, -⟩ := row3_facts R1.out
  go_wp2_with fail
  clear p0 p1 p2
  (with_reducible refine (meTwo_any (HA.out.ext K1.out) H0.out).mono ?_)
  rintro e wz ⟨ud, bd, rfl, hxz, hoz, hfz⟩
  have KZ := Lib.hid (K1.out.trans' hxz)
  have OZ := Lib.hid hoz
  have FZ := Lib.hid (hfz.of K1.out.size)
  clear hxz hoz hfz
  go_wp2
  go_ret2
  exact ⟨_, bd, rfl, KZ.out, OZ.out, FZ.out⟩
end Go.Proofs.Ytkeiaahlifdbiaa
