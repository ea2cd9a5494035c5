/- The model's GirthOf. -/
import Derived.Test.YtkeiaahlifdbiaaZgi
import Derived.Test.YtkeiaahlifdbiaaZdk
namespace Go.Proofs.Ytkeiaahlifdbiaa
open Go.RowKit

theorem gRow_stub {N : Net} {v j : Nat} {g : Int} (h : IsStub N v j) : gRow N v g (j + 1) = gRow N v g j := by simp only [gRow]; rw [if_pos h]
theorem gRow_go {N : Net} {v j : Nat} {g : Int} (h : ¬ IsStub N v j) : gRow N v g (j + 1) = gStep (gRow N v g j) (avd N v j) := by simp only [gRow]; rw [if_neg h]

set_option maxHeartbeats 12800000 in
set_option maxRecDepth 100000 in
theorem meAvoid_any {w : World} {vn : Value} {N : Net} (v i : Nat) (hv : v < N.ends.length) (hi : i < (gr N.ends v).length) (h : NetAt w vn N) (hg : Good N) :
    Calls Try.prog 143 #[vn, .int .i64 v, .int .i64 i] w fun e w' => e = .returned (.int .i64 (avd N v i)) ∧ Ext w w' := by
  have HA := Lib.hid h
  have HG := Lib.hid hg
  obtain ⟨v0, v1, v2, rfl, hEa, -, -⟩ := h
  obtain ⟨ea, eb, eq, ec, rfl, hea, hel, hem, hec⟩ := hEa
  unfold maxLen at hem
  have h1 : 1 ≤ N.ends.length := hg.1.1
  have h40 : N.ends.length ≤ 40 := hg.1.2
  have h6 := (good_rows hg) v hv
  obtain ⟨x, y, hot⟩ := oth hg hv hi
  have HOT := Lib.hid hot
  have hx := hot.hw
  have hy := hot.hj
  have HS := Lib.hid (fun (u k : Nat) (hu : u < N.ends.length) (hk : k < (gr N.ends u).length) => st0_set hg hv hi hot.n1 hot.p1 hu hk)
  have HGM := Lib.hid (good_w (wo_good hg v i))
  have hvM : v < (woE N v i).ends.length := by rw [wo_len]; exact hv
  have hxM : x < (woE N v i).ends.length := by rw [wo_len]; exact hx
  obtain rfl := hea (by omega)
  obtain ⟨z, hz, ra, rb, rq, rc, rfl, hra, hrl, hrm, hrc⟩ := hec v hv
  unfold maxLen at hrm
  obtain rfl := hra (by omega)
  obtain ⟨hq1, hq2, -⟩ := hrc i hi
  rw [hot.n1] at hq1
  rw [hot.p1] at hq2
  clear hec hea hra hrc hot hg
  obtain ⟨W1, hW1⟩ : ∃ W1, W1 = w.alloc (.cells #[.slice (some ⟨eb, eq, none⟩) N.ends.length ec, v1, v2] 29) := ⟨_, rfl⟩
  have K0 := Lib.hid (show Ext w W1 by rw [hW1]; exact boxed_ext _ _ _ _ _)
  have R0 := Lib.hid (show W1.rowIs w.heap.size 29 3 (tri (.slice (some ⟨eb, eq, none⟩) N.ends.length ec) v1 v2) by rw [hW1]; exact boxed_row _ _ _ _ _)
  have Z1 := Lib.hid (show W1.heap.size = w.heap.size + 1 by rw [hW1]; simp)
  obtain ⟨W2, hW2⟩ : ∃ W2, W2 = W1.alloc (.cells #[.int .i64 x, .int .i64 y] 66) := ⟨_, rfl⟩
  have X2 := Lib.hid (show Ext W1 W2 by rw [hW2]; exact (Ext.rfl' _).alloc' _)
  have D2 := Lib.hid (show W2.rowIs W1.heap.size 66 2 (duok (.int .i64 x) (.int .i64 y)) by rw [hW2]; exact duo_madek _ _ _ _)
  obtain ⟨pe, hpe⟩ : ∃ pe, pe = w.heap.size + 1 := ⟨_, rfl⟩
  have HPE := Lib.hid (show W1.heap.size = pe by rw [Z1.out]; exact hpe.symm)
  obtain ⟨p0, p1, p2, -, -, -⟩ := row3_facts R0.out
  obtain ⟨t0, t1, t2, -, -, -⟩ := row3_facts (row_ext R0.out X2.out)
  have z1 := K0.out.cell' hz
  have z2 := K0.out.cell' hq1
  have z3 := K0.out.cell' hq2
  rw [hW1] at p0 p1 p2 z1 z2 z3
  rw [hW2, hW1] at t0 t1 t2
  clear hz hq1 hq2
  go_enter Try.func143, Try.ntmps143
  go_wp2_with fail
  rw [← hW1, ← hW2, ← hpe]
  clear hW1 hW2 p0 p1 p2 t0 t1 t2 z1 z2 z3 hpe
  (with_reducible refine (neAll_any (HA.out.ext (K0.out.trans' X2.out)) HG.out).mono ?_)
  rintro e w2 ⟨v', q, rfl, hA⟩
  obtain ⟨b, c, rfl, hbc, hcm, hcell⟩ := hA.keeps.form h1
  unfold maxLen at hcm
  have hqs : q v < w2.heap.size := (hA.rows v hv).lt
  have gx := hA.ge v hv
  have ge' := hA.ge x hx
  have KA := Lib.hid (hA.keeps.set (i := i) hv)
  have r1 := (hA.rows v hv).cell hi
  have r2 := (hA.rows v hv).frozen i
  have c1 := hcell v hv
  have K2 := Lib.hid (show Ext W2 (w2.setCell ⟨q v, i, none⟩ (.bool false)) from hA.ext.store gx _)
  have GE := Lib.hid ge'
  clear hA gx ge' hqs hcell
  obtain ⟨b', c', hv', -, -, hcell⟩ := KA.out.form h1
  obtain ⟨rfl, rfl⟩ : b = b' ∧ c = c' := by simpa using hv'
  have k1 := hcell x hx
  obtain ⟨e0, e1, -, -⟩ := duo_factsk (row_ext D2.out K2.out)
  rw [HPE.out] at e0 e1
  have t1 := (KA.out.rows x hx).cell hy
  have t2 := (KA.out.rows x hx).frozen y
  clear hcell hv'
  go_upto_region 4 with fail
  clear c1 r1 r2
  have KC := Lib.hid ((KA.out.set (i := y) hx).ext (Ext.rfl' _).drew')
  have KX : Hid (Ext W2 (((w2.setCell ⟨q v, i, none⟩ (.bool false)).setCell ⟨q x, y, none⟩ (.bool false)).drew)) := (K2.out.store (by show W2.heap.size ≤ q x; exact GE.out) _).drew'
  go_region
  clear t1 t2 k1 e0 e1
  revert KC KX
  generalize ((w2.setCell ⟨q v, i, none⟩ (.bool false)).setCell ⟨q x, y, none⟩ (.bool false)).drew = W5
  intro KC KX
  have HK := Lib.hid ((KC.out.reads HG.out).congr HS.out)
  have K5 := Lib.hid (K0.out.trans' (X2.out.trans' KX.out))
  obtain ⟨p0, p1, p2, -, -, -⟩ := row3_facts (row_ext R0.out (X2.out.trans' KX.out))
  obtain ⟨e0, e1, -, -⟩ := duo_factsk (row_ext D2.out KX.out)
  rw [HPE.out] at e0 e1
  have mkS : ∀ w' : World, Ext W5 w' → w'.cell? ⟨w.heap.size, 0, none⟩ = some (.slice (some ⟨eb, eq, none⟩) N.ends.length ec) ∧ w'.cell? ⟨w.heap.size, 1, none⟩ = some v1 ∧ w'.cell? ⟨w.heap.size, 2, none⟩ = some v2 ∧ w'.cell? ⟨pe, 0, none⟩ = some (.int .i64 x) := fun w' h => ⟨h.cell' p0, h.cell' p1, h.cell' p2, h.cell' e0⟩
  go_wp2_with fail
  clear p0 p1 p2 e0 e1
  refine wp_region_gate (n := 9) (S := fun w' => w'.cell? ⟨w.heap.size, 0, none⟩ = some (.slice (some ⟨eb, eq, none⟩) N.ends.length ec) ∧ w'.cell? ⟨w.heap.size, 1, none⟩ = some v1 ∧ w'.cell? ⟨w.heap.size, 2, none⟩ = some v2 ∧ w'.cell? ⟨pe, 0, none⟩ = some (.int .i64 x)) (by kernel_rfl) (mkS _ (Ext.rfl' W5).drew') (fun hHeld => ?_)
  refine wpAnyG_take (i := 0) (v := ?_) rfl (by decide +kernel) (by kernel_rfl) (by decide) (by kernel_rfl) (by kernel_rfl) (fun _ _ _ h => h) (Or.inl ⟨by kernel_rfl, ?_⟩) hHeld ?_
  rotate_left 1
  · (intro w' hSw; (try dsimp only at hSw); go_simp) <;> with_reducible rfl
  simp only [Act.put]
  refine wpAnyG_take (i := 1) (v := ?_) rfl (by decide +kernel) (by kernel_rfl) (by decide) (by kernel_rfl) (by kernel_rfl) (fun _ _ _ h => h) (Or.inl ⟨by kernel_rfl, ?_⟩) hHeld ?_
  rotate_left 1
  · (intro w' hSw; (try dsimp only at hSw); go_simp) <;> with_reducible rfl
  simp only [Act.put]
  refine wpAnyG_take (i := 3) (v := ?_) rfl (by decide +kernel) (by kernel_rfl) (by decide) (by kernel_rfl) (by kernel_rfl) (fun _ _ _ h => h) (Or.inl ⟨by kernel_rfl, ?_⟩) hHeld ?_
  rotate_left 1
  · (intro w' hSw; (try dsimp only at hSw); go_simp) <;> with_reducible rfl
  simp only [Act.put]
  refine wpAnyG_take (i := 5) (v := ?_) rfl (by decide +kernel) (by kernel_rfl) (by decide) (by kernel_rfl) (by kernel_rfl) (fun _ _ _ h => h) (Or.inl ⟨by kernel_rfl, ?_⟩) hHeld ?_
  rotate_left 1
  · (intro w' hSw; (try dsimp only at hSw); go_simp) <;> with_reducible rfl
  simp only [Act.put]
  refine wpAnyG_take (i := 6) (v := ?_) rfl (by decide +kernel) (by kernel_rfl) (by decide) (by kernel_rfl) (by kernel_rfl) (fun _ _ _ h => h) (Or.inl ⟨by kernel_rfl, ?_⟩) hHeld ?_
  rotate_left 1
  · (intro w' hSw; (try dsimp only at hSw); go_simp) <;> with_reducible rfl
  simp only [Act.put]
  refine wpAnyG_one (i := 2) rfl (by kernel_rfl) rfl (fun K hK => ?_)
  go_simp
  (with_reducible refine (neCut_any (HA.out.ext (K5.out.trans' (Ext.rfl' W5).drew')) (HK.out.ext (Ext.rfl' W5).drew') HG.out).mono ?_)
  rintro e w6 ⟨z', bs6, rfl, hx6, ho6, hf6⟩
  have X6 := Lib.hid ((Ext.rfl' W5).drew'.trans' hx6)
  have O6 := Lib.hid (show NetAt w6 z' (woE N v i) from ho6.read)
  clear hHeld hx6 ho6 hf6
  refine hK.out _ _ (fun _ => mkS _ X6.out) (fun hHeld' => ?_)
  have hHeld := hHeld' (by decide)
  clear hK K hHeld'
  refine wpAnyG_one (i := 4) rfl (by kernel_rfl) rfl (fun K hK => ?_)
  go_simp
  (with_reducible refine (meFrom_any v hvM O6.out HGM.out).mono ?_)
  rintro e w7 ⟨ud, bd7, rfl, hx7, hod, hfr⟩
  have HDL := Lib.hid (dst_small HGM.out (x := (v : Int)) (by omega))
  obtain ⟨_, db, dq, dc, rfl, ha2, hl2, hm2, hc2⟩ := hod.read
  rw [HDL.out.1] at ha2 hl2
  obtain rfl := ha2 (by omega)
  obtain ⟨_, hq, rfl, -⟩ := hc2 x (by rw [HDL.out.1]; exact hxM)
  unfold maxLen at hm2
  rw [HDL.out.1]
  have HAV := Lib.hid (show avd N v i = gi (dst (woE N v i) (v : Int)) x by unfold avd; rw [HOT.out.n1, Int.toNat_natCast])
  rw [← HAV.out] at hq
  have X7 := Lib.hid (X6.out.trans' hx7)
  clear hHeld hx7 hod hfr ha2 hc2
  refine hK.out _ _ (fun _ => mkS _ X7.out) (fun hHeld' => ?_)
  have hHeld := hHeld' (by decide)
  clear hK K hHeld'
  refine wpAnyG_one (i := 7) rfl (by kernel_rfl) rfl (fun K hK => ?_)
  go_simp
  refine hK.out _ _ (fun _ => hHeld) (fun _ => ?_)
  clear hK K
  refine wpAnyG_one (i := 8) rfl (by kernel_rfl) rfl (fun K hK => ?_)
  go_simp
  refine hK.out _ _ (fun _ => hHeld) (fun _ => ?_)
  clear hK K
  refine wpAnyG_one (i := 9) rfl (by kernel_rfl) rfl (fun K hK => ?_)
  go_simp
  refine hK.out _ _ (fun h => absurd rfl h) (fun _ => ?_)
  clear hK K
  refine wpAnyG_done (by kernel_rfl) ?_ _
  clear hHeld mkS hq
  go_wp2
  go_ret
  exact ⟨rfl, K5.out.trans' X7.out⟩

set_option maxHeartbeats 12800000 in
set_option maxRecDepth 100000 in
theorem meGirth_any {w : World} {vn : Value} {N : Net} (h : NetAt w vn N) (hg : Good N) :
    Calls Try.prog 110 #[vn] w fun e w' => e = .returned (.int .i64 (girth N)) ∧ Ext w w' := by
  have HA := Lib.hid h
  have HG := Lib.hid hg
  obtain ⟨v0, v1, v2, rfl, hEa, -, -⟩ := h
  obtain ⟨ea, eb, eo, ec, rfl, hea, hel, hem, hec⟩ := hEa
  unfold maxLen at hem
  have HEA := Lib.hid hea
  have HEC := Lib.hid hec
  have h40 : N.ends.length ≤ 40 := hg.1.2
  have HFIN := Lib.hid (show gTo N N.ends.length = girth N from rfl)
  clear hea hec hg
  obtain ⟨W1, hW1⟩ : ∃ W1, W1 = w.alloc (.cells #[.slice ea N.ends.length ec, v1, v2] 29) := ⟨_, rfl⟩
  have K0 := Lib.hid (show Ext w W1 by rw [hW1]; exact boxed_ext _ _ _ _ _)
  have R0 := Lib.hid (show W1.rowIs w.heap.size 29 3 (tri (.slice ea N.ends.length ec) v1 v2) by rw [hW1]; exact boxed_row _ _ _ _ _)
  obtain ⟨p0, p1, p2, -, -, -⟩ := row3_facts R0.out
  rw [hW1] at p0 p1 p2
  go_enter Try.func110, Try.ntmps110
  go_wp2_with fail
  rw [← hW1]
  clear hW1 p0 p1 p2
  go_loopg [3, 11] N.ends.length (fun g s i wr => ∃ k : Nat, k ≤ N.ends.length ∧ g = N.ends.length - k ∧ i = .int .i64 k ∧ s = .int .i64 (gTo N k) ∧ Hid (Ext W1 wr))
  case atStart => exact ⟨0, Nat.zero_le _, rfl, rfl, rfl, Ext.rfl' _⟩
  case round =>
    obtain ⟨v, hk, rfl, rfl, rfl, Y0⟩ := hrel
    have F0 := Lib.hid (K0.out.trans' Y0.out)
    by_cases hvn : v < N.ends.length
    · obtain rfl := HEA.out (by omega)
      obtain ⟨_, hra, hrowa⟩ := HEC.out v hvn
      obtain ⟨aa, ab, ao, ac, rfl, haa, hal, ham, hac⟩ := hrowa
      unfold maxLen at ham
      have HAA := Lib.hid haa
      have HAC := Lib.hid hac
      have x1 := F0.out.cell' hra
      have h6 := good_rows HG.out v hvn
      obtain ⟨p0, p1, p2, -, -, -⟩ := row3_facts (row_ext R0.out Y0.out)
      have HGT := Lib.hid (show gTo N (v + 1) = gRow N v (gTo N v) (gr N.ends v).length from rfl)
      have HGR := Lib.hid (gTo_range HG.out v (by omega))
      obtain ⟨g0, hg0⟩ : ∃ g0, g0 = gTo N v := ⟨_, rfl⟩
      rw [← hg0] at HGT HGR ⊢
      clear haa hac hra hg0
      obtain ⟨wv, hwv⟩ : ∃ wv : World, wv = wr := ⟨_, rfl⟩
      subst hwv
      go_wp2_with fail
      clear x1 p0 p1 p2
      go_loopg [3, 20] (gr N.ends v).length (fun g s i wx => ∃ j : Nat, j ≤ (gr N.ends v).length ∧ g = (gr N.ends v).length - j ∧ i = .int .i64 j ∧ s = .int .i64 (gRow N v g0 j) ∧ Hid (Ext W1 wx))
      case atStart => exact ⟨0, Nat.zero_le _, rfl, rfl, rfl, Y0.out⟩
      case round =>
        obtain ⟨j, hj, rfl, rfl, rfl, Y1⟩ := hrel
        have F1 := Lib.hid (K0.out.trans' Y1.out)
        by_cases hjt : j < (gr N.ends v).length
        · obtain rfl := HAA.out (by omega)
          obtain ⟨f1, f2, -⟩ := HAC.out j hjt
          obtain ⟨x, y, hot⟩ := oth HG.out hvn hjt
          have hx := hot.hw
          have hy := hot.hj
          have hy6 := good_rows HG.out x hx
          rw [hot.n1] at f1
          rw [hot.p1] at f2
          have s1 := F1.out.cell' f1
          have s2 := F1.out.cell' f2
          have HST := Lib.hid (show IsStub N v j ↔ (x = v ∧ y = j) by unfold IsStub; rw [hot.n1, hot.p1]; omega)
          have HR0 := Lib.hid (fun (k : IsStub N v j) => gRow_stub (g := g0) k)
          have HRG := Lib.hid (fun (k : ¬ IsStub N v j) => gRow_go (g := g0) k)
          have hgr := gRow_range HG.out hvn HGR.out j hj
          obtain ⟨gg, hgg⟩ : ∃ gg, gg = gRow N v g0 j := ⟨_, rfl⟩
          rw [← hgg] at HR0 HRG hgr ⊢
          obtain ⟨W2, hW2⟩ : ∃ W2, W2 = wr.alloc (.cells #[.int .i64 x, .int .i64 y] 66) := ⟨_, rfl⟩
          have E2 := Lib.hid (show Ext W1 W2 by rw [hW2]; exact Y1.out.alloc' _)
          have R2 := Lib.hid (show W2.rowIs wr.heap.size 66 2 (duok (.int .i64 x) (.int .i64 y)) by rw [hW2]; exact duo_madek _ _ _ _)
          have F2 := Lib.hid (K0.out.trans' E2.out)
          obtain ⟨r0, r1, -, -⟩ := duo_factsk R2.out
          obtain ⟨p0, p1, p2, -, -, -⟩ := row3_facts (row_ext R0.out E2.out)
          clear f1 f2 hot hgg
          go_upto_region 8 with fail
          rw [← hW2]
          clear hW2 s1 s2
          by_cases hs : x = v ∧ y = j
          · have HR1 := Lib.hid (show gRow N v g0 (j + 1) = gg from HR0.out (HST.out.2 hs))
            obtain ⟨rfl, rfl⟩ := hs
            go_wp2
            go_roundg ((gr N.ends x).length - (y + 1))
            case measure => omega
            case rel => exact ⟨y + 1, by omega, rfl, by go_num, by rw [HR1.out], E2.out⟩
          · have HR1 := Lib.hid (show gRow N v g0 (j + 1) = gStep gg (avd N v j) from HRG.out fun k => hs (HST.out.1 k))
            have HNS := Lib.hid hs
            go_cut [29] from 24 to 30 (fun t29 wx => t29 = .bool false ∧ wx = W2)
            case first =>
              go_wp2
              all_goals first | (exfalso; have := HNS.out; omega) | go_meet
              all_goals exact ⟨rfl, rfl⟩
            obtain ⟨rfl, rfl⟩ := hcut
            clear hs r0 r1
            go_wp2_with fail
            clear p0 p1 p2
            (with_reducible refine (meAvoid_any v j hvn hjt (HA.out.ext F2.out) HG.out).mono ?_)
            rintro e w3 ⟨rfl, hx3⟩
            have E3 := Lib.hid (E2.out.trans' hx3)
            have hdr := avd_range HG.out hvn hjt
            clear hx3
            obtain ⟨d, hd⟩ : ∃ d, d = avd N v j := ⟨_, rfl⟩
            rw [← hd] at hdr HR1 ⊢
            clear hd
            by_cases e1 : d = -1
            · have hb1 : decide (d ≥ 0) = false := decide_eq_false (by omega)
              have HS := Lib.hid (show gRow N v g0 (j + 1) = gg by rw [HR1.out]; unfold gStep; rw [if_neg (by omega)])
              go_wp2
              go_roundg ((gr N.ends v).length - (j + 1))
              case measure => omega
              case rel => exact ⟨j + 1, by omega, rfl, by go_num, by rw [HS.out], E3.out⟩
            · have hb1 : decide (d ≥ 0) = true := decide_eq_true (by omega)
              by_cases e2 : gg = 0
              · have hb2 : (gg == 0) = true := by simpa using e2
                have HS := Lib.hid (show gRow N v g0 (j + 1) = d + 1 by rw [HR1.out]; unfold gStep; rw [if_pos (by omega)])
                clear e2
                go_wp2
                go_roundg ((gr N.ends v).length - (j + 1))
                case measure => omega
                case rel => exact ⟨j + 1, by omega, rfl, by go_num, by rw [HS.out], E3.out⟩
              · have hb2 : (gg == 0) = false := beq_eq_false_iff_ne.2 e2
                by_cases e3 : d + 1 < gg
                · have hb3 : decide (d + 1 < gg) = true := decide_eq_true e3
                  have HS := Lib.hid (show gRow N v g0 (j + 1) = d + 1 by rw [HR1.out]; unfold gStep; rw [if_pos (by omega)])
                  go_wp2
                  go_roundg ((gr N.ends v).length - (j + 1))
                  case measure => omega
                  case rel => exact ⟨j + 1, by omega, rfl, by go_num, by rw [HS.out], E3.out⟩
                · have hb3 : decide (d + 1 < gg) = false := decide_eq_false e3
                  have HS := Lib.hid (show gRow N v g0 (j + 1) = gg by rw [HR1.out]; unfold gStep; rw [if_neg (by omega)])
                  go_wp2
                  go_roundg ((gr N.ends v).length - (j + 1))
                  case measure => omega
                  case rel => exact ⟨j + 1, by omega, rfl, by go_num, by rw [HS.out], E3.out⟩
        · obtain rfl : j = (gr N.ends v).length := by omega
          go_wp2
          go_roundg (N.ends.length - (v + 1))
          case measure => omega
          case rel => exact ⟨v + 1, by omega, rfl, by go_num, by rw [HGT.out], Y1.out⟩
    · obtain rfl : v = N.ends.length := by omega
      go_wp2
      go_ret
      exact ⟨by rw [← HFIN.out]; rfl, F0.out⟩

set_option maxHeartbeats 3200000 in
set_option maxRecDepth 100000 in
theorem specGirth_any {w : World} {vn : Value} {N : Net} (h : NetAt w vn N) :
    Calls Try.prog 55 #[vn] w fun e w' => e = .returned (.tuple #[.int .i64 (gAns N), .bool (dec (GirB N))]) ∧ Ext w w' := by
  have HA := Lib.hid h
  obtain ⟨v0, v1, v2, rfl, hEa, -, -⟩ := h
  clear hEa
  obtain ⟨W1, hW1⟩ : ∃ W1, W1 = w.alloc (.cells #[v0, v1, v2] 29) := ⟨_, rfl⟩
  have K0 := Lib.hid (show Ext w W1 by rw [hW1]; exact boxed_ext _ _ _ _ _)
  have R0 := Lib.hid (show W1.rowIs w.heap.size 29 3 (tri v0 v1 v2) by rw [hW1]; exact boxed_row _ _ _ _ _)
  obtain ⟨p0, p1, p2, -, -, -⟩ := row3_facts R0.out
  rw [hW1] at p0 p1 p2
  by_cases hg : Good N
  case neg =>
    have G := Lib.hid (dec_false hg)
    have D := Lib.hid (dec_false (show ¬ GirB N from fun k => hg k.1))
    have A := Lib.hid (gAns_f hg)
    clear hg
    go_enter Try.func55, Try.ntmps55
    go_wp2_with fail
    rw [← hW1]
    clear hW1 p0 p1 p2
    (with_reducible refine (neGood_any (HA.out.ext K0.out)).mono ?_)
    rintro e w1 ⟨rfl, hw⟩
    rw [G.out]
    have K1 := Lib.hid (K0.out.trans' hw)
    clear hw
    go_wp2
    go_ret2
    exact ⟨ret_ig A.out.symm D.out.symm, K1.out⟩
  have G := Lib.hid (dec_true hg)
  have HG := Lib.hid hg
  have A := Lib.hid (gAns_t hg)
  clear hg
  go_enter Try.func55, Try.ntmps55
  go_wp2_with fail
  rw [← hW1]
  clear hW1 p0 p1 p2
  (with_reducible refine (neGood_any (HA.out.ext K0.out)).mono ?_)
  rintro e w1 ⟨rfl, hw⟩
  rw [G.out]
  have K1 := Lib.hid (K0.out.trans' hw)
  have R1 := Lib.hid (row_ext R0.out hw)
  obtain ⟨p0, p1, p2, -, -, -⟩ := row3_facts R1.out
  clear hw
  go_wp2_with fail
  clear p0 p1 p2
  (with_reducible refine (meGirth_any (HA.out.ext K1.out) HG.out).mono ?_)
  rintro e w2 ⟨rfl, hw⟩
  have K2 := Lib.hid (K1.out.trans' hw)
  obtain ⟨p0, p1, p2, -, -, -⟩ := row3_facts (row_ext R1.out hw)
  clear hw
  by_cases hz : girth N = 0
  · have D := Lib.hid (dec_false (show ¬ GirB N from fun k => k.2 hz))
    have A0 := Lib.hid (show gAns N = 0 by rw [A.out, hz])
    have hb : (girth N == 0) = true := by simpa using hz
    clear hz
    go_wp2
    go_ret2
    exact ⟨ret_ig A0.out.symm D.out.symm, K2.out⟩
  · have D := Lib.hid (dec_true (show GirB N from ⟨HG.out, hz⟩))
    have hb : (girth N == 0) = false := beq_eq_false_iff_ne.2 hz
    clear hz
    go_wp2_with fail
    clear p0 p1 p2
    (with_reducible refine (meGirth_any (HA.out.ext K2.out) HG.out).mono ?_)
    rintro e w3 ⟨rfl, hw⟩
    have K3 := Lib.hid (K2.out.trans' hw)
    clear hw
    go_wp2
    go_ret2
    exact ⟨ret_ig A.out.symm D.out.symm, K3.out⟩
end Go.Proofs.Ytkeiaahlifdbiaa
