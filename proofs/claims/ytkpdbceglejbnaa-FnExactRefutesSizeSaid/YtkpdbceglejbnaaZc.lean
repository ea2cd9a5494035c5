/- The contract of the program's distancesFrom. -/
import Derived.Test.YtkpdbceglejbnaaZa
namespace Go.Proofs.Ytkpdbceglejbnaa
open Go.RowKit

set_option maxHeartbeats 6400000 in
set_option maxRecDepth 100000 in
theorem distancesFrom_any {w : World} {vn : Value} {N : Net} (x : Nat) (hx : x < N.ends.length) (h : NetAt w vn N) (hG : GoodW N) :
    Calls Try.prog 136 #[vn, .int .i64 x] w fun e w' => ∃ v' bs, e = .returned v' ∧ Ext w w' ∧ OwnI w' v' (dst N x) bs ∧ Fresh w bs := by
  have HA := Lib.hid h
  have GA := Lib.hid hG
  obtain ⟨v0, v1, v2, rfl, hEa, -, -⟩ := h
  obtain ⟨ea, eb, eo, ec, rfl, hea, hel, hem, hec⟩ := hEa
  unfold maxLen at hem
  have HEA := Lib.hid hea
  have HEC := Lib.hid hec
  clear hea hec hG
  have hA1 := GA.out.one
  have hA40 := GA.out.most
  have hxI : 0 ≤ (x : Int) ∧ (x : Int) < N.ends.length := by omega
  obtain ⟨W1, hW1⟩ : ∃ W1, W1 = w.alloc (.cells #[.slice ea N.ends.length ec, v1, v2] 34) := ⟨_, rfl⟩
  have EW := Lib.hid (show Ext w W1 by rw [hW1]; exact boxed_ext _ _ _ _ _)
  have RA := Lib.hid (show W1.rowIs w.heap.size 34 3 (tri (.slice ea N.ends.length ec) v1 v2) by rw [hW1]; exact boxed_row _ _ _ _ _)
  obtain ⟨L, hL⟩ : ∃ L, L = wk N x := ⟨_, rfl⟩
  have HL := Lib.hid hL
  have hLn : L.length ≤ 40 := by have := (wk_ok GA.out.leads hxI).len; rw [hL]; omega
  clear hL
  obtain ⟨W3, hW3⟩ : ∃ W3, W3 = W1.alloc (.cells #[.int .i64 (-1)] 3) := ⟨_, rfl⟩
  have X3 := Lib.hid (show Ext W1 W3 by rw [hW3]; exact (Ext.rfl' _).alloc' _)
  obtain ⟨p0, p1, p2, -, -, -⟩ := row3_facts (row_ext RA.out X3.out)
  have Z1 := Lib.hid (show W1.heap.size = w.heap.size + 1 by rw [hW1]; simp)
  have C4 := Lib.hid (show W3.cell? ⟨w.heap.size + 1, 0, none⟩ = some (.int .i64 (-1)) by rw [hW3, ← Z1.out]; simp)
  rw [hW3, hW1] at p0 p1 p2
  go_enter Try.func136, Try.ntmps136
  go_wp2_with fail
  rw [← hW1, ← hW3]
  clear hW1 hW3 p0 p1 p2
  (with_reducible refine (repeat_any hA1 hA40 C4.out).mono ?_)
  rintro e w4 ⟨mb, rfl, hx4, hrow, hge⟩
  have X4 := Lib.hid (X3.out.trans' hx4)
  have HGE := Lib.hid (show W1.heap.size ≤ mb by have := X3.out.size; omega)
  have HROW := Lib.hid (start_row (x := x) hrow hx)
  have f1 := hrow.cell hx
  have f2 := hrow.frozen x
  clear hx4 hrow hge
  obtain ⟨W5, hW5⟩ : ∃ W5, W5 = w4.setCell ⟨mb, x, none⟩ (.int .i64 0) := ⟨_, rfl⟩
  have X5 := Lib.hid (show Ext W1 W5 by rw [hW5]; exact X4.out.store HGE.out _)
  have HROW5 := Lib.hid (show W5.rowIs mb 3 N.ends.length (numRow (dK N x 0)) by rw [hW5]; exact HROW.out)
  have HLT5 := Lib.hid (show mb < W5.heap.size from HROW5.out.lt)
  obtain ⟨p0, p1, p2, -, -, -⟩ := row3_facts (row_ext RA.out X5.out)
  rw [hW5] at p0 p1 p2
  go_wp2_with fail
  rw [← hW5]
  clear hW5 p0 p1 p2 f1 f2
  (with_reducible refine (walkFrom_any x hx (HA.out.ext (EW.out.trans' X5.out)) GA.out).mono ?_)
  rintro e w6 ⟨un, uc, bn, bc, rfl, hx6, ho, hoc, hfr⟩
  obtain ⟨ca, cc, rfl⟩ := hoc.1.slice
  clear hoc
  rw [← HL.out] at ho
  obtain ⟨na, nc, rfl⟩ := ho.1.slice
  have X6 := Lib.hid (X5.out.trans' hx6)
  have HROW6 := Lib.hid (row_ext HROW5.out hx6)
  have HO6 := Lib.hid ho
  have HNB := Lib.hid (show mb ∉ bn from fun hb => by have := hfr.2 mb (by simp [hb]); have := HLT5.out; omega)
  clear hx6 ho hfr
  have hfld := field_nodes na ca L.length nc (code N x).length cc
  go_wp2_with fail
  clear hfld
  go_loopg [23] L.length (fun g i wr => ∃ k : Nat, k ≤ L.length ∧ g = L.length - k ∧ i = .int .i64 k ∧ Hid (Ext W1 wr ∧ wr.rowIs mb 3 N.ends.length (numRow (dK N x k)) ∧ OwnI wr (.slice na L.length nc) L bn))
  case atStart => exact ⟨0, Nat.zero_le _, rfl, rfl, X6.out, HROW6.out, HO6.out⟩
  case round =>
    obtain ⟨k, hk, rfl, rfl, Hr⟩ := hrel
    obtain ⟨hE, hR, hO⟩ := Hr.out
    have HE := Lib.hid hE
    have HR := Lib.hid hR
    have HO := Lib.hid hO
    have KR := Lib.hid (EW.out.trans' hE)
    clear hE hR hO Hr
    by_cases hlt : k < L.length
    · obtain ⟨wa1, wa2, wa3⟩ := wk_at' (N := N) (k := k) GA.out.leads hxI (by rw [← HL.out]; exact hlt)
      have hvr := wkTo_range GA.out.leads hxI k _ (gi_in wa1)
      have hvm := gi_in wa1
      have DK := Lib.hid (dok_to GA.out.leads hxI k (by rw [← HL.out]; exact hk))
      rw [← wa2, ← HL.out] at hvr hvm
      obtain ⟨v, hv⟩ := Int.eq_ofNat_of_zero_le hvr.1
      have hvn : v < N.ends.length := by omega
      rw [hv] at hvm
      have hdv := DK.out.rng v hvn
      have hdl := wkTo_len GA.out.leads hxI k
      have hdg := (DK.out.has v hvn).2 hvm
      obtain ⟨F, hF⟩ : ∃ F, F = dK N x k := ⟨_, rfl⟩
      have HF := Lib.hid hF
      rw [← hF] at hdv hdg HR DK
      clear hF
      obtain ⟨dv, hdv'⟩ : ∃ dv, dv = gi F v := ⟨_, rfl⟩
      have HDV := Lib.hid hdv'
      rw [← hdv'] at hdv hdg
      clear hdv'
      have hd0 : 0 ≤ dv ∧ dv < 41 := by omega
      have hd1 : dv + 1 ≤ ((wkTo N x k).length : Int) := by omega
      have HD1 := Lib.hid hd1
      clear hdv hdl hdg hd1
      have HRR := Lib.hid (show rw' N (v : Int) = gr N.ends v by unfold rw'; rw [Int.toNat_natCast])
      have HDK := Lib.hid (show dK N x (k + 1) = dR F (gr N.ends v) (dv + 1) (gr N.ends v).length by
        rw [dK, ← HL.out, hv, HRR.out, ← HF.out, Int.toNat_natCast, ← HDV.out])
      obtain ⟨nb, no, hne, hnc, hcell⟩ : ∃ nb no, na = some ⟨nb, no, none⟩ ∧ nc ≤ maxLen ∧ wr.cell? ⟨nb, no + k, none⟩ = some (.int .i64 v) := by
        obtain ⟨a', b', o', c', e1, h1, h2, h3, h4⟩ := HO.out.read
        simp only [Value.slice.injEq] at e1
        obtain ⟨rfl, -, rfl⟩ := e1
        obtain ⟨_, h5, rfl, -⟩ := h4 k hlt
        rw [hv] at h5
        exact ⟨b', o', h1 (by omega), h3, h5⟩
      subst hne
      unfold maxLen at hnc
      have HVM := Lib.hid hvm
      clear hvr hvm hv wa1 wa2 wa3
      obtain rfl := HEA.out (by omega)
      obtain ⟨_, hra, hrowa⟩ := HEC.out v hvn
      obtain ⟨aa, ab, ao, ac, rfl, haa, hal, ham, hac⟩ := hrowa
      unfold maxLen at ham
      have HAA := Lib.hid haa
      have HAC := Lib.hid hac
      obtain ⟨p0, p1, p2, -, -, -⟩ := row3_facts (row_ext RA.out HE.out)
      have x1 := KR.out.cell' hra
      have h6 := GA.out.deg v hvn
      have HRJ := Lib.hid (show ∀ t, t < (gr N.ends v).length → 0 ≤ gn (gr N.ends v) t ∧ gn (gr N.ends v) t < (N.ends.length : Int) from GA.out.leads.node v hvn)
      clear haa hac hra
      go_wp2_with fail
      clear p0 p1 p2 x1 hcell
      obtain ⟨WR, hWR⟩ : ∃ W : World, W = wr := ⟨_, rfl⟩
      subst hWR
      go_loopg [33] (gr N.ends v).length (fun g i wx => ∃ j : Nat, j ≤ (gr N.ends v).length ∧ g = (gr N.ends v).length - j ∧ i = .int .i64 j ∧ Hid (Ext W1 wx ∧ wx.rowIs mb 3 N.ends.length (numRow (dR F (gr N.ends v) (dv + 1) j)) ∧ OwnI wx (.slice (some ⟨nb, no, none⟩) L.length nc) L bn))
      case atStart => exact ⟨0, Nat.zero_le _, rfl, rfl, HE.out, HR.out, HO.out⟩
      case round =>
        obtain ⟨j, hj, rfl, rfl, Hs⟩ := hrel
        by_cases hjt : j < (gr N.ends v).length
        · obtain rfl := HAA.out (by omega)
          obtain ⟨g1, g2, g3⟩ := Hs.out
          have SE := Lib.hid g1
          have SR := Lib.hid g2
          have SO := Lib.hid g3
          have KS := Lib.hid (EW.out.trans' g1)
          clear g1 g2 g3
          obtain ⟨f1, f2, -⟩ := HAC.out j hjt
          have hl0 := HRJ.out j hjt
          obtain ⟨zz, hzz⟩ := Int.eq_ofNat_of_zero_le hl0.1
          have hzn : zz < N.ends.length := by omega
          rw [hzz] at f1
          have HZZ := Lib.hid (show (gn (gr N.ends v) j).toNat = zz by rw [hzz, Int.toNat_natCast])
          clear hzz hl0
          have hdG := DK.out.row (d := dv + 1) (r := gr N.ends v) (by omega) HD1.out (fun i hi => HRJ.out i hi) j (by omega)
          have hinv := (dR_inv DK.out (wkTo_range GA.out.leads hxI k) (d := dv + 1) (r := gr N.ends v) (by omega) HD1.out (fun i hi => HRJ.out i hi) j (by omega)).1 v HVM.out
          rw [Int.toNat_natCast, ← HDV.out] at hinv
          obtain ⟨pA, hpA⟩ : ∃ d, d = gp (gr N.ends v) j := ⟨_, rfl⟩
          obtain ⟨G, hG⟩ : ∃ G, G = dR F (gr N.ends v) (dv + 1) j := ⟨_, rfl⟩
          rw [← hG] at SR hdG hinv
          rw [← hpA] at f2
          have HEX := Lib.hid (show dR F (gr N.ends v) (dv + 1) (j + 1) = if gi G zz = -1 then G.set zz (dv + 1) else G by simp only [dR]; rw [HZZ.out, ← hG])
          have HGL := Lib.hid hdG.len
          clear hpA hG hdG
          have s1 := KS.out.cell' f1
          have s2 := KS.out.cell' f2
          obtain ⟨W2, hW2⟩ : ∃ W2, W2 = wr.alloc (.cells #[.int .i64 zz, .int .i64 pA] 95) := ⟨_, rfl⟩
          have E2 := Lib.hid (show Ext wr W2 by rw [hW2]; exact (Ext.rfl' _).alloc' _)
          have R2 := Lib.hid (show W2.rowIs wr.heap.size 95 2 (duo (.int .i64 zz) (.int .i64 pA)) by rw [hW2]; exact duo_made _ _ _ _)
          have SR2 := Lib.hid (row_ext SR.out E2.out)
          have SO2 := Lib.hid (SO.out.ext E2.out)
          have SE2 := Lib.hid (SE.out.trans' E2.out)
          obtain ⟨r0, r1, -, -⟩ := duo_facts R2.out
          have t2 := SR2.out.cell hzn
          have t3 := SR2.out.frozen zz
          have t4 := SR2.out.cell hvn
          unfold numRow at t2 t4
          rw [hinv] at t4
          obtain ⟨y, hy⟩ : ∃ y, y = gi G zz := ⟨_, rfl⟩
          rw [← hy] at t2 HEX
          clear f1 f2 hinv
          by_cases hy1 : y = -1
          · subst hy1
            have HEX2 := Lib.hid (show dR F (gr N.ends v) (dv + 1) (j + 1) = G.set zz (dv + 1) by rw [HEX.out, if_pos rfl])
            have t2' := t2
            rw [hW2] at t2'
            clear hy HEX
            go_wp2_with fail
            rw [← hW2]
            clear hW2 s1 s2 t2'
            go_region
            all_goals go_wp2
            go_roundg ((gr N.ends v).length - (j + 1))
            case measure => omega
            case rel => exact ⟨j + 1, by omega, rfl, by go_num, (SE2.out.store HGE.out _).drew', row_ext (by rw [HEX2.out]; exact numRow_set SR2.out HGL.out hzn) (Ext.rfl' _).drew', (keep_off SO2.out HNB.out).ext (Ext.rfl' _).drew'⟩
          · have HEX2 := Lib.hid (show dR F (gr N.ends v) (dv + 1) (j + 1) = G by rw [HEX.out, if_neg hy1])
            have hyb : (y == -1) = false := beq_eq_false_iff_ne.2 hy1
            have t2' := t2
            rw [hW2] at t2'
            clear hy HEX hy1
            go_wp2_with fail
            rw [← hW2]
            clear hW2 s1 s2 t2'
            go_roundg ((gr N.ends v).length - (j + 1))
            case measure => omega
            case rel => exact ⟨j + 1, by omega, rfl, by go_num, SE2.out, by rw [HEX2.out]; exact SR2.out, SO2.out⟩
        · obtain rfl : j = (gr N.ends v).length := by omega
          go_wp2
          go_roundg (L.length - (k + 1))
          case measure => omega
          case rel => exact ⟨k + 1, by omega, rfl, by go_num, Hs.out.1, by rw [HDK.out]; exact Hs.out.2.1, Hs.out.2.2⟩
    · obtain rfl : k = L.length := by omega
      have HD := Lib.hid (show dK N x L.length = dst N x by rw [HL.out]; rfl)
      have HS := Lib.hid (dst_small GA.out hxI)
      rw [HD.out] at HR
      go_wp2
      go_ret
      exact ⟨_, [mb], rfl, KR.out, num_own HR.out HS.out.1 (by omega) (fun i hi => by have := HS.out.2 i (by have := HS.out.1; omega); unfold inI64; omega), by simp, fun y hy => by
        simp only [List.mem_singleton] at hy
        subst hy
        have := HGE.out; have := EW.out.size; omega⟩
end Go.Proofs.Ytkpdbceglejbnaa
