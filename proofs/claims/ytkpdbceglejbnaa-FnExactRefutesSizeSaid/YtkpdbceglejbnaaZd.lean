/- The contract of the model's meFrom. -/
import Derived.Test.YtkpdbceglejbnaaZa
import Derived.Test.YtkpdbceglejbnaaJd
namespace Go.Proofs.Ytkpdbceglejbnaa
open Go.RowKit

def minRow (k : Nat) : Nat → Value := fun i => .int .i64 (if i < k then -1 else 0)
theorem min_step {w : World} {b n k : Nat} (h : w.rowIs b 3 n (minRow k)) : (w.setCell ⟨b, k, none⟩ (.int .i64 (-1))).rowIs b 3 n (minRow (k + 1)) :=
  (h.set k _).congr fun i _ => by
    unfold minRow
    by_cases e : i = k
    · subst e; simp
    · by_cases e2 : i < k
      · simp [e, e2, show i < k + 1 by omega]
      · simp [e, e2, show ¬ i < k + 1 by omega]

set_option maxHeartbeats 6400000 in
set_option maxRecDepth 100000 in
theorem meFrom_any {w : World} {vn : Value} {N : Net} (x : Nat) (hx : x < N.ends.length) (h : NetAt w vn N) (hG : GoodW N) :
    Calls Try.prog 131 #[vn, .int .i64 x] w fun e w' => ∃ v' bs, e = .returned v' ∧ Ext w w' ∧ OwnI w' v' (dst N x) bs ∧ Fresh w bs := by
  have HA := Lib.hid h
  have GA := Lib.hid hG
  obtain ⟨v0, v1, v2, rfl, hEa, -, -⟩ := h
  obtain ⟨ea, eb, eo, ec, rfl, hea, hel, hem, hec⟩ := hEa
  unfold maxLen at hem
  clear hea hec hG
  have hA1 := GA.out.one
  have hA40 := GA.out.most
  have hxI : 0 ≤ (x : Int) ∧ (x : Int) < N.ends.length := by omega
  obtain ⟨i0, hi, hz0, hz1, hz2⟩ := info_parts Try.info3
  have I0 := Lib.hid (And.intro hi (And.intro hz0 (And.intro hz1 hz2)))
  clear hi hz0 hz1 hz2
  obtain ⟨W1, hW1⟩ : ∃ W1, W1 = w.alloc (.cells #[.slice ea N.ends.length ec, v1, v2] 34) := ⟨_, rfl⟩
  have EW := Lib.hid (show Ext w W1 by rw [hW1]; exact boxed_ext _ _ _ _ _)
  have RA := Lib.hid (show W1.rowIs w.heap.size 34 3 (tri (.slice ea N.ends.length ec) v1 v2) by rw [hW1]; exact boxed_row _ _ _ _ _)
  obtain ⟨p0, p1, p2, -, -, -⟩ := row3_facts RA.out
  rw [hW1] at p0 p1 p2
  obtain ⟨ll, hll⟩ : ∃ ll, ll = (wk N x).length := ⟨_, rfl⟩
  have HL := Lib.hid hll
  have hLn : ll ≤ N.ends.length := by have := (wk_ok GA.out.leads hxI).len; omega
  clear hll
  have hmk := run_make_row' (P := Try.prog) 26 3 (.int .i64 0) 8 Try.underlying26 Try.info3 rfl .i64 .i64 N.ends.length (by omega) (by omega)
  have ZW := Lib.hid (show W1.heap.size = w.heap.size + 1 by rw [hW1]; simp)
  go_enter Try.func131, Try.ntmps131
  go_wp2_with fail
  rw [← hW1]
  clear hW1 p0 p1 p2 hmk
  obtain ⟨mb, hmb⟩ : ∃ mb, mb = w.heap.size + 1 := ⟨_, rfl⟩
  have HGE := Lib.hid (show W1.heap.size ≤ mb by rw [ZW.out]; omega)
  have HMB := Lib.hid (show mb = W1.heap.size by rw [ZW.out]; exact hmb)
  rw [← hmb]
  clear hmb
  go_loopg [17] N.ends.length (fun g i wr => ∃ k : Nat, k ≤ N.ends.length ∧ g = N.ends.length - k ∧ i = .int .i64 k ∧ Hid (Ext W1 wr ∧ wr.rowIs mb 3 N.ends.length (minRow k)))
  case atStart => exact ⟨0, Nat.zero_le _, rfl, rfl, (Ext.rfl' _).alloc' _, by rw [HMB.out]; exact (World.rowIs_made _ _ _ _).congr fun i _ => by simp [minRow]⟩
  case round =>
    obtain ⟨k, hk, rfl, rfl, Hr⟩ := hrel
    by_cases hlt : k < N.ends.length
    case pos =>
      have f1 := Hr.out.2.cell hlt
      have f2 := Hr.out.2.frozen k
      go_wp2
      go_roundg (N.ends.length - (k + 1))
      case measure => omega
      case rel => exact ⟨k + 1, by omega, rfl, by go_num, Hr.out.1.store HGE.out _, min_step Hr.out.2⟩
    obtain rfl : k = N.ends.length := by omega
    have HR0 := Lib.hid (Hr.out.2.congr (g := fun _ => .int .i64 (-1)) fun i hi => by simp [minRow, hi])
    have HROW := Lib.hid (start_row (x := x) HR0.out hx)
    have f1 := HR0.out.cell hx
    have f2 := HR0.out.frozen x
    obtain ⟨W5, hW5⟩ : ∃ W5, W5 = wr.setCell ⟨mb, x, none⟩ (.int .i64 0) := ⟨_, rfl⟩
    have X5 := Lib.hid (show Ext W1 W5 by rw [hW5]; exact Hr.out.1.store HGE.out _)
    have HROW5 := Lib.hid (show W5.rowIs mb 3 N.ends.length (numRow (dK N x 0)) by rw [hW5]; exact HROW.out)
    have HLT5 := Lib.hid (show mb < W5.heap.size from HROW5.out.lt)
    have ZS := Lib.hid (show W5.heap.size = wr.heap.size by rw [hW5]; simp)
    obtain ⟨W6, hW6⟩ : ∃ W6, W6 = W5.alloc (.cells #[.int .i64 x] 3) := ⟨_, rfl⟩
    have X6 := Lib.hid (show Ext W1 W6 by rw [hW6]; exact X5.out.alloc' _)
    have HROW6 := Lib.hid (show W6.rowIs mb 3 N.ends.length (numRow (dK N x 0)) by rw [hW6]; exact HROW5.out.alloc _)
    obtain ⟨B, hB⟩ : ∃ B, B = wr.heap.size := ⟨_, rfl⟩
    have HB := Lib.hid (show B = W5.heap.size by rw [ZS.out, hB])
    have HBL := Lib.hid (show mb < B by rw [HB.out]; exact HLT5.out)
    have HB1 := Lib.hid (show W1.heap.size ≤ B by have := HBL.out; have := HGE.out; omega)
    have G0 := Lib.hid (show GrowN B W6 (.slice (some ⟨B, 0, none⟩) 1 1) (wkTo N x 0) by
      have := World.ownsRow_lit (base := W5.heap.size) (e := 3) (size := 1) W5 #[.int .i64 x] 1 (by omega) (by decide) (by simp)
      rw [hW6, HB.out]
      simpa [GrowN, wkTo, intCells] using this)
    go_wp2_with fail
    rw [← hW5, ← hW6, ← hB]
    clear hW5 hW6 f1 f2 hB
    obtain ⟨wo, hwo⟩ : ∃ wo : World, wo = wr := ⟨_, rfl⟩
    subst hwo
    go_loopg [7, 8] ll (fun g s a wy => ∃ k : Nat, k ≤ ll ∧ g = ll - k ∧ a = .int .i64 k ∧ Hid (Ext W1 wy ∧ wy.rowIs mb 3 N.ends.length (numRow (dK N x k)) ∧ GrowN B wy s (wkTo N x k)))
    case atStart => exact ⟨0, Nat.zero_le _, rfl, rfl, X6.out, HROW6.out, G0.out⟩
    case round =>
      obtain ⟨k, hk, rfl, rfl, Ht⟩ := hrel
      obtain ⟨ob, oc, rfl, ho1, ho2, ho3, ho4, hcell⟩ := Ht.out.2.2.form (wkTo_pos N x k)
      unfold maxLen at ho2
      have hlen := wkTo_len GA.out.leads hxI k
      by_cases hlt : k < (wkTo N x k).length
      · have hlt2 : k < ll := by have := (wk_begins (N := N) (v := x) (k := k) (by omega)).len; have := HL.out; omega
        have hc := hcell k hlt
        obtain ⟨wa1, wa2, wa3⟩ := wk_at' (N := N) (k := k) GA.out.leads hxI (by rw [← HL.out]; exact hlt2)
        have hrg := wkTo_range GA.out.leads hxI k _ (gi_in hlt)
        have hvm := gi_in hlt
        obtain ⟨y, hy⟩ := Int.eq_ofNat_of_zero_le hrg.1
        have hyn : y < N.ends.length := by omega
        have hdeg := GA.out.deg y hyn
        have HGO := Lib.hid (show wkTo N x (k + 1) = addTo (wkTo N x k) (gr N.ends y) (gr N.ends y).length by rw [wkTo_go hlt]; unfold rw'; rw [hy, Int.toNat_natCast])
        have DK := Lib.hid (dok_to GA.out.leads hxI k (by rw [← HL.out]; exact hk))
        rw [hy] at hc hvm
        have hdv := DK.out.rng y hyn
        have hdg := (DK.out.has y hyn).2 hvm
        obtain ⟨F, hF⟩ : ∃ F, F = dK N x k := ⟨_, rfl⟩
        have HF := Lib.hid hF
        rw [← hF] at hdv hdg Ht DK
        clear hF
        obtain ⟨dv, hdv'⟩ : ∃ dv, dv = gi F y := ⟨_, rfl⟩
        have HDV := Lib.hid hdv'
        rw [← hdv'] at hdv hdg
        clear hdv'
        have hd0 : 0 ≤ dv ∧ dv < 41 := by omega
        have HD1 := Lib.hid (show dv + 1 ≤ ((wkTo N x k).length : Int) by omega)
        clear hdv hdg
        have HRR := Lib.hid (show rw' N (y : Int) = gr N.ends y by unfold rw'; rw [Int.toNat_natCast])
        have HDK := Lib.hid (show dK N x (k + 1) = dR F (gr N.ends y) (dv + 1) (gr N.ends y).length by
          rw [dK, wa2, hy, HRR.out, ← HF.out, Int.toNat_natCast, ← HDV.out])
        have HVM := Lib.hid hvm
        have HYC := Lib.hid hy
        clear hrg hy hvm hcell wa1 wa2 wa3
        obtain ⟨p0, p1, p2, -, -, -⟩ := row3_facts (row_ext RA.out Ht.out.1)
        have Hd := Lib.hid (Ext.rfl' wr).drew'
        have HO := Lib.hid (And.intro ho3 ho4)
        have hl1 : (wkTo N x k).length ≤ 40 := by omega
        clear ho3 ho4
        go_wp2_with fail
        go_region_held3 (fun w' => w'.cell? ⟨w.heap.size, 0, none⟩ = some (.slice ea N.ends.length ec) ∧ w'.cell? ⟨w.heap.size, 1, none⟩ = some v1 ∧ w'.cell? ⟨w.heap.size, 2, none⟩ = some v2 ∧ w'.cell? ⟨ob, k, none⟩ = some (.int .i64 y) ∧ Hid (Ext wr w'))
          (first | exact ⟨p0, p1, p2, hc, Hd⟩ | exact ⟨hx.cell' p0, hx.cell' p1, hx.cell' p2, hx.cell' hc, Hd.out.trans' hx⟩)
          (first | (go_at_call 129; (with_reducible refine (neNear_any y hyn (HA.out.ext (EW.out.trans' (Ht.out.1.trans' Hd.out))) (by omega)).mono ?_); rintro e w1 ⟨nv, nbs, rfl, hx, hon, hfn⟩; have X1 := Lib.hid hx; have ON := Lib.hid hon; have FN := Lib.hid hfn; obtain ⟨na, nb0, no, nc, rfl, -, -, -, -⟩ := hon.read; clear hfn hon))
        rename_i hh
        clear hh hx p0 p1 p2 hc
        go_wp2_with fail
        rw [length_nears] at *
        have KD := Lib.hid (Hd.out.trans' X1.out)
        obtain ⟨wy, hwy⟩ : ∃ wy : World, wy = wr := ⟨_, rfl⟩
        subst hwy
        go_loopg [7, 42] (gr N.ends y).length (fun g s i wx => ∃ j : Nat, j ≤ (gr N.ends y).length ∧ g = (gr N.ends y).length - j ∧ i = .int .i64 j ∧ Hid (Ext W1 wx ∧ wx.rowIs mb 3 N.ends.length (numRow (dR F (gr N.ends y) (dv + 1) j)) ∧ GrowN B wx s (addTo (wkTo N x k) (gr N.ends y) j) ∧ OwnI wx (.slice na (gr N.ends y).length nc) (nears (gr N.ends y)) nbs ∧ Off s nbs ∧ mb ∉ nbs))
        case atStart => exact ⟨0, Nat.zero_le _, rfl, rfl, Ht.out.1.trans' KD.out, row_ext Ht.out.2.1 KD.out, Ht.out.2.2.ext KD.out, ON.out, fun b hb e => by have := FN.out.2 b hb; have := HO.out.2; have := Hd.out.size; simp only [Value.ownBlock, Option.some.injEq] at e; omega, fun hb => by have := FN.out.2 mb hb; have := Ht.out.2.1.lt; have := Hd.out.size; omega⟩
        case round =>
          obtain ⟨j, hj, rfl, rfl, Hs⟩ := hrel
          have hpos : 0 < (addTo (wkTo N x k) (gr N.ends y) j).length := by have := (addTo_begins (wkTo N x k) (gr N.ends y) 0 j (by omega)).len; have := wkTo_pos N x k; simp only [addTo] at *; omega
          have hrj : ∀ t, t < (gr N.ends y).length → 0 ≤ gn (gr N.ends y) t ∧ gn (gr N.ends y) t < (N.ends.length : Int) := GA.out.leads.node y hyn
          have hin := addTo_range (l := wkTo N x k) (r := gr N.ends y) (n := N.ends.length) (j := j) (wkTo_range GA.out.leads hxI k) (fun t ht => hrj t (by omega))
          have hlj : (addTo (wkTo N x k) (gr N.ends y) j).length ≤ N.ends.length := nodup_len _ _ (addTo_nodup (wkTo_nodup N x k) j) hin
          by_cases hlj2 : j < (gr N.ends y).length
          · obtain ⟨ob', oc', rfl, q1, q2, q3, q4, qc⟩ := Hs.out.2.2.1.form hpos
            unfold maxLen at q2
            have hkj := (addTo_begins (wkTo N x k) (gr N.ends y) 0 j (by omega))
            have hq := qc k (by have := hkj.len; simp only [addTo] at this; omega)
            rw [hkj.at (by simpa only [addTo] using hlt)] at hq
            simp only [addTo] at hq
            rw [HYC.out] at hq
            have hkl2 : k < (addTo (wkTo N x k) (gr N.ends y) j).length := by have := hkj.len; simp only [addTo] at this; omega
            clear hkj qc hin
            obtain ⟨na', nb', no', nc', e, ha, hl, hm, hcn⟩ := Hs.out.2.2.2.1.read
            simp only [Value.slice.injEq] at e
            obtain ⟨rfl, -, rfl⟩ := e
            rw [length_nears] at ha hl
            obtain rfl := ha (by omega)
            obtain ⟨_, hn1, rfl, _⟩ := hcn j (by rw [length_nears]; exact hlj2)
            rw [gi_nears _ _ hlj2] at hn1
            unfold maxLen at hm
            have hgr := hrj j hlj2
            obtain ⟨zz, hzz⟩ := Int.eq_ofNat_of_zero_le hgr.1
            have hzn : zz < N.ends.length := by omega
            have HJZ := Lib.hid hzz
            rw [hzz] at hn1
            have HQB := Lib.hid (show mb ≠ ob' by have := HBL.out; omega)
            have hdG := DK.out.row (d := dv + 1) (r := gr N.ends y) (by omega) HD1.out hrj j (by omega)
            have hinv := (dR_inv DK.out (wkTo_range GA.out.leads hxI k) (d := dv + 1) (r := gr N.ends y) (by omega) HD1.out hrj j (by omega)).1 y HVM.out
            rw [Int.toNat_natCast, ← HDV.out] at hinv
            obtain ⟨G, hG⟩ : ∃ G, G = dR F (gr N.ends y) (dv + 1) j := ⟨_, rfl⟩
            have SE := Lib.hid Hs.out.1
            have SR := Lib.hid Hs.out.2.1
            have SG := Lib.hid Hs.out.2.2.1
            have SO := Lib.hid Hs.out.2.2.2.1
            have SF := Lib.hid Hs.out.2.2.2.2.1
            have SM := Lib.hid Hs.out.2.2.2.2.2
            rw [← hG] at SR hdG hinv
            have HEX := Lib.hid (show dR F (gr N.ends y) (dv + 1) (j + 1) = if gi G zz = -1 then G.set zz (dv + 1) else G by simp only [dR]; rw [HJZ.out, Int.toNat_natCast, ← hG])
            have HGL := Lib.hid hdG.len
            have t2 := SR.out.cell hzn
            have t3 := SR.out.frozen zz
            have t4 := SR.out.cell hyn
            unfold numRow at t2 t4
            rw [hinv] at t4
            obtain ⟨u, hu⟩ : ∃ u, u = gi G zz := ⟨_, rfl⟩
            have hur := hdG.rng zz hzn
            have huh := hdG.has zz hzn
            rw [← hu] at t2 HEX hur huh
            have hu41 : u < 41 := by omega
            clear hgr hcn ha hinv hG hu hrj
            by_cases hmem : u = -1
            · subst hmem
              have HZQ := Lib.hid (show ((zz : Nat) : Int) ∉ addTo (wkTo N x k) (gr N.ends y) j from fun h => huh.2 h rfl)
              have HAA := Lib.hid (show addTo (wkTo N x k) (gr N.ends y) (j + 1) = addTo (wkTo N x k) (gr N.ends y) j ++ [(zz : Int)] by
                show addOne _ _ = _
                rw [HJZ.out]; exact addOne_new HZQ.out)
              have HEX2 := Lib.hid (show dR F (gr N.ends y) (dv + 1) (j + 1) = G.set zz (dv + 1) by rw [HEX.out, if_pos rfl])
              clear hzz huh hur hdG
              obtain ⟨W2, hW2⟩ : ∃ W2, W2 = wr.setCell ⟨mb, zz, none⟩ (.int .i64 (dv + 1)) := ⟨_, rfl⟩
              have E2 := Lib.hid (show Ext W1 W2 by rw [hW2]; exact SE.out.store HGE.out _)
              have R2 := Lib.hid (show W2.rowIs mb 3 N.ends.length (numRow (G.set zz (dv + 1))) by rw [hW2]; exact numRow_set SR.out HGL.out hzn)
              have N2 := Lib.hid (show GrowN B W2 (.slice (some ⟨ob', 0, none⟩) (addTo (wkTo N x k) (gr N.ends y) j).length oc') (addTo (wkTo N x k) (gr N.ends y) j) by
                rw [hW2]; exact SG.out.keep fun b hb => Below.heap_setCell _ _ _ _ fun e => by
                  simp only [Value.ownBlock, Option.some.injEq] at hb
                  exact HQB.out (by rw [hb]; exact e.symm))
              have HS2 := Lib.hid (show B ≤ W2.heap.size by rw [hW2]; simp; omega)
              have O2 := Lib.hid (show OwnI W2 (.slice (some ⟨nb', no', none⟩) (gr N.ends y).length nc) (nears (gr N.ends y)) nbs by rw [hW2]; exact keep_off SO.out SM.out)
              go_upto_region 17 with (fail)
              rw [← hW2]
              clear hW2 t2 t3 t4 hq hn1
              go_wp2_with (first | (at_builtin; refine wpList_app2 rfl (.tmp 62) (.tmp 64) 26 rfl B 3 i0 (.int .i64 0) 1 8 Try.underlying26 I0.out.1 I0.out.2.1 I0.out.2.2.1 I0.out.2.2.2 rfl (by decide) _ (addTo (wkTo N x k) (gr N.ends y) j).length (intCells (addTo (wkTo N x k) (gr N.ends y) j)) rfl (N2.out.ext ((Ext.rfl' _).alloc' _)) (some ⟨W2.heap.size, 0, none⟩) 1 1 (intCells [(zz : Int)]) rfl (src_lits _ [(zz : Int)] 1 rfl 3) (by unfold maxLen; omega) (by omega) (by have := HS2.out; simp; omega) ?_))
              intro v' w3 hg
              have gx := N2.out.ext ((Ext.rfl' W2).alloc' (.cells #[.int .i64 (zz : Int)] 3))
              have FI := Lib.hid (show Ext W1 w3 ∧ w3.rowIs mb 3 N.ends.length (numRow (G.set zz (dv + 1))) ∧ GrowN B w3 v' (addTo (wkTo N x k) (gr N.ends y) j ++ [(zz : Int)]) ∧ OwnI w3 (.slice (some ⟨nb', no', none⟩) (gr N.ends y).length nc) (nears (gr N.ends y)) nbs ∧ Off v' nbs from
                ⟨grown_ext (E2.out.alloc' _) HB1.out gx hg.1.2.1, (R2.out.alloc _).of_block (hg.1.2.1.block mb (R2.out.alloc _).lt fun e => HQB.out (by simp only [Value.ownBlock, Option.some.injEq] at e; exact e)), GrowN.step hg.1 rfl, (O2.out.ext ((Ext.rfl' _).alloc' _)).other SF.out hg.1.2.1, SF.out.grew (w := W2.alloc (.cells #[.int .i64 (zz : Int)] 3)) (fun b hb => by have := O2.out.1.lt b hb; simp; omega) hg.2⟩)
              clear hg gx
              go_wp2
              go_roundg ((gr N.ends y).length - (j + 1))
              case measure => omega
              case rel => exact ⟨j + 1, by omega, rfl, by go_num, FI.out.1, by rw [HEX2.out]; exact FI.out.2.1, by rw [HAA.out]; exact FI.out.2.2.1, FI.out.2.2.2.1, FI.out.2.2.2.2, SM.out⟩
            · have hu0 : 0 ≤ u := by omega
              have HZQ := Lib.hid (huh.1 hmem)
              have HAA := Lib.hid (show addTo (wkTo N x k) (gr N.ends y) (j + 1) = addTo (wkTo N x k) (gr N.ends y) j by
                show addOne _ _ = _
                rw [HJZ.out]; exact addOne_in HZQ.out)
              have HEX2 := Lib.hid (show dR F (gr N.ends y) (dv + 1) (j + 1) = G by rw [HEX.out, if_neg hmem])
              clear hzz huh hur hdG
              go_wp2
              go_roundg ((gr N.ends y).length - (j + 1))
              case measure => omega
              case rel => exact ⟨j + 1, by omega, rfl, by go_num, SE.out, by rw [HEX2.out]; exact SR.out, by rw [HAA.out]; exact SG.out, SO.out, SF.out, SM.out⟩
          · obtain rfl : j = (gr N.ends y).length := by omega
            go_wp2
            go_roundg (ll - (k + 1))
            case measure => omega
            case rel => exact ⟨k + 1, by omega, rfl, by go_num, Hs.out.1, by rw [HDK.out]; exact Hs.out.2.1, by rw [HGO.out]; exact Hs.out.2.2.1⟩
      · have hd := wk_done (N := N) (v := (x : Int)) (k := k) (by omega) (by omega)
        have hkl : k = ll := by have := HL.out; rw [hd] at this; omega
        have HD := Lib.hid (show dK N x k = dst N x by rw [hkl, HL.out]; rfl)
        have HS := Lib.hid (dst_small GA.out hxI)
        have HRF := Lib.hid (show wr.rowIs mb 3 N.ends.length (numRow (dst N x)) by rw [← HD.out]; exact Ht.out.2.1)
        clear hd hkl
        go_wp2
        go_ret
        exact ⟨_, [mb], rfl, EW.out.trans' Ht.out.1, num_own HRF.out HS.out.1 (by omega) (fun i hi => by have := HS.out.2 i (by have := HS.out.1; omega); unfold inI64; omega), by simp, fun y hy => by
          simp only [List.mem_singleton] at hy
          subst hy
          have := HGE.out; have := EW.out.size; omega⟩
end Go.Proofs.Ytkpdbceglejbnaa
