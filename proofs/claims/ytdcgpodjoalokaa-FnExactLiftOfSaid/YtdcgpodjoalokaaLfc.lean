/- The program's LiftOf: the rows of the lift. -/
import Derived.Test.YtdcgpodjoalokaaLfb
namespace Go.Proofs.Ytdcgpodjoalokaa
open Go.RowKit

theorem flat_pair {w : World} {a b c d : Int} (ha : inI64 a) (hb : inI64 b) (hc : inI64 c) (hd : inI64 d) :
    FlatSl ((w.alloc (.cells #[.int .i64 a, .int .i64 b, .int .i64 c, .int .i64 d] 124)).drew) (.slice (some ⟨w.heap.size, 0, none⟩) 1 1) 1 [(a, b), (c, d)] := by
  refine ⟨_, w.heap.size, 0, 1, rfl, fun _ => rfl, Nat.le_refl _, by unfold maxLen; omega, fun i hi => ?_⟩
  match i, hi with
  | 0, _ => exact ⟨by simp [gn], by simp [gp], by simpa [gn] using ha, by simpa [gp] using hb⟩
  | 1, _ => exact ⟨by simp [gn], by simp [gp], by simpa [gn] using hc, by simpa [gp] using hd⟩
theorem pair_ports {N : Net} {P : List (List Int)} {k m t s v i w j c : Nat} (hm : m < (edgesTo N N.ends.length).length * k) (A : PairAt N P k m t s v i w j c) :
    PortsOK (linkTo (liftB N k (N.ends.length * k)) (liftL N k P) m) [(((v * k + s : Nat) : Int), (i : Int)), (((w * k + c : Nat) : Int), (j : Int))] ∧
      linkTo (linkTo (liftB N k (N.ends.length * k)) (liftL N k P) m) [(((v * k + s : Nat) : Int), (i : Int)), (((w * k + c : Nat) : Int), (j : Int))] 1 = linkTo (liftB N k (N.ends.length * k)) (liftL N k P) (m + 1) := by
  have e1 : ge (liftL N k P) (2 * m) = _ := ge_even hm
  have e2 : ge (liftL N k P) (2 * m + 1) = _ := ge_odd hm
  rw [A.eq] at e1 e2
  refine ⟨fun y hy => ?_, ?_⟩
  · have h1 := dmLt A.hs A.o.hv
    have h2 := dmLt A.hc A.o.hw
    have h3 := row_liftB A.hs A.o.hv
    have h4 := row_liftB A.hc A.o.hw
    have h5 := A.o.hi
    have h6 := A.o.hj
    rw [linkTo_len, liftB_len, linkTo_row]
    match y, hy with
    | 0, _ =>
      simp only [gn, gp, List.getD_cons_zero, Int.toNat_natCast]
      rw [h3]
      exact ⟨by omega, by omega, by omega, by omega⟩
    | 1, _ =>
      simp only [gn, gp, List.getD_cons_zero, List.getD_cons_succ, Int.toNat_natCast]
      rw [h4]
      exact ⟨by omega, by omega, by omega, by omega⟩
  · show linkNet _ _ _ = linkNet _ (ge (liftL N k P) (2 * m)) (ge (liftL N k P) (2 * m + 1))
    rw [e1, e2]
    rfl

set_option maxHeartbeats 12800000 in
set_option maxRecDepth 100000 in
theorem liftX_any {w : World} {vn vp : Value} {N : Net} {P : List (List Int)} (kk : Nat) (hk1 : 1 ≤ kk) (hk40 : kk ≤ 40) (h : NetAt w vn N) (hG : Good N) (hp : IntSS w vp P) (hS : SheetsOK (edgesTo N N.ends.length) P kk) :
    Calls Try.prog 63 #[vn, .int .i64 kk, vp] w fun e w' => ∃ v' bs, e = .returned (.tuple #[v', .bool (dec (Good (liftNet N kk P)))]) ∧ Ext w w' ∧ OwnNet w' v' (goodOr (liftNet N kk P)) bs ∧ Fresh w bs := by
  have HN := Lib.hid h
  have HG := Lib.hid hG
  have HP := Lib.hid hp
  have HS := Lib.hid hS
  have hS0 := Lib.hid hS
  have h40 := hG.1.2
  have h01 := hG.1.1
  have hil := hG.2.2.2.1
  have HIL := Lib.hid hil
  have HD6 := Lib.hid (show ∀ v, v < N.ends.length → (gr N.ends v).length ≤ 6 from fun v hv => (hG.2.1 v hv).1)
  have HK := Lib.hid (dec_true (show InB (kk : Int) 1 40 from ⟨by omega, by omega⟩))
  obtain ⟨w0, v1, w2, rfl, hE, -, hI⟩ := h
  obtain ⟨ea, eb, eo, ec, rfl, hea, hel, hem, hec⟩ := hE
  obtain ⟨pa, pb, po, pc, rfl, hpa, hpl, hpm, hpc⟩ := hI
  unfold maxLen at hem hpm
  obtain rfl := hea (by omega)
  obtain rfl := hpa (by omega)
  have HEC := Lib.hid hec
  have HPC := Lib.hid hpc
  obtain ⟨i0, hi, hz0, hz1, hz2⟩ := info_parts Try.infoSE
  have I0 := Lib.hid (And.intro hi (And.intro hz0 (And.intro hz1 hz2)))
  obtain ⟨i3, hi', hz0', hz1', hz2'⟩ := info_parts Try.info3
  have I3 := Lib.hid (And.intro hi' (And.intro hz0' (And.intro hz1' hz2')))
  obtain ⟨i44, hi4, hy0, hy1, hy2⟩ := info_parts Try.info44
  have HML := Lib.hid (show ∀ (d : Nat) (u : World), d ≤ 6 → (Instr.makeSlice 89 (.int .i64 (d : Int)) (.int .i64 (d : Int))).run Try.prog u =
      .ok (.slice (some ⟨u.heap.size, 0, none⟩) d d) (u.alloc (.cells (madeCells #[.int .i64 0, .int .i64 0] (d * 2)) 123)) from fun d u hd => by
    have h := run_make (P := Try.prog) u 89 123 i44 _ Try.underlying89 hi4 hy0 .i64 .i64 d d (by omega) (Int.le_refl _) (by rw [hy2]; omega) (by omega)
    simpa [hy1, Value.cells] using h)
  clear hi hz0 hz1 hz2 hi' hz0' hz1' hz2' hi4 hy0 hy1 hy2 hea hpa hec hpc hG hil hS hp
  obtain ⟨WA, hWA⟩ : ∃ WA, WA = (w.alloc (.cells #[.slice (some ⟨eb, eo, none⟩) N.ends.length ec, v1, .slice (some ⟨pb, po, none⟩) N.inputs.length pc] 43)).alloc (.cells #[.slice none 0 0, .slice none 0 0, .slice none 0 0] 43) := ⟨_, rfl⟩
  have EA := Lib.hid (show Ext w WA by rw [hWA]; exact ((Ext.rfl' w).alloc' _).alloc' _)
  have RA := Lib.hid (show WA.rowIs w.heap.size 43 3 (tri (.slice (some ⟨eb, eo, none⟩) N.ends.length ec) v1 (.slice (some ⟨pb, po, none⟩) N.inputs.length pc)) by rw [hWA]; exact row_ext (row3_made w _ _ _ _) ((Ext.rfl' _).alloc' _))
  have RAQ := Lib.hid (show WA.rowIs (w.heap.size + 1) 43 3 (tri (.slice none 0 0) (.slice none 0 0) (.slice none 0 0)) by rw [hWA]; simpa using row3_made (w.alloc (.cells #[.slice (some ⟨eb, eo, none⟩) N.ends.length ec, v1, .slice (some ⟨pb, po, none⟩) N.inputs.length pc] 43)) (.slice none 0 0) (.slice none 0 0) (.slice none 0 0) 43)
  have ZA := Lib.hid (show WA.heap.size = w.heap.size + 2 by rw [hWA]; simp)
  obtain ⟨p0, p1, p2, -, -, -⟩ := row3_facts RA.out
  rw [hWA] at p0 p1 p2
  go_enter Try.func63, Try.ntmps63
  go_wp2_with fail
  rw [← hWA]
  clear hWA p0 p1 p2
  (with_reducible refine (edgesOf_any (HN.out.ext EA.out)).mono ?_)
  rintro e w1 ⟨ve, es, rfl, hw, ho, -⟩
  rw [dec_true HG.out]
  rw [edAns_t HG.out] at ho
  have X1 := Lib.hid (EA.out.trans' hw)
  have Y1 := Lib.hid hw
  have HO := Lib.hid ho.read
  have HR4 := Lib.hid (show ∀ t, t < (edgesTo N N.ends.length).length → (gr (edgesTo N N.ends.length) t).length = 4 from fun t ht => by
    obtain ⟨v, i, x, j, -, -, e⟩ := edgeL_at HG.out ht
    rw [e]; rfl)
  clear hw ho
  go_wp2_with fail
  (with_reducible refine (isBetween_any _ _ _ _).mono ?_)
  rintro e _ ⟨rfl, rfl⟩
  rw [HK.out]
  go_wp2_with fail
  (with_reducible refine (areSheetChanges_any kk hk40 (HP.out.ext X1.out) HO.out HR4.out).mono ?_)
  rintro e w2 ⟨rfl, hw⟩
  rw [dec_true HS.out]
  obtain ⟨W0, hW0⟩ : ∃ W0 : World, W0 = w2 := ⟨_, rfl⟩
  subst hW0
  have EW := Lib.hid (X1.out.trans' hw)
  have RN := Lib.hid (row_ext RA.out (Y1.out.trans' hw))
  have RQ := Lib.hid (row_ext RAQ.out (Y1.out.trans' hw))
  have ZW := Lib.hid (show w.heap.size + 2 ≤ W0.heap.size by have := ZA.out; have := (Y1.out.trans' hw).size; omega)
  have HO2 := Lib.hid (HO.out.ext hw)
  have H0 := Lib.hid (show HNet W0 (W0.alloc (.cells #[.slice none 0 0, .slice none 0 0, .slice none 0 0] 43)) (liftB N kk 0) W0.heap.size (.slice none 0 0) (.slice none 0 0) (.slice none 0 0) from HNet.made (Ext.rfl' W0) (own_zero W0) (Fresh.nil _))
  obtain ⟨p0, p1, p2, -, -, -⟩ := row3_facts (row_ext RN.out ((Ext.rfl' _).alloc' (.cells #[.slice none 0 0, .slice none 0 0, .slice none 0 0] 43)))
  clear hw HO Y1 RA RAQ
  go_wp2_with fail
  obtain ⟨p, hp⟩ : ∃ p, p = W0.heap.size := ⟨_, rfl⟩
  rw [← hp] at H0
  rw [← hp]
  clear hp p0 p1 p2
  go_loopg [41] N.ends.length (fun g' i wr => ∃ v : Nat, v ≤ N.ends.length ∧ g' = N.ends.length - v ∧ i = .int .i64 v ∧ Hid (∃ y0 y1 y2, HNet W0 wr (liftB N kk (v * kk)) p y0 y1 y2))
  case atStart => exact ⟨0, Nat.zero_le _, rfl, rfl, _, _, _, by rw [Nat.zero_mul]; exact H0.out⟩
  case round =>
    obtain ⟨v, hv, rfl, rfl, Hr⟩ := hrel
    by_cases hlt : v < N.ends.length
    case pos =>
      obtain ⟨_, hra, hrow⟩ := HEC.out v hlt
      obtain ⟨aa, ab, ao, ac, rfl, -, hal, ham, -⟩ := hrow
      unfold maxLen at ham
      have e1 : wr.cell? ⟨eb, eo + v, none⟩ = some (.slice aa (gr N.ends v).length ac) := by
        obtain ⟨y0, y1, y2, hh⟩ := Hr.out
        exact (EW.out.trans' hh.ext).cell' hra
      have hL6 := HD6.out v hlt
      obtain ⟨L, hL⟩ : ∃ L, L = (gr N.ends v).length := ⟨_, rfl⟩
      have HLW := Lib.hid hL
      rw [← hL] at hL6 hal e1
      clear hra hL
      go_wp2_with fail
      clear e1
      go_loopg [47] kk (fun g' i wx => ∃ s : Nat, s ≤ kk ∧ g' = kk - s ∧ i = .int .i64 s ∧ Hid (∃ y0 y1 y2, HNet W0 wx (liftB N kk (v * kk + s)) p y0 y1 y2))
      case atStart => exact ⟨0, Nat.zero_le _, rfl, rfl, Hr.out⟩
      case round =>
        obtain ⟨s, hs, rfl, rfl, Hs⟩ := hrel
        by_cases hst : s < kk
        case pos =>
          have hmk := dmLt (T := N.ends.length) hst hlt
          have HDV := Lib.hid (dmK (t := v) hst).1
          obtain ⟨m, hm⟩ : ∃ m, m = v * kk + s := ⟨_, rfl⟩
          have HMM := Lib.hid hm
          have hm1600 : m ≤ 1600 := by have := Nat.mul_le_mul h40 hk40; omega
          obtain ⟨y0, y1, y2, hh⟩ := Hs.out
          rw [← hm] at hh
          obtain ⟨a0, c0, a1, c1, a2, c2, rfl, rfl, rfl⟩ := hh.form
          have hl1 : (liftB N kk m).ends.length = m := liftB_len _ _ _
          have hl2 : (liftB N kk m).inputs.length = m := by simp [liftB]
          rw [hl1, hl2] at hh
          obtain ⟨W4, hW4⟩ : ∃ W4 : World, W4 = wr := ⟨_, rfl⟩
          subst hW4
          have HE0 := Lib.hid hh
          have HL1 := Lib.hid hl1
          have HL2 := Lib.hid hl2
          have hml := fun u => HML.out L u hL6
          obtain ⟨m0, -, -, -, -, -⟩ := row3_facts HE0.out.box
          obtain ⟨R, ho1, hback⟩ := HE0.out.rows
          rw [HL1.out] at ho1 hback
          have HO1 := Lib.hid ho1
          have HB1 := Lib.hid hback
          have mkS : ∀ w' : World, Ext W4 w' → w'.cell? ⟨p, 0, none⟩ = some (.slice a0 m c0) := fun w' h => h.cell' m0
          have hex := HE0.out.ext.size
          clear ho1 hback hh hl1 hl2 hm Hs
          go_upto_region 10 with fail
          refine wp_region_gate (n := 8) (S := fun w' => w'.cell? ⟨p, 0, none⟩ = some (.slice a0 m c0)) (by kernel_rfl) (mkS _ (Ext.rfl' W4).drew') (fun hHeld => ?_)
          refine wpAnyG_take (i := 0) (v := ?_) rfl (by decide +kernel) (by kernel_rfl) (by decide) (by kernel_rfl) (by kernel_rfl) (fun _ _ _ h => h) (Or.inl ⟨by kernel_rfl, ?_⟩) hHeld ?_
          rotate_left 1
          · (intro w' hSw; (try dsimp only at hSw); go_simp) <;> with_reducible rfl
          simp only [Act.put]
          refine wpAnyG_take (i := 1) (v := ?_) rfl (by decide +kernel) (by kernel_rfl) (by decide) (by kernel_rfl) (by kernel_rfl) (fun _ _ _ h => h) (Or.inl ⟨by kernel_rfl, ?_⟩) hHeld ?_
          rotate_left 1
          · (intro w' hSw; (try dsimp only at hSw); go_simp) <;> with_reducible rfl
          simp only [Act.put]
          refine wpAnyG_take (i := 2) (v := ?_) rfl (by decide +kernel) (by kernel_rfl) (by decide) (by kernel_rfl) (by kernel_rfl) (fun _ _ _ h => h) (Or.inl ⟨by kernel_rfl, ?_⟩) hHeld ?_
          rotate_left 1
          · (intro w' hSw; (try dsimp only at hSw); go_simp) <;> with_reducible rfl
          simp only [Act.put]
          refine wpAnyG_take (i := 3) (v := ?_) rfl (by decide +kernel) (by kernel_rfl) (by decide) (by kernel_rfl) (by kernel_rfl) (fun _ _ _ h => h) (Or.inl ⟨by kernel_rfl, ?_⟩) hHeld ?_
          rotate_left 1
          · (intro w' hSw; (try dsimp only at hSw); go_simp) <;> with_reducible rfl
          simp only [Act.put]
          refine wpAnyG_one (i := 4) rfl (by kernel_rfl) rfl (fun K hK => ?_)
          go_simp
          refine hK.out _ _ (fun _ => mkS _ (by repeat (first | exact Ext.rfl' _ | refine Ext.alloc' ?_ _ | refine Ext.drew' ?_))) (fun _ => ?_)
          clear hK K
          refine wpAnyG_one (i := 5) rfl (by kernel_rfl) rfl (fun K hK => ?_)
          go_simp
          refine hK.out _ _ (fun _ => mkS _ (by repeat (first | exact Ext.rfl' _ | refine Ext.alloc' ?_ _ | refine Ext.drew' ?_))) (fun _ => ?_)
          clear hK K
          refine wpAnyG_one (i := 6) rfl (by kernel_rfl) rfl (fun K hK => ?_)
          have XA := Lib.hid (show Ext W4 (((W4.alloc (.cells (madeCells #[.int .i64 0, .int .i64 0] (L * 2)) 123)).alloc (.cells #[.slice (some ⟨W4.heap.size, 0, none⟩) L L] 89)).drew) from (((Ext.rfl' W4).alloc' _).alloc' _).drew')
          refine wp_app2 (.tmp 50) (.tmp 54) 41 rfl W0.heap.size 89 i0 (.slice none 0 0) 1 24 Try.underlying41 I0.out.1 I0.out.2.1 I0.out.2.2.1 I0.out.2.2.2 rfl (by decide) (.slice a0 m c0) m ((List.range m).map R) rfl (owns_ext HO1.out XA.out) (some ⟨W4.heap.size + 1, 0, none⟩) 1 1 [.slice (some ⟨W4.heap.size, 0, none⟩) L L] rfl (by have := src_drew (src_one (W4.alloc (.cells (madeCells #[.int .i64 0, .int .i64 0] (L * 2)) 123)) (.slice (some ⟨W4.heap.size, 0, none⟩) L L) 89 rfl); simpa using this) (by unfold maxLen; omega) (by omega) (by simp; omega) ?_
          intro v' wA hg
          have HA1 := Lib.hid (HB1.out _ wA (.slice (some ⟨W4.heap.size, 0, none⟩) L L) v' (List.replicate L (0, 0)) [W4.heap.size] XA.out ((own_zeroEnds (emade W4 L) (by omega)).ext ((Ext.rfl' _).alloc' _).drew') (by simp) hg.1)
          obtain ⟨va, vc, rfl⟩ := owns_slice hg.1.1
          obtain ⟨cz, -, -, cf, -, -⟩ := row3_facts HA1.out.1
          clear hg hex
          refine hK.out _ _ (fun _ => cz) (fun hHeld' => ?_)
          have hHeld := hHeld' (by decide)
          clear hK K hHeld'
          refine wpAnyG_take (i := 7) (v := ?_) rfl (by decide +kernel) (by kernel_rfl) (by decide) (by kernel_rfl) (by kernel_rfl) (fun _ _ _ h => h) (Or.inl ⟨by kernel_rfl, ?_⟩) hHeld ?_
          rotate_left 1
          · (intro w' hSw; (try dsimp only at hSw); go_simp) <;> with_reducible rfl
          simp only [Act.put]
          refine wpAnyG_one (i := 8) rfl (by kernel_rfl) rfl (fun K hK => ?_)
          go_simp
          refine hK.out _ _ (fun h => absurd rfl h) (fun _ => ?_)
          clear hK K
          refine wpAnyG_done (by kernel_rfl) ?_ _
          clear hHeld mkS cz cf m0 hml
          obtain ⟨W5, hW5⟩ : ∃ W5, W5 = wA.setCell ⟨p, 0, none⟩ (.slice va (m + 1) vc) := ⟨_, rfl⟩
          have H5 := Lib.hid (show HNet W0 W5 (addRow (liftB N kk m) (List.replicate L (0, 0))) p (.slice va (m + 1) vc) (.slice a1 (liftB N kk m).ids.length c1) (.slice a2 m c2) by rw [hW5]; exact HA1.out.2)
          rw [← hW5]
          clear hW5 HA1
          have K5 := Lib.hid (EW.out.trans' H5.out.ext)
          have hxi : v < N.inputs.length := by have := HIL.out; omega
          obtain ⟨_, hpi, rfl, hpr⟩ := HPC.out v hxi
          obtain ⟨xi, hxe⟩ : ∃ y, y = gi N.inputs v := ⟨_, rfl⟩
          rw [← hxe] at hpi hpr
          have HXE := Lib.hid hxe
          have hIn : (addRow (liftB N kk m) (List.replicate L (0, 0))).inputs.length = m := HL2.out
          obtain ⟨ho2, hb2⟩ := H5.out.ints
          rw [hIn] at ho2 hb2
          have HO2 := Lib.hid ho2
          have HB2 := Lib.hid hb2
          have hex := H5.out.ext.size
          obtain ⟨-, -, m2, -, -, -⟩ := row3_facts H5.out.box
          obtain ⟨-, -, p2, -, -, -⟩ := row3_facts (row_ext RN.out H5.out.ext)
          have mkS : ∀ w' : World, Ext W5 w' → w'.cell? ⟨p, 2, none⟩ = some (.slice a2 m c2) ∧ w'.cell? ⟨w.heap.size, 2, none⟩ = some (.slice (some ⟨pb, po, none⟩) N.inputs.length pc) ∧ w'.cell? ⟨pb, po + v, none⟩ = some (.int .i64 xi) := fun w' h => ⟨h.cell' m2, h.cell' p2, h.cell' (K5.out.cell' hpi)⟩
          clear ho2 hb2 hIn hxe
          go_upto_region 11 with fail
          refine wp_region_gate (n := 10) (S := fun w' => w'.cell? ⟨p, 2, none⟩ = some (.slice a2 m c2) ∧ w'.cell? ⟨w.heap.size, 2, none⟩ = some (.slice (some ⟨pb, po, none⟩) N.inputs.length pc) ∧ w'.cell? ⟨pb, po + v, none⟩ = some (.int .i64 xi)) (by kernel_rfl) (mkS _ (Ext.rfl' W5).drew') (fun hHeld => ?_)
          refine wpAnyG_take (i := 0) (v := ?_) rfl (by decide +kernel) (by kernel_rfl) (by decide) (by kernel_rfl) (by kernel_rfl) (fun _ _ _ h => h) (Or.inl ⟨by kernel_rfl, ?_⟩) hHeld ?_
          rotate_left 1
          · (intro w' hSw; (try dsimp only at hSw); go_simp) <;> with_reducible rfl
          simp only [Act.put]
          refine wpAnyG_take (i := 1) (v := ?_) rfl (by decide +kernel) (by kernel_rfl) (by decide) (by kernel_rfl) (by kernel_rfl) (fun _ _ _ h => h) (Or.inl ⟨by kernel_rfl, ?_⟩) hHeld ?_
          rotate_left 1
          · (intro w' hSw; (try dsimp only at hSw); go_simp) <;> with_reducible rfl
          simp only [Act.put]
          refine wpAnyG_take (i := 2) (v := ?_) rfl (by decide +kernel) (by kernel_rfl) (by decide) (by kernel_rfl) (by kernel_rfl) (fun _ _ _ h => h) (Or.inl ⟨by kernel_rfl, ?_⟩) hHeld ?_
          rotate_left 1
          · (intro w' hSw; (try dsimp only at hSw); go_simp) <;> with_reducible rfl
          simp only [Act.put]
          refine wpAnyG_take (i := 3) (v := ?_) rfl (by decide +kernel) (by kernel_rfl) (by decide) (by kernel_rfl) (by kernel_rfl) (fun _ _ _ h => h) (Or.inl ⟨by kernel_rfl, ?_⟩) hHeld ?_
          rotate_left 1
          · (intro w' hSw; (try dsimp only at hSw); go_simp) <;> with_reducible rfl
          simp only [Act.put]
          refine wpAnyG_take (i := 4) (v := ?_) rfl (by decide +kernel) (by kernel_rfl) (by decide) (by kernel_rfl) (by kernel_rfl) (fun _ _ _ h => h) (Or.inl ⟨by kernel_rfl, ?_⟩) hHeld ?_
          rotate_left 1
          · (intro w' hSw; (try dsimp only at hSw); go_simp) <;> with_reducible rfl
          simp only [Act.put]
          refine wpAnyG_take (i := 5) (v := ?_) rfl (by decide +kernel) (by kernel_rfl) (by decide) (by kernel_rfl) (by kernel_rfl) (fun _ _ _ h => h) (Or.inl ⟨by kernel_rfl, ?_⟩) hHeld ?_
          rotate_left 1
          · (intro w' hSw; (try dsimp only at hSw); go_simp) <;> with_reducible rfl
          simp only [Act.put]
          refine wpAnyG_take (i := 6) (v := ?_) rfl (by decide +kernel) (by kernel_rfl) (by decide) (by kernel_rfl) (by kernel_rfl) (fun _ _ _ h => h) (Or.inl ⟨by kernel_rfl, ?_⟩) hHeld ?_
          rotate_left 1
          · (intro w' hSw; (try dsimp only at hSw); go_simp) <;> with_reducible rfl
          simp only [Act.put]
          refine wpAnyG_one (i := 7) rfl (by kernel_rfl) rfl (fun K hK => ?_)
          go_simp
          refine hK.out _ _ (fun _ => mkS _ (by repeat (first | exact Ext.rfl' _ | refine Ext.alloc' ?_ _ | refine Ext.drew' ?_))) (fun _ => ?_)
          clear hK K
          refine wpAnyG_one (i := 8) rfl (by kernel_rfl) rfl (fun K hK => ?_)
          have XB := Lib.hid (show Ext W5 ((W5.alloc (.cells #[.int .i64 xi] 3)).drew) from ((Ext.rfl' W5).alloc' _).drew')
          refine wp_app2 (.tmp 58) (.tmp 64) 24 rfl W0.heap.size 3 i3 (.int .i64 0) 1 8 Try.underlying24 I3.out.1 I3.out.2.1 I3.out.2.2.1 I3.out.2.2.2 rfl (by decide) (.slice a2 m c2) m (intCells (liftB N kk m).inputs) rfl (owns_ext HO2.out XB.out) (some ⟨W5.heap.size, 0, none⟩) 1 1 [.int .i64 xi] rfl (src_drew (src_one W5 _ _ rfl)) (by unfold maxLen; omega) (by omega) (by simp; omega) ?_
          intro v' wB hg
          have HA2 := Lib.hid (HB2.out _ wB v' xi XB.out hpr hg)
          have EB := Lib.hid (show Ext W0 wB from hg.1.ext (H5.out.ext.trans' XB.out) fun b hb => ((owns_ext HO2.out XB.out).lt b hb).1)
          obtain ⟨ya, yc, rfl⟩ := owns_slice hg.1.1
          obtain ⟨-, -, cz, -, -, cf⟩ := row3_facts HA2.out.1
          obtain ⟨-, -, r2, -, -, -⟩ := row3_facts (row_ext RN.out EB.out)
          clear hg hex
          refine hK.out _ _ (fun _ => ⟨cz, r2, (EW.out.trans' EB.out).cell' hpi⟩) (fun hHeld' => ?_)
          have hHeld := hHeld' (by decide)
          clear hK K hHeld'
          refine wpAnyG_take (i := 9) (v := ?_) rfl (by decide +kernel) (by kernel_rfl) (by decide) (by kernel_rfl) (by kernel_rfl) (fun _ _ _ h => h) (Or.inl ⟨by kernel_rfl, ?_⟩) hHeld ?_
          rotate_left 1
          · (intro w' hSw; (try dsimp only at hSw); go_simp) <;> with_reducible rfl
          simp only [Act.put]
          refine wpAnyG_one (i := 10) rfl (by kernel_rfl) rfl (fun K hK => ?_)
          go_simp
          refine hK.out _ _ (fun h => absurd rfl h) (fun _ => ?_)
          clear hK K
          refine wpAnyG_done (by kernel_rfl) ?_ _
          clear hHeld mkS cz cf r2 m2 p2
          have HLB := Lib.hid (show addIn (addRow (liftB N kk m) (List.replicate L (0, 0))) xi = liftB N kk (v * kk + (s + 1)) by
            have e := liftB_step N kk m
            rw [show m / kk = v by rw [HMM.out]; exact HDV.out] at e
            rw [HLW.out, HXE.out, e, HMM.out]; rfl)
          have H7 := Lib.hid HA2.out.2
          rw [HLB.out] at H7
          clear HA2
          go_wp2
          go_roundg (kk - (s + 1))
          case measure => omega
          case rel => exact ⟨s + 1, by omega, rfl, by go_num, _, _, _, H7.out⟩
        obtain rfl : s = kk := by omega
        have H8 := Lib.hid (show ∃ y0 y1 y2, HNet W0 wr (liftB N s ((v + 1) * s)) p y0 y1 y2 by rw [Nat.succ_mul]; exact Hs.out)
        go_wp2
        go_roundg (N.ends.length - (v + 1))
        case measure => omega
        case rel => exact ⟨v + 1, by omega, rfl, by go_num, H8.out⟩
    obtain rfl : v = N.ends.length := by omega
    have hl1 : (liftB N kk (N.ends.length * kk)).ends.length = N.ends.length * kk := liftB_len _ _ _
    have hl2 : (liftB N kk (N.ends.length * kk)).inputs.length = N.ends.length * kk := by simp [liftB]
    have hl3 : (liftB N kk (N.ends.length * kk)).ids.length = 0 := rfl
    obtain ⟨y0, y1, y2, hh⟩ := Hr.out
    obtain ⟨a0, c0, a1, c1, a2, c2, rfl, rfl, rfl⟩ := hh.form
    rw [hl1, hl2, hl3] at hh
    obtain ⟨M, hM⟩ : ∃ M, M = N.ends.length * kk := ⟨_, rfl⟩
    have HMM := Lib.hid hM
    have hM16 : M ≤ 1600 := by have := Nat.mul_le_mul h40 hk40; omega
    have HB0 := Lib.hid (show HNet W0 wr (linkTo (liftB N kk (N.ends.length * kk)) (liftL N kk P) 0) p (.slice a0 M c0) (.slice a1 0 c1) (.slice a2 M c2) by rw [hM]; exact hh)
    have HTL := Lib.hid hS0.out.1
    obtain ⟨ra0, rb0, ro0, rc0, rfl, hra0, hrl0, hrm0, hrc0⟩ := HO2.out
    obtain ⟨qa, qb, qo, qc, rfl, hqa, hql, hqm, hqc⟩ := HP.out
    unfold maxLen at hrm0 hqm
    obtain ⟨T, hT⟩ : ∃ T, T = (edgesTo N N.ends.length).length := ⟨_, rfl⟩
    have HT := Lib.hid hT
    rw [HTL.out, ← hT] at hql
    rw [HTL.out, ← hT]
    rw [← hT] at hrl0
    have HRA := Lib.hid hra0
    have HRC := Lib.hid hrc0
    have HQA := Lib.hid hqa
    have HQC := Lib.hid hqc
    have hE240 := (edgesTo_len N (good_rows HG.out) N.ends.length (Nat.le_refl _)).1
    rw [← hT] at hE240
    clear hl1 hl2 hl3 hh hM Hr hra0 hrc0 hqa hqc hT
    go_wp2_with fail
    go_loopg [71] T (fun g' i wr => ∃ t : Nat, t ≤ T ∧ g' = T - t ∧ i = .int .i64 t ∧ Hid (HNet W0 wr (linkTo (liftB N kk (N.ends.length * kk)) (liftL N kk P) (t * kk)) p (.slice a0 M c0) (.slice a1 0 c1) (.slice a2 M c2)))
    case atStart => exact ⟨0, Nat.zero_le _, rfl, rfl, by rw [Nat.zero_mul]; exact HB0.out⟩
    case round =>
      obtain ⟨t, ht, rfl, rfl, Ht⟩ := hrel
      by_cases htt : t < T
      case pos =>
        have htE : t < (edgesTo N N.ends.length).length := by rw [← HT.out]; exact htt
        obtain rfl := HRA.out (by omega)
        obtain rfl := HQA.out (by rw [HTL.out]; omega)
        obtain ⟨z1, hz1, hrow1⟩ := HRC.out t htE
        obtain ⟨z2, hz2, hrow2⟩ := HQC.out t (by rw [HTL.out]; exact htE)
        obtain ⟨v, i, x, j, ho, hf, he⟩ := edgeL_at HG.out htE
        have hq : gr (edgesTo N N.ends.length) t = [(v : Int), (i : Int), (x : Int), (j : Int)] := by rw [he]; unfold quad; rw [ho.n1, ho.p1]
        rw [hq] at hrow1
        obtain ⟨ra, rb, ro, rc, rfl, hra, hrl, hrm, hrc⟩ := hrow1
        obtain rfl := hra (by simp)
        unfold maxLen at hrm
        have cell : ∀ (n : Nat) (y : Nat), n < 4 → gi [(v : Int), (i : Int), (x : Int), (j : Int)] n = (y : Int) → W0.cell? ⟨rb, ro + n, none⟩ = some (.int .i64 y) := fun n y hn hy => by
          obtain ⟨z1, k1, k2, _⟩ := hrc n hn
          rw [hy] at k2
          rw [← k2]
          exact k1
        have Q1 := Lib.hid (show W0.cell? ⟨rb, ro, none⟩ = some (.int .i64 (v : Int)) from cell 0 v (by omega) rfl)
        have Q2 := Lib.hid (cell 1 i (by omega) rfl)
        have Q3 := Lib.hid (cell 2 x (by omega) rfl)
        have Q4 := Lib.hid (cell 3 j (by omega) rfl)
        simp only [List.length_cons, List.length_nil, Nat.zero_add] at hrl hz1
        obtain ⟨pa', pb', po', pc', rfl, hpa', hpl', hpm', hpc'⟩ := hrow2
        unfold maxLen at hpm'
        have hPL : (gr P t).length = kk := (hS0.out.2 t htE).1.1
        rw [hPL] at hpa' hpl' hpc' hz2
        obtain rfl := hpa' (by omega)
        have HPC' := Lib.hid hpc'
        have HOT := Lib.hid ho
        have HFT := Lib.hid hf
        have HET := Lib.hid he
        have r1 := Ht.out.ext.cell' hz1
        have r2 := (EW.out.trans' Ht.out.ext).cell' hz2
        clear cell hrc hz1 hz2 hq hpc' hra ho hf he
        go_wp2_with fail
        clear r1 r2
        go_loopg [81] kk (fun g' i wx => ∃ s : Nat, s ≤ kk ∧ g' = kk - s ∧ i = .int .i64 s ∧ Hid (HNet W0 wx (linkTo (liftB N kk (N.ends.length * kk)) (liftL N kk P) (t * kk + s)) p (.slice a0 M c0) (.slice a1 0 c1) (.slice a2 M c2)))
        case atStart => exact ⟨0, Nat.zero_le _, rfl, rfl, Ht.out⟩
        case round =>
          obtain ⟨s, hs, rfl, rfl, Hs⟩ := hrel
          by_cases hst : s < kk
          case pos =>
            have hm := dmLt hst htE
            obtain ⟨t', s', v', i', x', j', c, A⟩ := pair_at HG.out hS0.out hm
            obtain ⟨rfl, rfl⟩ := dmEq hst A.hs A.hm
            obtain ⟨rfl, rfl⟩ := quad_inj (HET.out.symm.trans A.e)
            obtain ⟨rfl, rfl⟩ := oth_det HOT.out A.o
            obtain ⟨_, d0, rfl, -⟩ := HPC'.out s hst
            rw [A.p] at d0
            have d1 := (EW.out.trans' Hs.out.ext).cell' d0
            have hv40 := HOT.out.hv
            have hx40 := HOT.out.hw
            have hi6 := Nat.lt_of_lt_of_le HOT.out.hi (HD6.out v HOT.out.hv)
            have hj6 := Nat.lt_of_lt_of_le HOT.out.hj (HD6.out x HOT.out.hw)
            have hc40 := A.hc
            obtain ⟨hpo, hlk⟩ := pair_ports hm A
            obtain ⟨B1, hB1⟩ : ∃ B1, B1 = v * kk := ⟨_, rfl⟩
            obtain ⟨B2, hB2⟩ : ∃ B2, B2 = x * kk := ⟨_, rfl⟩
            have hb1 : B1 ≤ 1600 := by have := Nat.mul_le_mul (Nat.le_of_lt (Nat.lt_of_lt_of_le hv40 h40)) hk40; omega
            have hb2 : B2 ≤ 1600 := by have := Nat.mul_le_mul (Nat.le_of_lt (Nat.lt_of_lt_of_le hx40 h40)) hk40; omega
            have g1 : (v : Int) * (kk : Int) = (B1 : Int) := by rw [hB1]; exact (Int.natCast_mul _ _).symm
            have g2 : (x : Int) * (kk : Int) = (B2 : Int) := by rw [hB2]; exact (Int.natCast_mul _ _).symm
            rw [← hB1, ← hB2] at hpo hlk
            obtain ⟨U1, hU1⟩ : ∃ U1, U1 = B1 + s := ⟨_, rfl⟩
            obtain ⟨U2, hU2⟩ : ∃ U2, U2 = B2 + c := ⟨_, rfl⟩
            rw [← hU1, ← hU2] at hpo hlk
            have hw1 : IntKind.i64.wrap ((v : Int) * (kk : Int)) = (B1 : Int) := by rw [g1]; exact IntWalk.i64_in _ (by omega)
            have hw2 : IntKind.i64.wrap ((B1 : Int) + (s : Int)) = (U1 : Int) := by rw [show (B1 : Int) + (s : Int) = (U1 : Int) by omega]; exact IntWalk.i64_in _ (by omega)
            have hw3 : IntKind.i64.wrap ((x : Int) * (kk : Int)) = (B2 : Int) := by rw [g2]; exact IntWalk.i64_in _ (by omega)
            have hw4 : IntKind.i64.wrap ((B2 : Int) + (c : Int)) = (U2 : Int) := by rw [show (B2 : Int) + (c : Int) = (U2 : Int) by omega]; exact IntWalk.i64_in _ (by omega)
            obtain ⟨W4, hW4⟩ : ∃ W4 : World, W4 = wr := ⟨_, rfl⟩
            subst hW4
            have X5 := Lib.hid (show Ext W4 ((W4.alloc (.cells #[.int .i64 (U1 : Int), .int .i64 (i : Int), .int .i64 (U2 : Int), .int .i64 (j : Int)] 124)).drew) from ((Ext.rfl' _).alloc' _).drew')
            have FL := Lib.hid (flat_pair (w := W4) (a := (U1 : Int)) (b := (i : Int)) (c := (U2 : Int)) (d := (j : Int)) (by unfold inI64; omega) (by unfold inI64; omega) (by unfold inI64; omega) (by unfold inI64; omega))
            obtain ⟨bs4, ho, hnd, hge⟩ := Hs.out.net
            have HO4 := Lib.hid ho
            have HND := Lib.hid hnd
            have HGE := Lib.hid hge
            have HPO := Lib.hid hpo
            have HLK := Lib.hid hlk
            have q1 := Hs.out.ext.cell' Q1.out
            have q2 := Hs.out.ext.cell' Q2.out
            have q3 := Hs.out.ext.cell' Q3.out
            have q4 := Hs.out.ext.cell' Q4.out
            obtain ⟨m0, m1, m2, -, -, -⟩ := row3_facts Hs.out.box
            have mkS : ∀ w' : World, Ext W4 w' → w'.cell? ⟨p, 0, none⟩ = some (.slice a0 M c0) ∧ w'.cell? ⟨p, 1, none⟩ = some (.slice a1 0 c1) ∧ w'.cell? ⟨p, 2, none⟩ = some (.slice a2 M c2) ∧ w'.cell? ⟨rb, ro, none⟩ = some (.int .i64 (v : Int)) ∧ w'.cell? ⟨rb, ro + 1, none⟩ = some (.int .i64 (i : Int)) ∧ w'.cell? ⟨rb, ro + 2, none⟩ = some (.int .i64 (x : Int)) ∧ w'.cell? ⟨rb, ro + 3, none⟩ = some (.int .i64 (j : Int)) := fun w' h => ⟨h.cell' m0, h.cell' m1, h.cell' m2, h.cell' q1, h.cell' q2, h.cell' q3, h.cell' q4⟩
            clear d0 hm ho hnd hge hpo hlk hB1 hB2 hU1 hU2 g1 g2 A hPL
            go_upto_region 20 with fail
            clear d1
            refine wp_region_gate (n := 25) (S := fun w' => w'.cell? ⟨p, 0, none⟩ = some (.slice a0 M c0) ∧ w'.cell? ⟨p, 1, none⟩ = some (.slice a1 0 c1) ∧ w'.cell? ⟨p, 2, none⟩ = some (.slice a2 M c2) ∧ w'.cell? ⟨rb, ro, none⟩ = some (.int .i64 (v : Int)) ∧ w'.cell? ⟨rb, ro + 1, none⟩ = some (.int .i64 (i : Int)) ∧ w'.cell? ⟨rb, ro + 2, none⟩ = some (.int .i64 (x : Int)) ∧ w'.cell? ⟨rb, ro + 3, none⟩ = some (.int .i64 (j : Int))) (by kernel_rfl) (mkS _ (Ext.rfl' W4).drew') (fun hHeld => ?_)
            refine wpAnyG_take (i := 0) (v := ?_) rfl (by decide +kernel) (by kernel_rfl) (by decide) (by kernel_rfl) (by kernel_rfl) (fun _ _ _ h => h) (Or.inl ⟨by kernel_rfl, ?_⟩) hHeld ?_
            rotate_left 1
            · (intro w' hSw; (try dsimp only at hSw); go_simp; (try simp only [hw1, hw2, hw3, hw4])) <;> with_reducible rfl
            simp only [Act.put]
            refine wpAnyG_take (i := 1) (v := ?_) rfl (by decide +kernel) (by kernel_rfl) (by decide) (by kernel_rfl) (by kernel_rfl) (fun _ _ _ h => h) (Or.inl ⟨by kernel_rfl, ?_⟩) hHeld ?_
            rotate_left 1
            · (intro w' hSw; (try dsimp only at hSw); go_simp; (try simp only [hw1, hw2, hw3, hw4])) <;> with_reducible rfl
            simp only [Act.put]
            refine wpAnyG_take (i := 2) (v := ?_) rfl (by decide +kernel) (by kernel_rfl) (by decide) (by kernel_rfl) (by kernel_rfl) (fun _ _ _ h => h) (Or.inl ⟨by kernel_rfl, ?_⟩) hHeld ?_
            rotate_left 1
            · (intro w' hSw; (try dsimp only at hSw); go_simp; (try simp only [hw1, hw2, hw3, hw4])) <;> with_reducible rfl
            simp only [Act.put]
            refine wpAnyG_take (i := 3) (v := ?_) rfl (by decide +kernel) (by kernel_rfl) (by decide) (by kernel_rfl) (by kernel_rfl) (fun _ _ _ h => h) (Or.inl ⟨by kernel_rfl, ?_⟩) hHeld ?_
            rotate_left 1
            · (intro w' hSw; (try dsimp only at hSw); go_simp; (try simp only [hw1, hw2, hw3, hw4])) <;> with_reducible rfl
            simp only [Act.put]
            refine wpAnyG_take (i := 4) (v := ?_) rfl (by decide +kernel) (by kernel_rfl) (by decide) (by kernel_rfl) (by kernel_rfl) (fun _ _ _ h => h) (Or.inl ⟨by kernel_rfl, ?_⟩) hHeld ?_
            rotate_left 1
            · (intro w' hSw; (try dsimp only at hSw); go_simp; (try simp only [hw1, hw2, hw3, hw4])) <;> with_reducible rfl
            simp only [Act.put]
            refine wpAnyG_take (i := 5) (v := ?_) rfl (by decide +kernel) (by kernel_rfl) (by decide) (by kernel_rfl) (by kernel_rfl) (fun _ _ _ h => h) (Or.inl ⟨by kernel_rfl, ?_⟩) hHeld ?_
            rotate_left 1
            · (intro w' hSw; (try dsimp only at hSw); go_simp; (try simp only [hw1, hw2, hw3, hw4])) <;> with_reducible rfl
            simp only [Act.put]
            refine wpAnyG_take (i := 6) (v := ?_) rfl (by decide +kernel) (by kernel_rfl) (by decide) (by kernel_rfl) (by kernel_rfl) (fun _ _ _ h => h) (Or.inl ⟨by kernel_rfl, ?_⟩) hHeld ?_
            rotate_left 1
            · (intro w' hSw; (try dsimp only at hSw); go_simp; (try simp only [hw1, hw2, hw3, hw4])) <;> with_reducible rfl
            simp only [Act.put]
            refine wpAnyG_take (i := 7) (v := ?_) rfl (by decide +kernel) (by kernel_rfl) (by decide) (by kernel_rfl) (by kernel_rfl) (fun _ _ _ h => h) (Or.inl ⟨by kernel_rfl, ?_⟩) hHeld ?_
            rotate_left 1
            · (intro w' hSw; (try dsimp only at hSw); go_simp; (try simp only [hw1, hw2, hw3, hw4])) <;> with_reducible rfl
            simp only [Act.put]
            refine wpAnyG_take (i := 8) (v := ?_) rfl (by decide +kernel) (by kernel_rfl) (by decide) (by kernel_rfl) (by kernel_rfl) (fun _ _ _ h => h) (Or.inl ⟨by kernel_rfl, ?_⟩) hHeld ?_
            rotate_left 1
            · (intro w' hSw; (try dsimp only at hSw); go_simp; (try simp only [hw1, hw2, hw3, hw4])) <;> with_reducible rfl
            simp only [Act.put]
            refine wpAnyG_take (i := 9) (v := ?_) rfl (by decide +kernel) (by kernel_rfl) (by decide) (by kernel_rfl) (by kernel_rfl) (fun _ _ _ h => h) (Or.inl ⟨by kernel_rfl, ?_⟩) hHeld ?_
            rotate_left 1
            · (intro w' hSw; (try dsimp only at hSw); go_simp; (try simp only [hw1, hw2, hw3, hw4])) <;> with_reducible rfl
            simp only [Act.put]
            refine wpAnyG_take (i := 10) (v := ?_) rfl (by decide +kernel) (by kernel_rfl) (by decide) (by kernel_rfl) (by kernel_rfl) (fun _ _ _ h => h) (Or.inl ⟨by kernel_rfl, ?_⟩) hHeld ?_
            rotate_left 1
            · (intro w' hSw; (try dsimp only at hSw); go_simp; (try simp only [hw1, hw2, hw3, hw4])) <;> with_reducible rfl
            simp only [Act.put]
            refine wpAnyG_take (i := 11) (v := ?_) rfl (by decide +kernel) (by kernel_rfl) (by decide) (by kernel_rfl) (by kernel_rfl) (fun _ _ _ h => h) (Or.inl ⟨by kernel_rfl, ?_⟩) hHeld ?_
            rotate_left 1
            · (intro w' hSw; (try dsimp only at hSw); go_simp; (try simp only [hw1, hw2, hw3, hw4])) <;> with_reducible rfl
            simp only [Act.put]
            refine wpAnyG_take (i := 12) (v := ?_) rfl (by decide +kernel) (by kernel_rfl) (by decide) (by kernel_rfl) (by kernel_rfl) (fun _ _ _ h => h) (Or.inl ⟨by kernel_rfl, ?_⟩) hHeld ?_
            rotate_left 1
            · (intro w' hSw; (try dsimp only at hSw); go_simp; (try simp only [hw1, hw2, hw3, hw4])) <;> with_reducible rfl
            simp only [Act.put]
            refine wpAnyG_take (i := 13) (v := ?_) rfl (by decide +kernel) (by kernel_rfl) (by decide) (by kernel_rfl) (by kernel_rfl) (fun _ _ _ h => h) (Or.inl ⟨by kernel_rfl, ?_⟩) hHeld ?_
            rotate_left 1
            · (intro w' hSw; (try dsimp only at hSw); go_simp; (try simp only [hw1, hw2, hw3, hw4])) <;> with_reducible rfl
            simp only [Act.put]
            refine wpAnyG_take (i := 14) (v := ?_) rfl (by decide +kernel) (by kernel_rfl) (by decide) (by kernel_rfl) (by kernel_rfl) (fun _ _ _ h => h) (Or.inl ⟨by kernel_rfl, ?_⟩) hHeld ?_
            rotate_left 1
            · (intro w' hSw; (try dsimp only at hSw); go_simp; (try simp only [hw1, hw2, hw3, hw4])) <;> with_reducible rfl
            simp only [Act.put]
            refine wpAnyG_take (i := 15) (v := ?_) rfl (by decide +kernel) (by kernel_rfl) (by decide) (by kernel_rfl) (by kernel_rfl) (fun _ _ _ h => h) (Or.inl ⟨by kernel_rfl, ?_⟩) hHeld ?_
            rotate_left 1
            · (intro w' hSw; (try dsimp only at hSw); go_simp; (try simp only [hw1, hw2, hw3, hw4])) <;> with_reducible rfl
            simp only [Act.put]
            refine wpAnyG_take (i := 16) (v := ?_) rfl (by decide +kernel) (by kernel_rfl) (by decide) (by kernel_rfl) (by kernel_rfl) (fun _ _ _ h => h) (Or.inl ⟨by kernel_rfl, ?_⟩) hHeld ?_
            rotate_left 1
            · (intro w' hSw; (try dsimp only at hSw); go_simp; (try simp only [hw1, hw2, hw3, hw4])) <;> with_reducible rfl
            simp only [Act.put]
            refine wpAnyG_take (i := 17) (v := ?_) rfl (by decide +kernel) (by kernel_rfl) (by decide) (by kernel_rfl) (by kernel_rfl) (fun _ _ _ h => h) (Or.inl ⟨by kernel_rfl, ?_⟩) hHeld ?_
            rotate_left 1
            · (intro w' hSw; (try dsimp only at hSw); go_simp; (try simp only [hw1, hw2, hw3, hw4])) <;> with_reducible rfl
            simp only [Act.put]
            refine wpAnyG_take (i := 18) (v := ?_) rfl (by decide +kernel) (by kernel_rfl) (by decide) (by kernel_rfl) (by kernel_rfl) (fun _ _ _ h => h) (Or.inl ⟨by kernel_rfl, ?_⟩) hHeld ?_
            rotate_left 1
            · (intro w' hSw; (try dsimp only at hSw); go_simp; (try simp only [hw1, hw2, hw3, hw4])) <;> with_reducible rfl
            simp only [Act.put]
            refine wpAnyG_take (i := 19) (v := ?_) rfl (by decide +kernel) (by kernel_rfl) (by decide) (by kernel_rfl) (by kernel_rfl) (fun _ _ _ h => h) (Or.inl ⟨by kernel_rfl, ?_⟩) hHeld ?_
            rotate_left 1
            · (intro w' hSw; (try dsimp only at hSw); go_simp; (try simp only [hw1, hw2, hw3, hw4])) <;> with_reducible rfl
            simp only [Act.put]
            refine wpAnyG_take (i := 20) (v := ?_) rfl (by decide +kernel) (by kernel_rfl) (by decide) (by kernel_rfl) (by kernel_rfl) (fun _ _ _ h => h) (Or.inl ⟨by kernel_rfl, ?_⟩) hHeld ?_
            rotate_left 1
            · (intro w' hSw; (try dsimp only at hSw); go_simp; (try simp only [hw1, hw2, hw3, hw4])) <;> with_reducible rfl
            simp only [Act.put]
            refine wpAnyG_take (i := 21) (v := ?_) rfl (by decide +kernel) (by kernel_rfl) (by decide) (by kernel_rfl) (by kernel_rfl) (fun _ _ _ h => h) (Or.inl ⟨by kernel_rfl, ?_⟩) hHeld ?_
            rotate_left 1
            · (intro w' hSw; (try dsimp only at hSw); go_simp; (try simp only [hw1, hw2, hw3, hw4])) <;> with_reducible rfl
            simp only [Act.put]
            refine wpAnyG_take (i := 22) (v := ?_) rfl (by decide +kernel) (by kernel_rfl) (by decide) (by kernel_rfl) (by kernel_rfl) (fun _ _ _ h => h) (Or.inl ⟨by kernel_rfl, ?_⟩) hHeld ?_
            rotate_left 1
            · (intro w' hSw; (try dsimp only at hSw); go_simp; (try simp only [hw1, hw2, hw3, hw4])) <;> with_reducible rfl
            simp only [Act.put]
            refine wpAnyG_take (i := 23) (v := ?_) rfl (by decide +kernel) (by kernel_rfl) (by decide) (by kernel_rfl) (by kernel_rfl) (fun _ _ _ h => h) (Or.inl ⟨by kernel_rfl, ?_⟩) hHeld ?_
            rotate_left 1
            · (intro w' hSw; (try dsimp only at hSw); go_simp; (try simp only [hw1, hw2, hw3, hw4])) <;> with_reducible rfl
            simp only [Act.put]
            refine wpAnyG_one (i := 24) rfl (by kernel_rfl) rfl (fun K hK => ?_)
            go_simp
            refine hK.out _ _ (fun _ => mkS _ (by repeat (first | exact Ext.rfl' _ | refine Ext.alloc' ?_ _ | refine Ext.drew' ?_))) (fun _ => ?_)
            clear hK K
            refine wpAnyG_one (i := 25) rfl (by kernel_rfl) rfl (fun K hK => ?_)
            go_simp
            (with_reducible refine (join2_any 1 rfl (HO4.out.ext X5.out) HND.out FL.out (fun b o n c e hb => by
              have hlt := HO4.out.lt b hb
              first | (simp at e; omega) | simp at e) HPO.out).mono ?_)
            rintro e w6 ⟨rfl, hc, ho5⟩
            refine hK.out _ _ (fun h => absurd rfl h) (fun _ => ?_)
            clear hK K
            refine wpAnyG_done (by kernel_rfl) ?_ _
            clear hHeld mkS
            have hbl := Hs.out.box.lt
            have hsz := X5.out.size
            have hpb : p ∉ bs4 := fun h => (HGE.out _ h).2 rfl
            have H6 := Lib.hid (show HNet W0 w6 (linkTo (liftB N kk (N.ends.length * kk)) (liftL N kk P) (t * kk + (s + 1))) p (.slice a0 M c0) (.slice a1 0 c1) (.slice a2 M c2) from
              ⟨Chg.ext (Hs.out.ext.trans' X5.out) hc (fun b hb => (HGE.out b hb).1), Hs.out.hp, (row_ext Hs.out.box X5.out).of_block (hc.block _ (by omega) hpb), bs4, by rw [show t * kk + (s + 1) = t * kk + s + 1 from rfl, ← HLK.out]; exact ho5, HND.out, HGE.out⟩)
            clear hc ho5 hbl hpb hsz m0 m1 m2 q1 q2 q3 q4
            go_wp2
            go_roundg (kk - (s + 1))
            case measure => omega
            case rel => exact ⟨s + 1, by omega, rfl, by go_num, H6.out⟩
          obtain rfl : s = kk := by omega
          have H8 := Lib.hid (show HNet W0 wr (linkTo (liftB N s (N.ends.length * s)) (liftL N s P) ((t + 1) * s)) p (.slice a0 M c0) (.slice a1 0 c1) (.slice a2 M c2) by rw [Nat.succ_mul]; exact Hs.out)
          go_wp2
          go_roundg (T - (t + 1))
          case measure => omega
          case rel => exact ⟨t + 1, by omega, rfl, by go_num, H8.out⟩
      obtain rfl : t = T := by omega
      have HF := Lib.hid (show HNet W0 wr (liftNet N kk P) p (.slice a0 M c0) (.slice a1 0 c1) (.slice a2 M c2) by unfold liftNet; rw [← HT.out]; exact Ht.out)
      obtain ⟨bs4, ho, hnd, hge⟩ := HF.out.net
      have HO4 := Lib.hid ho
      have HGE := Lib.hid hge
      obtain ⟨m0, m1, m2, -, -, -⟩ := row3_facts HF.out.box
      clear hge
      go_wp2_with fail
      clear m0 m1 m2
      (with_reducible refine (orNone_any HO4.out hnd).mono ?_)
      rintro e w7 ⟨b0, d0, b1, d1, b2, d2, cs, rfl, hw, ho7, hn7, hcs⟩
      have K7 := Lib.hid ((EW.out.trans' HF.out.ext).trans' hw)
      obtain ⟨u0, u1, u2, v0, v1, v2⟩ := row3_facts (row_ext RQ.out (HF.out.ext.trans' hw))
      have O7 := Lib.hid ho7
      have C7 := Lib.hid (show ∀ b ∈ cs, w.heap.size ≤ b ∧ b ≠ w.heap.size + 1 from fun b hb => by have := (HGE.out b (hcs b hb)).1; have := ZW.out; omega)
      clear hw ho7 hcs ho
      go_wp2
      have hc := close_at K7.out (show w.heap.size ≤ w.heap.size + 1 by omega) O7.out hn7 C7.out
      refine bodyPost_ret (v := .tuple #[.agg #[.slice b0 (goodOr (liftNet N kk P)).ends.length d0, .slice b1 (goodOr (liftNet N kk P)).ids.length d1, .slice b2 (goodOr (liftNet N kk P)).inputs.length d2], .bool (dec (Good (liftNet N kk P)))]) (by simp [results, Try.results63, go_sem, u0, u1, u2]) rfl ⟨_, cs, rfl, hc.1, hc.2.1, hc.2.2⟩
end Go.Proofs.Ytdcgpodjoalokaa
