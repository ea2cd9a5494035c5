/- The contract of the program's joinWalks. -/
import Derived.Test.YtgacbfblpkikkaaUc
import Derived.Test.YtgacbfblpkikkaaSj
namespace Go.Proofs.Ytgacbfblpkikkaa
open Go.RowKit

theorem infoTSE : (Try.prog.info? 74).map (fun i => (i.zero, i.size, i.bytes)) = some (some (.slice none 0 0), 1, 24) := by kernel_rfl
theorem srcDrewU {w : World} {ao : Option Addr} {m k : Nat} {news : List Value} (h : SrcAt w ao m k news) : SrcAt w.drew ao m k news := ⟨h.1, h.2.1, fun ad e j u hu => h.2.2.1 ad e j u hu, h.2.2.2⟩
def w5 (a b c d e : Value) : Nat → Value := fun i => match i with
  | 0 => a
  | 1 => b
  | 2 => c
  | 3 => d
  | _ => e
theorem w5_made (w : World) (a b c d e : Value) (t : Nat) : (w.alloc (.cells #[a, b, c, d, e] t)).rowIs w.heap.size t 5 (w5 a b c d e) :=
  ⟨#[a, b, c, d, e], heap_alloc_new w _, rfl, fun i hi => by match i with | 0 => rfl | 1 => rfl | 2 => rfl | 3 => rfl | 4 => rfl⟩
theorem w5_facts {w : World} {q t : Nat} {a b c d e : Value} (h : w.rowIs q t 5 (w5 a b c d e)) : w.cell? ⟨q, 0, none⟩ = some a ∧ w.cell? ⟨q, 1, none⟩ = some b ∧ w.cell? ⟨q, 2, none⟩ = some c ∧ w.cell? ⟨q, 3, none⟩ = some d ∧ w.cell? ⟨q, 4, none⟩ = some e :=
  ⟨h.cell (i := 0) (by omega), h.cell (i := 1) (by omega), h.cell (i := 2) (by omega), h.cell (i := 3) (by omega), h.cell (i := 4) (by omega)⟩
theorem flat_edge {w : World} {a b n : Nat} {c bk : Int} (ha : a ≤ 100) (hb : b ≤ 100) (hc : 0 ≤ c ∧ c ≤ 100) (hk : 0 ≤ bk ∧ bk < (n : Int)) (hn : n ≤ 100) :
    FlatSl (w.alloc (.cells #[.int .i64 (a : Int), .int .i64 (b : Int), .int .i64 c, .int .i64 bk] 113)) (.slice (some ⟨w.heap.size, 0, none⟩) 1 1) 1 [((a : Int), (b : Int)), (c, bk)] := by
  refine ⟨_, w.heap.size, 0, 1, rfl, fun _ => rfl, Nat.le_refl _, by unfold maxLen; omega, fun i hi => ?_⟩
  match i, hi with
  | 0, _ => exact ⟨by simp [gn], by simp [gp], by simp [gn, inI64]; omega, by simp [gp, inI64]; omega⟩
  | 1, _ => exact ⟨by simp [gn], by simp [gp], by simp [gn, inI64]; omega, by simp [gp, inI64]; omega⟩
theorem walkPorts_six {N : Net} (g : Good N) {t : Nat} {x : Wk} (hx : x.node < N.ends.length) : walkPorts N t x ≤ 6 := by
  unfold walkPorts
  split
  · omega
  · exact (g.2.1 _ hx).1
theorem gi_in {N : Net} (g : Good N) {u : Nat} (hu : u < N.ends.length) : inI64 (gi N.inputs u) := by
  have h1 := g.2.2.2.1
  have h2 := g.2.2.2.2 u (by omega)
  unfold inI64; omega

set_option maxHeartbeats 6400000 in
set_option maxRecDepth 100000 in
theorem joinWalks_any {w : World} {v vq : Value} {N : Net} {Q : List Wk} {B sv t k : Nat} (hN : Good N) (h : NetAt w v N) (hq : GrowW viewCells 80 B w vq Q) (hI : UnI N sv t k Q) (ht : t ≤ 80) (hlen : Q.length ≤ 60) :
    Calls Try.prog 70 #[v, vq, .int .i64 t] w fun e w' => ∃ v' bs, e = .returned v' ∧ Ext w w' ∧ OwnNet w' v' (unNet N t Q) bs ∧ Fresh w bs := by
  have HN := Lib.hid h
  have HG := Lib.hid hN
  obtain ⟨w0, v1, w2, rfl, hE, -, hP⟩ := h
  obtain ⟨ea, eb, eo, ec, rfl, hea, hel, hem, hec⟩ := hE
  obtain ⟨pa, pb, po, pc, rfl, hpa, hpl, hpm, hpc⟩ := hP
  unfold maxLen at hem hpm
  have h40 := hN.1.2
  have h01 := hN.1.1
  have hil := hN.2.2.2.1
  obtain rfl := hea (by omega)
  obtain rfl := hpa (by omega)
  have HEC := Lib.hid hec
  have HPC := Lib.hid hpc
  obtain ⟨g, cap, rfl, hq1, hq2, -, -, hqc⟩ := hq.view hI.pos
  unfold maxLen at hq2
  simp only [Nat.mul_comm 5] at hqc
  have HQC := Lib.hid hqc
  have HI := Lib.hid hI
  have hpos := hI.pos
  have HIL := Lib.hid hil
  obtain ⟨i0, hi, hz0, hz1, hz2⟩ := info_parts infoTSE
  have I0 := Lib.hid (And.intro hi (And.intro hz0 (And.intro hz1 hz2)))
  obtain ⟨i3, hi', hz0', hz1', hz2'⟩ := info_parts Try.info3
  have I3 := Lib.hid (And.intro hi' (And.intro hz0' (And.intro hz1' hz2')))
  obtain ⟨i44, hi4, hy0, hy1, hy2⟩ := info_parts Try.info44
  have HML := Lib.hid (show ∀ (d : Nat) (u : World), d ≤ 6 → (Instr.makeSlice 74 (.int .i64 (d : Int)) (.int .i64 (d : Int))).run Try.prog u =
      .ok (.slice (some ⟨u.heap.size, 0, none⟩) d d) (u.alloc (.cells (madeCells #[.int .i64 0, .int .i64 0] (d * 2)) 76)) from fun d u hd => by
    have h := run_make (P := Try.prog) u 74 76 i44 _ Try.underlying74 hi4 hy0 .i64 .i64 d d (by omega) (Int.le_refl _) (by rw [hy2]; omega) (by omega)
    simpa [hy1, Value.cells] using h)
  clear hi hz0 hz1 hz2 hi' hz0' hz1' hz2' hi4 hy0 hy1 hy2 hea hpa hec hpc hqc hN hI hil hq
  obtain ⟨W0, hW0⟩ : ∃ W0, W0 = (w.alloc (.cells #[.slice (some ⟨eb, eo, none⟩) N.ends.length ec, v1, .slice (some ⟨pb, po, none⟩) N.inputs.length pc] 29)).alloc (.cells #[.slice none 0 0, .slice none 0 0, .slice none 0 0] 29) := ⟨_, rfl⟩
  have EW := Lib.hid (show Ext w W0 by rw [hW0]; exact ((Ext.rfl' w).alloc' _).alloc' _)
  have RN := Lib.hid (show W0.rowIs w.heap.size 29 3 (tri (.slice (some ⟨eb, eo, none⟩) N.ends.length ec) v1 (.slice (some ⟨pb, po, none⟩) N.inputs.length pc)) by rw [hW0]; exact row_ext (row3_made w _ _ _ _) ((Ext.rfl' _).alloc' _))
  have RQ := Lib.hid (show W0.rowIs (w.heap.size + 1) 29 3 (tri (.slice none 0 0) (.slice none 0 0) (.slice none 0 0)) by rw [hW0]; simpa using row3_made (w.alloc (.cells #[.slice (some ⟨eb, eo, none⟩) N.ends.length ec, v1, .slice (some ⟨pb, po, none⟩) N.inputs.length pc] 29)) (.slice none 0 0) (.slice none 0 0) (.slice none 0 0) 29)
  have ZW := Lib.hid (show W0.heap.size = w.heap.size + 2 by rw [hW0]; simp)
  have H0 := Lib.hid (show HNet W0 (W0.alloc (.cells #[.slice none 0 0, .slice none 0 0, .slice none 0 0] 29)) (unNet0 N t (Q.take 0)) W0.heap.size (.slice none 0 0) (.slice none 0 0) (.slice none 0 0) by
    rw [un0_start]
    exact HNet.made (Ext.rfl' W0) (own_zero W0) (Fresh.nil _))
  go_enter Try.func70, Try.ntmps70
  go_wp2_with fail
  rw [← hW0]
  obtain ⟨p, hp⟩ : ∃ p, p = w.heap.size + 1 + 1 := ⟨_, rfl⟩
  have HPW := Lib.hid (show W0.heap.size = p by rw [ZW.out, hp])
  rw [HPW.out] at H0
  rw [← hp]
  clear hW0 hp
  go_loopg [17] Q.length (fun g' i wr => ∃ j : Nat, j ≤ Q.length ∧ g' = Q.length - j ∧ i = .int .i64 j ∧ Hid (∃ y0 y1 y2, HNet W0 wr (unNet0 N t (Q.take j)) p y0 y1 y2))
  case atStart => exact ⟨0, Nat.zero_le _, rfl, rfl, _, _, _, H0.out⟩
  case round =>
    obtain ⟨j, hj, rfl, rfl, Hr⟩ := hrel
    obtain ⟨y0, y1, y2, hh⟩ := Hr.out
    obtain ⟨a0, c0, a1, c1, a2, c2, rfl, rfl, rfl⟩ := hh.form
    have hl1 : (unNet0 N t (Q.take j)).ends.length = j := by rw [un0_len, List.length_take]; omega
    have hl2 : (unNet0 N t (Q.take j)).inputs.length = j := by simp [unNet0]; omega
    rw [hl1, hl2] at hh
    have HH := Lib.hid hh
    have KR := Lib.hid (EW.out.trans' hh.ext)
    have HL1 := Lib.hid hl1
    have HL2 := Lib.hid hl2
    clear hh Hr hl1 hl2
    by_cases hlt : j < Q.length
    · obtain ⟨x, hx⟩ : ∃ x, x = wkAt Q j := ⟨_, rfl⟩
      obtain ⟨d0, d1, d2, d3, d4⟩ := HQC.out j hlt
      have HX := Lib.hid hx
      rw [← hx] at d0 d1 d2 d3 d4
      have d0 := KR.out.cell' d0
      have d1 := KR.out.cell' d1
      have d2 := KR.out.cell' d2
      have d3 := KR.out.cell' d3
      have d4 := KR.out.cell' d4
      have hxn : x.node < N.ends.length := by rw [hx]; exact (HI.out.node j hlt).1
      obtain ⟨_, hra, hrow⟩ := HEC.out x.node hxn
      obtain ⟨aa, ab, ao, ac, rfl, -, hal, ham, -⟩ := hrow
      unfold maxLen at ham
      have e1 := KR.out.cell' hra
      obtain ⟨p0, p1, p2, -, -, -⟩ := row3_facts (row_ext RN.out HH.out.ext)
      clear hx hra
      obtain ⟨W4, hW4⟩ : ∃ W4, W4 = wr.alloc (.cells #[.int .i64 (x.steps : Int), .int .i64 (x.node : Int), .int .i64 x.came, .int .i64 (x.src : Int), .int .i64 (x.port : Int)] 80) := ⟨_, rfl⟩
      have X4 := Lib.hid (show Ext wr W4 by rw [hW4]; exact (Ext.rfl' wr).alloc' _)
      have F4 := Lib.hid (show W4.rowIs wr.heap.size 80 5 (w5 (.int .i64 (x.steps : Int)) (.int .i64 (x.node : Int)) (.int .i64 x.came) (.int .i64 (x.src : Int)) (.int .i64 (x.port : Int))) by rw [hW4]; exact w5_made _ _ _ _ _ _ _)
      obtain ⟨f0, f1, f2, f3, f4⟩ := w5_facts F4.out
      have p0' := X4.out.cell' p0
      have e1' := X4.out.cell' e1
      rw [hW4] at f0 f1 f2 f3 f4 p0' e1'
      have hcase : (((x.steps : Int) == (t : Int)) = true ∧ (if 1 < (t : Int) then (1 : Int) else (t : Int)) = ((walkPorts N t x : Nat) : Int)) ∨ (((x.steps : Int) == (t : Int)) = false ∧ (gr N.ends x.node).length = walkPorts N t x) := by
        by_cases hs : x.steps = t
        · refine .inl ⟨by simp [hs], ?_⟩
          unfold walkPorts
          rw [if_pos hs]
          split <;> omega
        · refine .inr ⟨by simp; omega, ?_⟩
          unfold walkPorts
          rw [if_neg hs]
      rcases hcase with ⟨hsb, hwp⟩ | ⟨hsb, hwp⟩
      all_goals
        go_upto_region 8 with fail
        (try rw [hwp])
        rw [← hW4]
        clear hW4 f0 f1 f2 f3 f4 p0' e1' d0 d1 d2 d3 d4 hsb hwp p0 p1 p2 e1
        have hL6 := walkPorts_six HG.out (t := t) hxn
        obtain ⟨L, hL⟩ : ∃ L, L = walkPorts N t x := ⟨_, rfl⟩
        rw [← hL] at hL6 ⊢
        have HLW := Lib.hid hL
        have hml := fun u => HML.out L u hL6
        have HE0 := Lib.hid (HH.out.mono X4.out)
        obtain ⟨m0, -, -, -, -, -⟩ := row3_facts HE0.out.box
        obtain ⟨R, ho1, hback⟩ := HE0.out.rows
        rw [HL1.out] at ho1 hback
        have HO1 := Lib.hid ho1
        have HB1 := Lib.hid hback
        have mkS : ∀ w' : World, Ext W4 w' → w'.cell? ⟨p, 0, none⟩ = some (.slice a0 j c0) := fun w' h => h.cell' m0
        have hex := HE0.out.ext.size
        clear ho1 hback hL
        refine wp_region_gate (n := 7) (S := fun w' => w'.cell? ⟨p, 0, none⟩ = some (.slice a0 j c0)) (by kernel_rfl) (mkS _ (Ext.rfl' W4).drew') (fun hHeld => ?_)
        refine wpAnyG_take (i := 0) (v := ?_) rfl (by decide +kernel) (by kernel_rfl) (by decide) (by kernel_rfl) (by kernel_rfl) (fun _ _ _ h => h) (Or.inl ⟨by rfl, ?_⟩) hHeld ?_
        rotate_left 1
        · (intro w' hSw; (try dsimp only at hSw); go_simp) <;> with_reducible rfl
        simp only [Act.put]
        refine wpAnyG_take (i := 1) (v := ?_) rfl (by decide +kernel) (by kernel_rfl) (by decide) (by kernel_rfl) (by kernel_rfl) (fun _ _ _ h => h) (Or.inl ⟨by rfl, ?_⟩) hHeld ?_
        rotate_left 1
        · (intro w' hSw; (try dsimp only at hSw); go_simp) <;> with_reducible rfl
        simp only [Act.put]
        refine wpAnyG_take (i := 2) (v := ?_) rfl (by decide +kernel) (by kernel_rfl) (by decide) (by kernel_rfl) (by kernel_rfl) (fun _ _ _ h => h) (Or.inl ⟨by rfl, ?_⟩) hHeld ?_
        rotate_left 1
        · (intro w' hSw; (try dsimp only at hSw); go_simp) <;> with_reducible rfl
        simp only [Act.put]
        refine wpAnyG_one (i := 3) rfl (by kernel_rfl) rfl (fun K hK => ?_)
        go_simp
        refine hK.out _ _ (fun _ => mkS _ (by repeat (first | exact Ext.rfl' _ | refine Ext.alloc' ?_ _ | refine Ext.drew' ?_))) (fun _ => ?_)
        clear hK K
        refine wpAnyG_one (i := 4) rfl (by kernel_rfl) rfl (fun K hK => ?_)
        go_simp
        refine hK.out _ _ (fun _ => mkS _ (by repeat (first | exact Ext.rfl' _ | refine Ext.alloc' ?_ _ | refine Ext.drew' ?_))) (fun _ => ?_)
        clear hK K
        refine wpAnyG_one (i := 5) rfl (by kernel_rfl) rfl (fun K hK => ?_)
        have XA := Lib.hid (show Ext W4 (((W4.alloc (.cells (madeCells #[.int .i64 0, .int .i64 0] (L * 2)) 76)).alloc (.cells #[.slice (some ⟨W4.heap.size, 0, none⟩) L L] 74)).drew) from (((Ext.rfl' W4).alloc' _).alloc' _).drew')
        refine wp_app2 (.tmp 36) (.tmp 39) 27 rfl W0.heap.size 74 i0 (.slice none 0 0) 1 24 Try.underlying27 I0.out.1 I0.out.2.1 I0.out.2.2.1 I0.out.2.2.2 rfl (by decide) (.slice a0 j c0) j ((List.range j).map R) rfl (owns_ext HO1.out XA.out) (some ⟨W4.heap.size + 1, 0, none⟩) 1 1 [.slice (some ⟨W4.heap.size, 0, none⟩) L L] rfl (by have := srcDrewU (src_one (W4.alloc (.cells (madeCells #[.int .i64 0, .int .i64 0] (L * 2)) 76)) (.slice (some ⟨W4.heap.size, 0, none⟩) L L) 74 rfl); simpa using this) (by unfold maxLen; omega) (by omega) (by simp; omega) ?_
        intro v' wA hg
        have HA1 := Lib.hid (HB1.out _ wA (.slice (some ⟨W4.heap.size, 0, none⟩) L L) v' (List.replicate L (0, 0)) [W4.heap.size] XA.out ((own_zeroEnds (emade W4 L) (by omega)).ext ((Ext.rfl' _).alloc' _).drew') (by simp) hg.1)
        have gp1 := row_grown (row_ext F4.out XA.out) (owns_ext HO1.out XA.out) hg.1.2.1 (by decide)
        obtain ⟨va, vc, rfl⟩ := owns_slice hg.1.1
        obtain ⟨cz, -, -, cf, -, -⟩ := row3_facts HA1.out.1
        clear hg hex
        refine hK.out _ _ (fun _ => cz) (fun hHeld' => ?_)
        have hHeld := hHeld' (by decide)
        clear hK K hHeld'
        refine wpAnyG_take (i := 6) (v := ?_) rfl (by decide +kernel) (by kernel_rfl) (by decide) (by kernel_rfl) (by kernel_rfl) (fun _ _ _ h => h) (Or.inl ⟨by rfl, ?_⟩) hHeld ?_
        rotate_left 1
        · (intro w' hSw; (try dsimp only at hSw); go_simp) <;> with_reducible rfl
        simp only [Act.put]
        refine wpAnyG_one (i := 7) rfl (by kernel_rfl) rfl (fun K hK => ?_)
        go_simp
        refine hK.out _ _ (fun h => absurd rfl h) (fun _ => ?_)
        clear hK K hHeld
        refine wpAnyG_done (by kernel_rfl) ?_ _
        clear mkS cz cf m0 hml
        have NE := Lib.hid (show wr.heap.size ≠ p by have := HH.out.box.lt; omega)
        obtain ⟨W5, hW5⟩ : ∃ W5, W5 = wA.setCell ⟨p, 0, none⟩ (.slice va (j + 1) vc) := ⟨_, rfl⟩
        have H5 := Lib.hid (show HNet W0 W5 (addRow (unNet0 N t (Q.take j)) (List.replicate L (0, 0))) p (.slice va (j + 1) vc) (.slice a1 (unNet0 N t (Q.take j)).ids.length c1) (.slice a2 j c2) by rw [hW5]; exact HA1.out.2)
        have F5 := Lib.hid (show W5.rowIs wr.heap.size 80 5 (w5 (.int .i64 (x.steps : Int)) (.int .i64 (x.node : Int)) (.int .i64 x.came) (.int .i64 (x.src : Int)) (.int .i64 (x.port : Int))) by rw [hW5]; exact gp1.of_block (Below.heap_setCell _ _ _ _ NE.out))
        rw [← hW5]
        clear hW5 gp1 HA1
        have K5 := Lib.hid (EW.out.trans' H5.out.ext)
        have hxi : x.node < N.inputs.length := by have := HIL.out; omega
        obtain ⟨_, hpi, rfl, hpr⟩ := HPC.out x.node hxi
        obtain ⟨xi, hxe⟩ : ∃ y, y = gi N.inputs x.node := ⟨_, rfl⟩
        rw [← hxe] at hpi hpr
        have HXE := Lib.hid hxe
        have hIn : (addRow (unNet0 N t (Q.take j)) (List.replicate L (0, 0))).inputs.length = j := HL2.out
        obtain ⟨ho2, hb2⟩ := H5.out.ints
        rw [hIn] at ho2 hb2
        have HO2 := Lib.hid ho2
        have HB2 := Lib.hid hb2
        have hex := H5.out.ext.size
        obtain ⟨-, n1, -, -, -⟩ := w5_facts F5.out
        obtain ⟨-, -, m2, -, -, -⟩ := row3_facts H5.out.box
        obtain ⟨-, -, p2, -, -, -⟩ := row3_facts (row_ext RN.out H5.out.ext)
        have mkS : ∀ w' : World, Ext W5 w' → w'.cell? ⟨p, 2, none⟩ = some (.slice a2 j c2) ∧ w'.cell? ⟨w.heap.size, 2, none⟩ = some (.slice (some ⟨pb, po, none⟩) N.inputs.length pc) ∧ w'.cell? ⟨wr.heap.size, 1, none⟩ = some (.int .i64 (x.node : Int)) ∧ w'.cell? ⟨pb, po + x.node, none⟩ = some (.int .i64 xi) := fun w' h => ⟨h.cell' m2, h.cell' p2, h.cell' n1, h.cell' (K5.out.cell' hpi)⟩
        clear ho2 hb2 hIn hxe
        go_upto_region 9 with fail
        refine wp_region_gate (n := 12) (S := fun w' => w'.cell? ⟨p, 2, none⟩ = some (.slice a2 j c2) ∧ w'.cell? ⟨w.heap.size, 2, none⟩ = some (.slice (some ⟨pb, po, none⟩) N.inputs.length pc) ∧ w'.cell? ⟨wr.heap.size, 1, none⟩ = some (.int .i64 (x.node : Int)) ∧ w'.cell? ⟨pb, po + x.node, none⟩ = some (.int .i64 xi)) (by kernel_rfl) (mkS _ (Ext.rfl' W5).drew') (fun hHeld => ?_)
        refine wpAnyG_take (i := 0) (v := ?_) rfl (by decide +kernel) (by kernel_rfl) (by decide) (by kernel_rfl) (by kernel_rfl) (fun _ _ _ h => h) (Or.inl ⟨by rfl, ?_⟩) hHeld ?_
        rotate_left 1
        · (intro w' hSw; (try dsimp only at hSw); go_simp) <;> with_reducible rfl
        simp only [Act.put]
        refine wpAnyG_take (i := 1) (v := ?_) rfl (by decide +kernel) (by kernel_rfl) (by decide) (by kernel_rfl) (by kernel_rfl) (fun _ _ _ h => h) (Or.inl ⟨by rfl, ?_⟩) hHeld ?_
        rotate_left 1
        · (intro w' hSw; (try dsimp only at hSw); go_simp) <;> with_reducible rfl
        simp only [Act.put]
        refine wpAnyG_take (i := 2) (v := ?_) rfl (by decide +kernel) (by kernel_rfl) (by decide) (by kernel_rfl) (by kernel_rfl) (fun _ _ _ h => h) (Or.inl ⟨by rfl, ?_⟩) hHeld ?_
        rotate_left 1
        · (intro w' hSw; (try dsimp only at hSw); go_simp) <;> with_reducible rfl
        simp only [Act.put]
        refine wpAnyG_take (i := 3) (v := ?_) rfl (by decide +kernel) (by kernel_rfl) (by decide) (by kernel_rfl) (by kernel_rfl) (fun _ _ _ h => h) (Or.inl ⟨by rfl, ?_⟩) hHeld ?_
        rotate_left 1
        · (intro w' hSw; (try dsimp only at hSw); go_simp) <;> with_reducible rfl
        simp only [Act.put]
        refine wpAnyG_take (i := 4) (v := ?_) rfl (by decide +kernel) (by kernel_rfl) (by decide) (by kernel_rfl) (by kernel_rfl) (fun _ _ _ h => h) (Or.inl ⟨by rfl, ?_⟩) hHeld ?_
        rotate_left 1
        · (intro w' hSw; (try dsimp only at hSw); go_simp) <;> with_reducible rfl
        simp only [Act.put]
        refine wpAnyG_take (i := 5) (v := ?_) rfl (by decide +kernel) (by kernel_rfl) (by decide) (by kernel_rfl) (by kernel_rfl) (fun _ _ _ h => h) (Or.inl ⟨by rfl, ?_⟩) hHeld ?_
        rotate_left 1
        · (intro w' hSw; (try dsimp only at hSw); go_simp) <;> with_reducible rfl
        simp only [Act.put]
        refine wpAnyG_take (i := 6) (v := ?_) rfl (by decide +kernel) (by kernel_rfl) (by decide) (by kernel_rfl) (by kernel_rfl) (fun _ _ _ h => h) (Or.inl ⟨by rfl, ?_⟩) hHeld ?_
        rotate_left 1
        · (intro w' hSw; (try dsimp only at hSw); go_simp) <;> with_reducible rfl
        simp only [Act.put]
        refine wpAnyG_take (i := 7) (v := ?_) rfl (by decide +kernel) (by kernel_rfl) (by decide) (by kernel_rfl) (by kernel_rfl) (fun _ _ _ h => h) (Or.inl ⟨by rfl, ?_⟩) hHeld ?_
        rotate_left 1
        · (intro w' hSw; (try dsimp only at hSw); go_simp) <;> with_reducible rfl
        simp only [Act.put]
        refine wpAnyG_take (i := 8) (v := ?_) rfl (by decide +kernel) (by kernel_rfl) (by decide) (by kernel_rfl) (by kernel_rfl) (fun _ _ _ h => h) (Or.inl ⟨by rfl, ?_⟩) hHeld ?_
        rotate_left 1
        · (intro w' hSw; (try dsimp only at hSw); go_simp) <;> with_reducible rfl
        simp only [Act.put]
        refine wpAnyG_one (i := 9) rfl (by kernel_rfl) rfl (fun K hK => ?_)
        go_simp
        clear hHeld
        refine hK.out _ _ (fun _ => mkS _ (by repeat (first | exact Ext.rfl' _ | refine Ext.alloc' ?_ _ | refine Ext.drew' ?_))) (fun _ => ?_)
        clear hK K
        refine wpAnyG_one (i := 10) rfl (by kernel_rfl) rfl (fun K hK => ?_)
        have XB := Lib.hid (show Ext W5 ((W5.alloc (.cells #[.int .i64 xi] 3)).drew) from ((Ext.rfl' W5).alloc' _).drew')
        refine wp_app2 (.tmp 43) (.tmp 51) 23 rfl W0.heap.size 3 i3 (.int .i64 0) 1 8 Try.underlying23 I3.out.1 I3.out.2.1 I3.out.2.2.1 I3.out.2.2.2 rfl (by decide) (.slice a2 j c2) j (intCells (unNet0 N t (Q.take j)).inputs) rfl (owns_ext HO2.out XB.out) (some ⟨W5.heap.size, 0, none⟩) 1 1 [.int .i64 xi] rfl (srcDrewU (src_one W5 _ _ rfl)) (by unfold maxLen; omega) (by omega) (by simp; omega) ?_
        intro v' wB hg
        have HA2 := Lib.hid (HB2.out _ wB v' xi XB.out hpr hg)
        have EB := Lib.hid (show Ext W0 wB from hg.1.ext (H5.out.ext.trans' XB.out) fun b hb => ((owns_ext HO2.out XB.out).lt b hb).1)
        have gp2 := row_grown (row_ext F5.out XB.out) (owns_ext HO2.out XB.out) hg.1.2.1 (by decide)
        obtain ⟨ya, yc, rfl⟩ := owns_slice hg.1.1
        obtain ⟨-, -, cz, -, -, cf⟩ := row3_facts HA2.out.1
        obtain ⟨-, r1, -, -, -⟩ := w5_facts gp2
        obtain ⟨-, -, r2, -, -, -⟩ := row3_facts (row_ext RN.out EB.out)
        clear hg hex
        refine hK.out _ _ (fun _ => ⟨cz, r2, r1, (EW.out.trans' EB.out).cell' hpi⟩) (fun hHeld' => ?_)
        have hHeld := hHeld' (by decide)
        clear hK K hHeld'
        refine wpAnyG_take (i := 11) (v := ?_) rfl (by decide +kernel) (by kernel_rfl) (by decide) (by kernel_rfl) (by kernel_rfl) (fun _ _ _ h => h) (Or.inl ⟨by rfl, ?_⟩) hHeld ?_
        rotate_left 1
        · (intro w' hSw; (try dsimp only at hSw); go_simp) <;> with_reducible rfl
        simp only [Act.put]
        refine wpAnyG_one (i := 12) rfl (by kernel_rfl) rfl (fun K hK => ?_)
        go_simp
        refine hK.out _ _ (fun h => absurd rfl h) (fun _ => ?_)
        clear hK K hHeld
        refine wpAnyG_done (by kernel_rfl) ?_ _
        clear mkS cz cf r1 r2 n1 m2 p2 gp2
        go_wp2
        go_roundg (Q.length - (j + 1))
        case measure => omega
        case rel =>
          have hst : unNet0 N t (Q.take (j + 1)) = addIn (addRow (unNet0 N t (Q.take j)) (List.replicate L (0, 0))) xi := by rw [un0_step N t hlt, ← HX.out, ← HLW.out, ← HXE.out]
          have H7 := HA2.out.2
          rw [← hst] at H7
          exact ⟨j + 1, by omega, rfl, by go_num, _, _, _, H7⟩
    · obtain rfl : j = Q.length := by omega
      have hid : (unNet0 N t (Q.take Q.length)).ids.length = 0 := rfl
      rw [hid] at HH
      rw [List.take_of_length_le (Nat.le_refl _)] at HH
      have HH0 := Lib.hid (show HNet W0 wr (unTo N t Q 0) p (.slice a0 Q.length c0) (.slice a1 0 c1) (.slice a2 Q.length c2) by rw [unTo_zero]; exact HH.out)
      clear HH KR HL1 HL2 hid H0
      go_wp2_with fail
      go_loopg [57] Q.length (fun g' i wr => ∃ j : Nat, j ≤ Q.length ∧ g' = Q.length - j ∧ i = .int .i64 j ∧ Hid (HNet W0 wr (unTo N t Q (j - 1)) p (.slice a0 Q.length c0) (.slice a1 0 c1) (.slice a2 Q.length c2)))
      case atStart => exact ⟨0, Nat.zero_le _, rfl, rfl, HH0.out⟩
      case round =>
        obtain ⟨j, hj, rfl, rfl, Hr⟩ := hrel
        have HH := Lib.hid Hr.out
        have KR := Lib.hid (EW.out.trans' Hr.out.ext)
        clear Hr HH0
        by_cases hlt : j < Q.length
        · obtain ⟨x, hx⟩ : ∃ x, x = wkAt Q j := ⟨_, rfl⟩
          obtain ⟨d0, d1, d2, d3, d4⟩ := HQC.out j hlt
          have HX := Lib.hid hx
          rw [← hx] at d0 d1 d2 d3 d4
          have d0 := KR.out.cell' d0
          have d1 := KR.out.cell' d1
          have d2 := KR.out.cell' d2
          have d3 := KR.out.cell' d3
          have d4 := KR.out.cell' d4
          clear hx
          obtain ⟨W4, hW4⟩ : ∃ W4, W4 = wr.alloc (.cells #[.int .i64 (x.steps : Int), .int .i64 (x.node : Int), .int .i64 x.came, .int .i64 (x.src : Int), .int .i64 (x.port : Int)] 80) := ⟨_, rfl⟩
          have X4 := Lib.hid (show Ext wr W4 by rw [hW4]; exact (Ext.rfl' wr).alloc' _)
          have F4 := Lib.hid (show W4.rowIs wr.heap.size 80 5 (w5 (.int .i64 (x.steps : Int)) (.int .i64 (x.node : Int)) (.int .i64 x.came) (.int .i64 (x.src : Int)) (.int .i64 (x.port : Int))) by rw [hW4]; exact w5_made _ _ _ _ _ _ _)
          obtain ⟨f0, f1, f2, f3, f4⟩ := w5_facts F4.out
          rw [hW4] at f0 f1 f2 f3 f4
          have hcase : ∃ bk : Int, backPort t x = bk ∧ (((x.steps : Int) == (t : Int)) = true ∧ bk = 0 ∨ ((x.steps : Int) == (t : Int)) = false ∧ bk = x.came) := by
            by_cases hs : x.steps = t
            · exact ⟨0, by unfold backPort; rw [if_pos hs], .inl ⟨by simp [hs], rfl⟩⟩
            · exact ⟨x.came, by unfold backPort; rw [if_neg hs], .inr ⟨by simp; omega, rfl⟩⟩
          obtain ⟨bk, hbk, hcase⟩ := hcase
          obtain ⟨W5, hW5⟩ : ∃ W5, W5 = (wr.alloc (.cells #[.int .i64 (x.steps : Int), .int .i64 (x.node : Int), .int .i64 x.came, .int .i64 (x.src : Int), .int .i64 (x.port : Int)] 80)).alloc (.cells #[.int .i64 (j : Int), .int .i64 bk] 76) := ⟨_, rfl⟩
          have X5 := Lib.hid (show Ext wr W5 by rw [hW5]; exact ((Ext.rfl' wr).alloc' _).alloc' _)
          have F5 := Lib.hid (show W5.rowIs wr.heap.size 80 5 (w5 (.int .i64 (x.steps : Int)) (.int .i64 (x.node : Int)) (.int .i64 x.came) (.int .i64 (x.src : Int)) (.int .i64 (x.port : Int))) by rw [hW5]; exact row_ext (w5_made _ _ _ _ _ _ _) ((Ext.rfl' _).alloc' _))
          have D5 := Lib.hid (show W5.rowIs (wr.heap.size + 1) 76 2 (duo (.int .i64 (j : Int)) (.int .i64 bk)) by rw [hW5]; simpa using duo_made (wr.alloc (.cells #[.int .i64 (x.steps : Int), .int .i64 (x.node : Int), .int .i64 x.came, .int .i64 (x.src : Int), .int .i64 (x.port : Int)] 80)) (.int .i64 (j : Int)) (.int .i64 bk) 76)
          have HBK := Lib.hid hbk
          clear hbk
          rcases hcase with ⟨hsb, rfl⟩ | ⟨hsb, rfl⟩
          all_goals
            go_upto_region 17 with fail
            rw [← hW5]
            clear f0 f1 f2 f3 f4 d0 d1 d2 d3 d4 hW4 hW5 hsb X4 F4
            obtain ⟨f0, f1, f2, f3, f4⟩ := w5_facts F5.out
            obtain ⟨g0, g1, -, -⟩ := duo_facts D5.out
            obtain ⟨m0, m1, m2, -, -, -⟩ := row3_facts (row_ext HH.out.box X5.out)
            rcases Nat.eq_zero_or_pos j with hj0 | hj0
            · subst hj0
              have h00 : x.steps = 0 := by rw [HX.out, HI.out.root]
              go_wp2_with fail
              go_roundg (Q.length - (0 + 1))
              case measure => omega
              case rel => exact ⟨0 + 1, by omega, rfl, by go_num, HH.out.mono X5.out⟩
            · obtain ⟨m, rfl⟩ : ∃ m, j = m + 1 := ⟨j - 1, by omega⟩
              obtain ⟨s1, s2, s3, s4, s5, -⟩ := HI.out.son (m + 1) (by omega) hlt
              rw [← HX.out] at s1 s2 s3 s4 s5
              have h00 : 0 < x.steps := by omega
              obtain ⟨bs4, ho, hnd, hge⟩ := (HH.out.mono X5.out).net
              have HO4 := Lib.hid ho
              have HND := Lib.hid hnd
              have HGE := Lib.hid hge
              have HPO := Lib.hid (unEdge_ports HI.out (m := m) (by omega))
              have hnd6 : (gr N.ends (wkAt Q x.src).node).length ≤ 6 := (HG.out.2.1 _ (HI.out.node x.src (by omega)).1).1
              have hbi := back_in HI.out (j := m + 1) (by omega) hlt
              rw [← HX.out, HBK.out] at hbi
              have hw6 := walkPorts_six HG.out (t := t) (x := x) (by rw [HX.out]; exact (HI.out.node (m + 1) hlt).1)
              have hcast : ((m + 1 : Nat) : Int) = (m : Int) + 1 := by omega
              have hE : unEdge t Q m = [((x.src : Int), (x.port : Int)), ((m : Int) + 1, backPort t x)] := by unfold unEdge; rw [← HX.out, hcast]
              rw [HBK.out] at hE
              have hfl := flat_edge (w := W5) (a := x.src) (b := x.port) (c := (m : Int) + 1) (by omega) (by omega) (by omega) hbi (by omega)
              rw [← hE] at hfl
              have FL := Lib.hid hfl
              rw [Nat.add_sub_cancel] at HO4
              clear ho hnd hge s1 s2 s3 s4 s5 hbi hw6 hnd6 hfl hE hcast
              go_wp2_with fail
              (with_reducible refine (join2_any 1 rfl (HO4.out.ext ((Ext.rfl' W5).alloc' _)) HND.out FL.out (fun b o n c e hb => by
                have hlt := HO4.out.lt b hb
                first | (simp at e; omega) | simp at e) HPO.out).mono ?_)
              rintro e w6 ⟨rfl, hc, ho5⟩
              have hbl := HH.out.box.lt
              have hsz := X5.out.size
              have hpb : p ∉ bs4 := fun h => (HGE.out _ h).2 rfl
              have H6 := Lib.hid (show HNet W0 w6 (unTo N t Q (m + 1)) p (.slice a0 Q.length c0) (.slice a1 0 c1) (.slice a2 Q.length c2) from
                ⟨Chg.ext ((HH.out.mono X5.out).ext.alloc' _) hc (fun b hb => (HGE.out b hb).1), HH.out.hp, (row_ext HH.out.box (X5.out.alloc' _)).of_block (hc.block _ (by simp; omega) hpb), bs4, by rw [unTo_step]; exact ho5, HND.out, HGE.out⟩)
              clear hc ho5 hbl hpb hsz
              go_wp2
              go_roundg (Q.length - (m + 1 + 1))
              case measure => omega
              case rel => exact ⟨m + 1 + 1, by omega, rfl, by go_num, H6.out⟩
        · obtain rfl : j = Q.length := by omega
          obtain ⟨bs4, ho, hnd, hge⟩ := HH.out.net
          obtain ⟨m0, m1, m2, -, -, -⟩ := row3_facts HH.out.box
          obtain ⟨q0, q1, q2, t0, t1, t2⟩ := row3_facts (row_ext RQ.out HH.out.ext)
          have hsz := ZW.out
          go_wp2
          obtain ⟨c0', c1', c2'⟩ := close_net KR.out ho hnd (fun y hy => by have := (hge y hy).1; omega)
          refine bodyPost_ret (v := .agg #[.slice a0 Q.length c0, .slice a1 0 c1, .slice a2 Q.length c2]) (by simp [results, Try.results70, go_sem, q0, q1, q2]) rfl ⟨_, bs4, rfl, c0', c1', c2'⟩
end Go.Proofs.Ytgacbfblpkikkaa
