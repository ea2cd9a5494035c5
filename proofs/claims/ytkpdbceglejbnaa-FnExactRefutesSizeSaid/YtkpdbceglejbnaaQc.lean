/- The contracts of the program's IsPortMap and keepsPorts. -/
import Derived.Test.YtkpdbceglejbnaaQb
namespace Go.Proofs.Ytkpdbceglejbnaa
open Go.RowKit

theorem ret_bb {x y b c : Bool} (h0 : x = y) (h : b = c) : Ending.returned (.tuple #[.bool x, .bool b]) = .returned (.tuple #[.bool y, .bool c]) := by rw [h0, h]
/-- A guarded operation that alone may come up now. -/
theorem wpAnyG_oneG {P : Program} {ops : Array Oper} {Q : Exit → Act → World → Prop} {S : World → Prop} {n i : Nat} {o : Oper} {fuel : Nat} {listed : Array Bool} {a : Act} {w : World} (ho : ops[i]? = some o) (hr : Region.ready .any ops listed = [i]) (hw : Region.wanted o (yielded ops a.tmps) = true)
    (h : ∀ K' : Act → World → Prop, Shut (∀ a w, (i ≠ n → S w) → ((i ≠ n → S w) → wpAnyG P ops Q S n fuel (listed.setIfInBounds i true) a w) → K' a w) → Oper.wp P o a w K' Q) : wpAnyG P ops Q S n (fuel + 1) listed a w := by
  refine ⟨fun h0 => (by rw [hr] at h0; cases h0), fun j hj => ?_⟩
  rw [hr] at hj
  obtain rfl := List.mem_singleton.1 hj
  refine wpOp_step ho (fun K' hK => ?_)
  rw [if_pos hw]
  exact h K' (fun a w hS hW => hK a w ⟨hS, hW hS⟩)

set_option maxHeartbeats 6400000 in
set_option maxRecDepth 100000 in
theorem isPortMap_any {w : World} {va vb vf : Value} {A B : Net} {m : List Int} (h : NetAt w va A) (k : NetAt w vb B) (hf : IntSl w vf m) :
    Calls Try.prog 192 #[va, vb, vf] w fun e w' => e = .returned (.tuple #[.bool (dec (PmAns A B m)), .bool (dec (TwoG A B))]) ∧ Ext w w' := by
  have HA := Lib.hid h
  have HB := Lib.hid k
  have HF := Lib.hid hf
  obtain ⟨v0, v1, v2, rfl, hEa, -, hPa⟩ := h
  obtain ⟨u0, u1, u2, rfl, hEb, -, hPb⟩ := k
  obtain ⟨ea, eb, eo, ec, rfl, hea, hel, hem, hec⟩ := hEa
  obtain ⟨fa, fb, fo, fc, rfl, hfa, hfl, hfm, hfc⟩ := hEb
  obtain ⟨la, lb, lo, lc, rfl, hla, hll, hlm, hlc⟩ := hf
  obtain ⟨pa, pb, po, pc, rfl, hpa, hpl, hpm, hpc⟩ := hPa
  obtain ⟨qa, qb, qo, qc, rfl, hqa, hql, hqm, hqc⟩ := hPb
  unfold maxLen at hem hfm hlm hpm hqm
  have HEA := Lib.hid hea
  have HEC := Lib.hid hec
  have HFA := Lib.hid hfa
  have HFC := Lib.hid hfc
  have HLA := Lib.hid hla
  have HLC := Lib.hid hlc
  have HPA := Lib.hid hpa
  have HPC := Lib.hid hpc
  have HQA := Lib.hid hqa
  have HQC := Lib.hid hqc
  clear hea hec hfa hfc hla hlc hpa hpc hqa hqc
  obtain ⟨W1, hW1⟩ : ∃ W1, W1 = (w.alloc (.cells #[.slice ea A.ends.length ec, v1, .slice pa A.inputs.length pc] 34)).alloc (.cells #[.slice fa B.ends.length fc, u1, .slice qa B.inputs.length qc] 34) := ⟨_, rfl⟩
  have EW := Lib.hid (show Ext w W1 by rw [hW1]; exact (boxed_ext _ _ _ _ _).trans' (boxed_ext _ _ _ _ _))
  have RA := Lib.hid (show W1.rowIs w.heap.size 34 3 (tri (.slice ea A.ends.length ec) v1 (.slice pa A.inputs.length pc)) by rw [hW1]; exact (boxed_row _ _ _ _ _).alloc _)
  have RB := Lib.hid (show W1.rowIs (w.heap.size + 1) 34 3 (tri (.slice fa B.ends.length fc) u1 (.slice qa B.inputs.length qc)) by rw [hW1]; simpa using boxed_row (boxed w (.slice ea A.ends.length ec) v1 (.slice pa A.inputs.length pc) 34) (.slice fa B.ends.length fc) u1 (.slice qa B.inputs.length qc) 34)
  obtain ⟨p0, p1, p2, -, -, -⟩ := row3_facts RA.out
  rw [hW1] at p0 p1 p2
  by_cases ha : Good A
  case neg =>
    have DA := Lib.hid (dec_false ha)
    have D := Lib.hid (dec_false (p := TwoG A B) fun h => ha h.1)
    have E := Lib.hid (pm_f (A := A) (B := B) (m := m) fun h => ha h.1)
    clear ha
    go_enter Try.func192, Try.ntmps192
    go_wp2_with fail
    rw [← hW1]
    clear hW1 p0 p1 p2
    (with_reducible refine (isNetwork_any (HA.out.ext EW.out)).mono ?_)
    rintro e w1 ⟨rfl, hx1⟩
    rw [DA.out]
    have K1 := Lib.hid hx1
    obtain ⟨q0, q1, q2, -, -, -⟩ := row3_facts (row_ext RB.out hx1)
    obtain ⟨p0, p1, p2, -, -, -⟩ := row3_facts (row_ext RA.out hx1)
    clear hx1
    go_wp2
    go_ret2
    exact ⟨ret_bb E.out.symm D.out.symm, EW.out.trans' K1.out⟩
  by_cases hb : Good B
  case neg =>
    have DA := Lib.hid (dec_true ha)
    have DB := Lib.hid (dec_false hb)
    have D := Lib.hid (dec_false (p := TwoG A B) fun h => hb h.2)
    have E := Lib.hid (pm_f (A := A) (B := B) (m := m) fun h => hb h.2)
    clear ha hb
    go_enter Try.func192, Try.ntmps192
    go_wp2_with fail
    rw [← hW1]
    clear hW1 p0 p1 p2
    (with_reducible refine (isNetwork_any (HA.out.ext EW.out)).mono ?_)
    rintro e w1 ⟨rfl, hx1⟩
    rw [DA.out]
    have K1 := Lib.hid hx1
    obtain ⟨q0, q1, q2, -, -, -⟩ := row3_facts (row_ext RB.out hx1)
    obtain ⟨p0, p1, p2, -, -, -⟩ := row3_facts (row_ext RA.out hx1)
    clear hx1
    go_wp2_with fail
    (with_reducible refine (isNetwork_any (HB.out.ext (EW.out.trans' K1.out))).mono ?_)
    rintro e w2 ⟨rfl, hx2⟩
    rw [DB.out]
    have K2 := Lib.hid (K1.out.trans' hx2)
    clear p0 p1 p2 q0 q1 q2
    obtain ⟨q0, q1, q2, -, -, -⟩ := row3_facts (row_ext RB.out K2.out)
    obtain ⟨p0, p1, p2, -, -, -⟩ := row3_facts (row_ext RA.out K2.out)
    clear hx2
    go_wp2
    go_ret2
    exact ⟨ret_bb E.out.symm D.out.symm, EW.out.trans' K2.out⟩
  have DA := Lib.hid (dec_true ha)
  have DB := Lib.hid (dec_true hb)
  have HGG := Lib.hid (show TwoG A B from ⟨ha, hb⟩)
  have D := Lib.hid (dec_true HGG.out)
  have GA := Lib.hid (good_w ha)
  have GB := Lib.hid (good_w hb)
  have h40 := GA.out.most
  have HAI := Lib.hid GA.out.ilen
  have HBI := Lib.hid GB.out.ilen
  clear ha hb
  by_cases hl : m.length = A.ends.length
  case neg =>
    have E := Lib.hid (dec_false (p := PmAns A B m) fun h => hl h.2.1)
    have hlb : ((m.length : Int) != (A.ends.length : Int)) = true := by simp; omega
    clear hl
    go_enter Try.func192, Try.ntmps192
    go_wp2_with fail
    rw [← hW1]
    clear hW1 p0 p1 p2
    (with_reducible refine (isNetwork_any (HA.out.ext EW.out)).mono ?_)
    rintro e w1 ⟨rfl, hx1⟩
    rw [DA.out]
    have K1 := Lib.hid hx1
    obtain ⟨q0, q1, q2, -, -, -⟩ := row3_facts (row_ext RB.out hx1)
    obtain ⟨p0, p1, p2, -, -, -⟩ := row3_facts (row_ext RA.out hx1)
    clear hx1
    go_wp2_with fail
    (with_reducible refine (isNetwork_any (HB.out.ext (EW.out.trans' K1.out))).mono ?_)
    rintro e w2 ⟨rfl, hx2⟩
    rw [DB.out]
    have K2 := Lib.hid (K1.out.trans' hx2)
    clear p0 p1 p2 q0 q1 q2
    obtain ⟨q0, q1, q2, -, -, -⟩ := row3_facts (row_ext RB.out K2.out)
    obtain ⟨p0, p1, p2, -, -, -⟩ := row3_facts (row_ext RA.out K2.out)
    clear hx2
    go_wp2
    go_ret2
    exact ⟨ret_bb E.out.symm D.out.symm, EW.out.trans' K2.out⟩
  have hlb : ((m.length : Int) != (A.ends.length : Int)) = false := by simp; omega
  have HLE := Lib.hid hl
  clear hl
  go_enter Try.func192, Try.ntmps192
  go_wp2_with fail
  rw [← hW1]
  clear hW1 p0 p1 p2
  (with_reducible refine (isNetwork_any (HA.out.ext EW.out)).mono ?_)
  rintro e w1 ⟨rfl, hx1⟩
  rw [DA.out]
  have K1 := Lib.hid hx1
  obtain ⟨q0, q1, q2, -, -, -⟩ := row3_facts (row_ext RB.out hx1)
  obtain ⟨p0, p1, p2, -, -, -⟩ := row3_facts (row_ext RA.out hx1)
  clear hx1
  go_wp2_with fail
  (with_reducible refine (isNetwork_any (HB.out.ext (EW.out.trans' K1.out))).mono ?_)
  rintro e w2 ⟨rfl, hx2⟩
  rw [DB.out]
  have K2 := Lib.hid (K1.out.trans' hx2)
  clear p0 p1 p2 q0 q1 q2
  obtain ⟨q0, q1, q2, -, -, -⟩ := row3_facts (row_ext RB.out K2.out)
  obtain ⟨p0, p1, p2, -, -, -⟩ := row3_facts (row_ext RA.out K2.out)
  clear hx2
  go_wp2_with fail
  go_loopg [26] m.length (fun g i wr => ∃ k : Nat, k ≤ m.length ∧ g = m.length - k ∧ i = .int .i64 k ∧ Hid (Ext w2 wr ∧ ∀ j, j < k → PmAt A B m j))
  case atStart => exact ⟨0, Nat.zero_le _, rfl, rfl, Ext.rfl' _, fun j hj => absurd hj (by omega)⟩
  case round =>
    obtain ⟨y, hk, rfl, rfl, Hr⟩ := hrel
    by_cases hlt : y < m.length
    · have hya : y < A.ends.length := by have := HLE.out; omega
      obtain ⟨_, hmy, rfl, hmr⟩ := HLC.out y hlt
      obtain ⟨x, hx⟩ : ∃ x, gi m y = x := ⟨_, rfl⟩
      rw [hx] at hmy hmr
      have HX := Lib.hid hx
      have HMR := Lib.hid hmr
      clear hx hmr
      obtain rfl := HLA.out (by omega)
      have EWR := Lib.hid ((EW.out.trans' K2.out).trans' Hr.out.1)
      have c1 := EWR.out.cell' hmy
      obtain ⟨p0, p1, p2, -, -, -⟩ := row3_facts (row_ext RA.out (K2.out.trans' Hr.out.1))
      obtain ⟨q0, q1, q2, -, -, -⟩ := row3_facts (row_ext RB.out (K2.out.trans' Hr.out.1))
      have P0 : ∀ x' : Wx wr, x'.w.cell? ⟨w.heap.size, 0, none⟩ = some (.slice ea A.ends.length ec) := fun x' => x'.ok.cell' p0
      have P2 : ∀ x' : Wx wr, x'.w.cell? ⟨w.heap.size, 2, none⟩ = some (.slice pa A.inputs.length pc) := fun x' => x'.ok.cell' p2
      have Q0 : ∀ x' : Wx wr, x'.w.cell? ⟨w.heap.size + 1, 0, none⟩ = some (.slice fa B.ends.length fc) := fun x' => x'.ok.cell' q0
      have Q1 : ∀ x' : Wx wr, x'.w.cell? ⟨w.heap.size + 1, 1, none⟩ = some u1 := fun x' => x'.ok.cell' q1
      have Q2 : ∀ x' : Wx wr, x'.w.cell? ⟨w.heap.size + 1, 2, none⟩ = some (.slice qa B.inputs.length qc) := fun x' => x'.ok.cell' q2
      clear hmy p0 p1 p2 q0 q1 q2
      by_cases hnd : NodeOK B x
      case neg =>
        have DN := Lib.hid (dec_false hnd)
        have E := Lib.hid (dec_false (p := PmAns A B m) fun h => hnd (by have := (h.2.2 y hya).1; rw [HX.out] at this; exact this))
        clear hnd
        go_wp2_with fail
        refine wp_region_ext (by kernel_rfl) (by kernel_rfl) ?_
        repeat (go_big_quiet_step ((go_at_call 84; exact in_ext_bool (hasNode_any x (HB.out.ext (EWR.out.trans' (Wx.ok _)))) DN.out)))
        refine wpQuiet_nil ?_
        rintro wq ⟨⟨_, hq⟩, rfl⟩
        have EWQ := Lib.hid (EWR.out.trans' hq)
        clear hq
        go_wp2
        go_ret2
        exact ⟨ret_bb E.out.symm D.out.symm, EWQ.out⟩
      have DN := Lib.hid (dec_true hnd)
      obtain ⟨z, hz⟩ := Int.eq_ofNat_of_zero_le hnd.1
      have hzB : z < B.ends.length := by have := hnd.2; omega
      have HZ := Lib.hid (show gi m y = (z : Int) by rw [HX.out, hz])
      have HZN := Lib.hid (show (gi m y).toNat = z by rw [HZ.out, Int.toNat_natCast])
      subst hz
      have hnd' := Lib.hid hnd
      clear hnd
      have hyi : y < A.inputs.length := by have := HAI.out; omega
      have hzi : z < B.inputs.length := by have := HBI.out; omega
      obtain rfl := HEA.out (by omega)
      obtain rfl := HFA.out (by omega)
      obtain rfl := HPA.out (by omega)
      obtain rfl := HQA.out (by omega)
      obtain ⟨_, hra, hrowa⟩ := HEC.out y hya
      have HRWA := Lib.hid hrowa
      obtain ⟨aa, ab, ao, ac, rfl, -, hal, ham, -⟩ := hrowa
      obtain ⟨_, hrb, hrowb⟩ := HFC.out z hzB
      have HRWB := Lib.hid hrowb
      obtain ⟨ba, bb, bo, bc, rfl, -, hbl, hbm, -⟩ := hrowb
      obtain ⟨_, hxa, rfl, -⟩ := HPC.out y hyi
      obtain ⟨_, hxb, rfl, -⟩ := HQC.out z hzi
      unfold maxLen at ham hbm
      have HRA := Lib.hid (EWR.out.cell' hra)
      have HRB := Lib.hid (EWR.out.cell' hrb)
      obtain ⟨xA, hxA⟩ : ∃ d, d = gi A.inputs y := ⟨_, rfl⟩
      obtain ⟨xB, hxB⟩ : ∃ d, d = gi B.inputs z := ⟨_, rfl⟩
      have X2 : ∀ x' : Wx wr, x'.w.cell? ⟨pb, po + y, none⟩ = some (.int .i64 xA) := fun x' => by rw [hxA]; exact x'.ok.cell' (EWR.out.cell' hxa)
      have X3 : ∀ x' : Wx wr, x'.w.cell? ⟨qb, qo + z, none⟩ = some (.int .i64 xB) := fun x' => by rw [hxB]; exact x'.ok.cell' (EWR.out.cell' hxb)
      have HMK := Lib.hid (show PmAt A B m y ↔ xA = xB ∧ under m (gr A.ends y) = gr B.ends z by
        unfold PmAt
        rw [HZN.out, ← hxA, ← hxB]
        exact ⟨fun h => h.2, fun h => ⟨by rw [HZ.out]; exact hnd'.out, h⟩⟩)
      clear hra hrb hxA hxB hxa hxb
      by_cases hm2 : xA = xB
      case neg =>
        have hb2 : (xA != xB) = true := by simpa using hm2
        have E := Lib.hid (dec_false (p := PmAns A B m) fun h => hm2 (HMK.out.1 (h.2.2 y hya)).1)
        clear hm2
        go_wp2_with fail
        refine wp_region_ext (by kernel_rfl) (by kernel_rfl) ?_
        repeat (go_big_quiet_step ((go_at_call 84; exact in_ext_bool (hasNode_any (z : Int) (HB.out.ext (EWR.out.trans' (Wx.ok _)))) DN.out)))
        refine wpQuiet_nil ?_
        rintro wq ⟨⟨_, hq⟩, rfl⟩
        have EWQ := Lib.hid (EWR.out.trans' hq)
        clear hq
        go_wp2
        go_ret2
        exact ⟨ret_bb E.out.symm D.out.symm, EWQ.out⟩
      have hb2 : (xA != xB) = false := by simpa using hm2
      have HM2 := Lib.hid hm2
      clear hm2
      have h6 := GA.out.deg y hya
      have mkS : ∀ w' : World, Ext wr w' → w'.cell? ⟨w.heap.size, 0, none⟩ = some (.slice (some ⟨eb, eo, none⟩) A.ends.length ec) ∧ w'.cell? ⟨w.heap.size, 2, none⟩ = some (.slice (some ⟨pb, po, none⟩) A.inputs.length pc) ∧
          w'.cell? ⟨w.heap.size + 1, 0, none⟩ = some (.slice (some ⟨fb, fo, none⟩) B.ends.length fc) ∧ w'.cell? ⟨w.heap.size + 1, 1, none⟩ = some u1 ∧ w'.cell? ⟨w.heap.size + 1, 2, none⟩ = some (.slice (some ⟨qb, qo, none⟩) B.inputs.length qc) ∧
          w'.cell? ⟨pb, po + y, none⟩ = some (.int .i64 xA) ∧ w'.cell? ⟨qb, qo + z, none⟩ = some (.int .i64 xB) ∧ w'.cell? ⟨eb, eo + y, none⟩ = some (.slice aa (gr A.ends y).length ac) ∧ w'.cell? ⟨fb, fo + z, none⟩ = some (.slice ba (gr B.ends z).length bc) :=
        fun w' h => ⟨P0 ⟨w', h⟩, P2 ⟨w', h⟩, Q0 ⟨w', h⟩, Q1 ⟨w', h⟩, Q2 ⟨w', h⟩, X2 ⟨w', h⟩, X3 ⟨w', h⟩, h.cell' HRA.out, h.cell' HRB.out⟩
      have hin : Hid (∀ i, i < (gr A.ends y).length → 0 ≤ gn (gr A.ends y) i ∧ gn (gr A.ends y) i < (m.length : Int)) := fun i hi => by have := GA.out.leads.node y hya i hi; have := HLE.out; omega
      clear P0 P2 Q0 Q1 Q2 X2 X3
      go_wp2_with fail
      refine wp_region_gate (n := 30) (S := fun w' => w'.cell? ⟨w.heap.size, 0, none⟩ = some (.slice (some ⟨eb, eo, none⟩) A.ends.length ec) ∧ w'.cell? ⟨w.heap.size, 2, none⟩ = some (.slice (some ⟨pb, po, none⟩) A.inputs.length pc) ∧
          w'.cell? ⟨w.heap.size + 1, 0, none⟩ = some (.slice (some ⟨fb, fo, none⟩) B.ends.length fc) ∧ w'.cell? ⟨w.heap.size + 1, 1, none⟩ = some u1 ∧ w'.cell? ⟨w.heap.size + 1, 2, none⟩ = some (.slice (some ⟨qb, qo, none⟩) B.inputs.length qc) ∧
          w'.cell? ⟨pb, po + y, none⟩ = some (.int .i64 xA) ∧ w'.cell? ⟨qb, qo + z, none⟩ = some (.int .i64 xB) ∧ w'.cell? ⟨eb, eo + y, none⟩ = some (.slice aa (gr A.ends y).length ac) ∧ w'.cell? ⟨fb, fo + z, none⟩ = some (.slice ba (gr B.ends z).length bc)) (by kernel_rfl) (mkS _ (Ext.rfl' wr).drew') (fun hHeld => ?_)
      refine wpAnyG_take (i := 0) (v := ?_) rfl (by decide +kernel) (by kernel_rfl) (by decide) (by kernel_rfl) (by kernel_rfl) (fun _ _ _ h => h) (Or.inl ⟨by kernel_rfl, ?_⟩) hHeld ?_
      rotate_left 1
      · (intro w' hSw; (try dsimp only at hSw); go_simp) <;> with_reducible rfl
      simp only [Act.put]
      refine wpAnyG_take (i := 1) (v := ?_) rfl (by decide +kernel) (by kernel_rfl) (by decide) (by kernel_rfl) (by kernel_rfl) (fun _ _ _ h => h) (Or.inl ⟨by kernel_rfl, ?_⟩) hHeld ?_
      rotate_left 1
      · (intro w' hSw; (try dsimp only at hSw); go_simp) <;> with_reducible rfl
      simp only [Act.put]
      refine wpAnyG_one (i := 2) rfl (by kernel_rfl) rfl (fun K hK => ?_)
      go_simp
      (with_reducible refine (hasNode_any (z : Int) (HB.out.ext (EWR.out.trans' (Ext.rfl' wr).drew'))).mono ?_)
      rintro e w3 ⟨rfl, hx3⟩
      rw [DN.out]
      have X3 := Lib.hid ((Ext.rfl' wr).drew'.trans' hx3)
      clear hHeld hx3
      refine hK.out _ _ (fun _ => mkS _ X3.out) (fun hHeld' => ?_)
      have hHeld := hHeld' (by decide)
      clear hK K hHeld'
      refine wpAnyG_take (i := 3) (v := ?_) rfl (by decide +kernel) (by kernel_rfl) (by decide) (by kernel_rfl) (by kernel_rfl) (fun _ _ _ h => h) (Or.inl ⟨by kernel_rfl, ?_⟩) hHeld ?_
      rotate_left 1
      · (intro w' hSw; (try dsimp only at hSw); go_simp) <;> with_reducible rfl
      simp only [Act.put]
      refine wpAnyG_take (i := 4) (v := ?_) rfl (by decide +kernel) (by kernel_rfl) (by decide) (by kernel_rfl) (by kernel_rfl) (fun _ _ _ h => h) (Or.inl ⟨by kernel_rfl, ?_⟩) hHeld ?_
      rotate_left 1
      · (intro w' hSw; (try dsimp only at hSw); go_simp) <;> with_reducible rfl
      simp only [Act.put]
      refine wpAnyG_take (i := 5) (v := ?_) rfl (by decide +kernel) (by kernel_rfl) (by decide) (by kernel_rfl) (by kernel_rfl) (fun _ _ _ h => h) (Or.inl ⟨by kernel_rfl, ?_⟩) hHeld ?_
      rotate_left 1
      · (intro w' hSw; (try dsimp only at hSw); go_simp) <;> with_reducible rfl
      simp only [Act.put]
      refine wpAnyG_take (i := 6) (v := ?_) rfl (by decide +kernel) (by kernel_rfl) (by decide) (by kernel_rfl) (by kernel_rfl) (fun _ _ _ h => h) (Or.inl ⟨by kernel_rfl, ?_⟩) hHeld ?_
      rotate_left 1
      · (intro w' hSw; (try dsimp only at hSw); go_simp) <;> with_reducible rfl
      simp only [Act.put]
      refine wpAnyG_take (i := 7) (v := ?_) rfl (by decide +kernel) (by kernel_rfl) (by decide) (by kernel_rfl) (by kernel_rfl) (fun _ _ _ h => h) (Or.inl ⟨by kernel_rfl, ?_⟩) hHeld ?_
      rotate_left 1
      · (intro w' hSw; (try dsimp only at hSw); go_simp) <;> with_reducible rfl
      simp only [Act.put]
      refine wpAnyG_take (i := 8) (v := ?_) rfl (by decide +kernel) (by kernel_rfl) (by decide) (by kernel_rfl) (by kernel_rfl) (fun _ _ _ h => h) (Or.inl ⟨by kernel_rfl, ?_⟩) hHeld ?_
      rotate_left 1
      · (intro w' hSw; (try dsimp only at hSw); go_simp) <;> with_reducible rfl
      simp only [Act.put]
      refine wpAnyG_take (i := 9) (v := ?_) rfl (by decide +kernel) (by kernel_rfl) (by decide) (by kernel_rfl) (by kernel_rfl) (fun _ _ _ h => h) (Or.inl ⟨by kernel_rfl, ?_⟩) hHeld ?_
      rotate_left 1
      · (intro w' hSw; (try dsimp only at hSw); go_simp) <;> with_reducible rfl
      simp only [Act.put]
      refine wpAnyG_take (i := 10) (v := ?_) rfl (by decide +kernel) (by kernel_rfl) (by decide) (by kernel_rfl) (by kernel_rfl) (fun _ _ _ h => h) (Or.inl ⟨by kernel_rfl, ?_⟩) hHeld ?_
      rotate_left 1
      · (intro w' hSw; (try dsimp only at hSw); go_simp) <;> with_reducible rfl
      simp only [Act.put]
      refine wpAnyG_take (i := 11) (v := ?_) rfl (by decide +kernel) (by kernel_rfl) (by decide) (by kernel_rfl) (by kernel_rfl) (fun _ _ _ h => h) (Or.inl ⟨by kernel_rfl, ?_⟩) hHeld ?_
      rotate_left 1
      · (intro w' hSw; (try dsimp only at hSw); go_simp) <;> with_reducible rfl
      simp only [Act.put]
      refine wpAnyG_take (i := 12) (v := ?_) rfl (by decide +kernel) (by kernel_rfl) (by decide) (by kernel_rfl) (by kernel_rfl) (fun _ _ _ h => h) (Or.inl ⟨by kernel_rfl, ?_⟩) hHeld ?_
      rotate_left 1
      · (intro w' hSw; (try dsimp only at hSw); go_simp) <;> with_reducible rfl
      simp only [Act.put]
      refine wpAnyG_take (i := 13) (v := ?_) rfl (by decide +kernel) (by kernel_rfl) (by decide) (by kernel_rfl) (by kernel_rfl) (fun _ _ _ h => h) (Or.inl ⟨by kernel_rfl, ?_⟩) hHeld ?_
      rotate_left 1
      · (intro w' hSw; (try dsimp only at hSw); go_simp) <;> with_reducible rfl
      simp only [Act.put]
      refine wpAnyG_take (i := 14) (v := ?_) rfl (by decide +kernel) (by kernel_rfl) (by decide) (by kernel_rfl) (by kernel_rfl) (fun _ _ _ h => h) (Or.inl ⟨by kernel_rfl, ?_⟩) hHeld ?_
      rotate_left 1
      · (intro w' hSw; (try dsimp only at hSw); go_simp) <;> with_reducible rfl
      simp only [Act.put]
      refine wpAnyG_take (i := 15) (v := ?_) rfl (by decide +kernel) (by kernel_rfl) (by decide) (by kernel_rfl) (by kernel_rfl) (fun _ _ _ h => h) (Or.inl ⟨by kernel_rfl, ?_⟩) hHeld ?_
      rotate_left 1
      · (intro w' hSw; (try dsimp only at hSw); go_simp) <;> with_reducible rfl
      simp only [Act.put]
      refine wpAnyG_take (i := 16) (v := ?_) rfl (by decide +kernel) (by kernel_rfl) (by decide) (by kernel_rfl) (by kernel_rfl) (fun _ _ _ h => h) (Or.inl ⟨by kernel_rfl, ?_⟩) hHeld ?_
      rotate_left 1
      · (intro w' hSw; (try dsimp only at hSw); go_simp) <;> with_reducible rfl
      simp only [Act.put]
      refine wpAnyG_take (i := 17) (v := ?_) rfl (by decide +kernel) (by kernel_rfl) (by decide) (by kernel_rfl) (by kernel_rfl) (fun _ _ _ h => h) (Or.inl ⟨by kernel_rfl, ?_⟩) hHeld ?_
      rotate_left 1
      · (intro w' hSw; (try dsimp only at hSw); go_simp) <;> with_reducible rfl
      simp only [Act.put]
      refine wpAnyG_take (i := 18) (v := ?_) rfl (by decide +kernel) (by kernel_rfl) (by decide) (by kernel_rfl) (by kernel_rfl) (fun _ _ _ h => h) (Or.inl ⟨by kernel_rfl, ?_⟩) hHeld ?_
      rotate_left 1
      · (intro w' hSw; (try dsimp only at hSw); go_simp) <;> with_reducible rfl
      simp only [Act.put]
      refine wpAnyG_take (i := 19) (v := ?_) rfl (by decide +kernel) (by kernel_rfl) (by decide) (by kernel_rfl) (by kernel_rfl) (fun _ _ _ h => h) (Or.inl ⟨by kernel_rfl, ?_⟩) hHeld ?_
      rotate_left 1
      · (intro w' hSw; (try dsimp only at hSw); go_simp) <;> with_reducible rfl
      simp only [Act.put]
      refine wpAnyG_take (i := 20) (v := ?_) rfl (by decide +kernel) (by kernel_rfl) (by decide) (by kernel_rfl) (by kernel_rfl) (fun _ _ _ h => h) (Or.inl ⟨by kernel_rfl, ?_⟩) hHeld ?_
      rotate_left 1
      · (intro w' hSw; (try dsimp only at hSw); go_simp) <;> with_reducible rfl
      simp only [Act.put]
      refine wpAnyG_take (i := 21) (v := ?_) rfl (by decide +kernel) (by kernel_rfl) (by decide) (by kernel_rfl) (by kernel_rfl) (fun _ _ _ h => h) (Or.inl ⟨by kernel_rfl, ?_⟩) hHeld ?_
      rotate_left 1
      · (intro w' hSw; (try dsimp only at hSw); go_simp) <;> with_reducible rfl
      simp only [Act.put]
      refine wpAnyG_take (i := 22) (v := ?_) rfl (by decide +kernel) (by kernel_rfl) (by decide) (by kernel_rfl) (by kernel_rfl) (fun _ _ _ h => h) (Or.inl ⟨by kernel_rfl, ?_⟩) hHeld ?_
      rotate_left 1
      · (intro w' hSw; (try dsimp only at hSw); go_simp) <;> with_reducible rfl
      simp only [Act.put]
      refine wpAnyG_take (i := 23) (v := ?_) rfl (by decide +kernel) (by kernel_rfl) (by decide) (by kernel_rfl) (by kernel_rfl) (fun _ _ _ h => h) (Or.inl ⟨by kernel_rfl, ?_⟩) hHeld ?_
      rotate_left 1
      · (intro w' hSw; (try dsimp only at hSw); go_simp) <;> with_reducible rfl
      simp only [Act.put]
      refine wpAnyG_take (i := 25) (v := ?_) rfl (by decide +kernel) (by kernel_rfl) (by decide) (by kernel_rfl) (by kernel_rfl) (fun _ _ _ h => h) (Or.inl ⟨by kernel_rfl, ?_⟩) hHeld ?_
      rotate_left 1
      · (intro w' hSw; (try dsimp only at hSw); go_simp) <;> with_reducible rfl
      simp only [Act.put]
      refine wpAnyG_take (i := 26) (v := ?_) rfl (by decide +kernel) (by kernel_rfl) (by decide) (by kernel_rfl) (by kernel_rfl) (fun _ _ _ h => h) (Or.inl ⟨by kernel_rfl, ?_⟩) hHeld ?_
      rotate_left 1
      · (intro w' hSw; (try dsimp only at hSw); go_simp) <;> with_reducible rfl
      simp only [Act.put]
      refine wpAnyG_take (i := 27) (v := ?_) rfl (by decide +kernel) (by kernel_rfl) (by decide) (by kernel_rfl) (by kernel_rfl) (fun _ _ _ h => h) (Or.inl ⟨by kernel_rfl, ?_⟩) hHeld ?_
      rotate_left 1
      · (intro w' hSw; (try dsimp only at hSw); go_simp) <;> with_reducible rfl
      simp only [Act.put]
      refine wpAnyG_take (i := 28) (v := ?_) rfl (by decide +kernel) (by kernel_rfl) (by decide) (by kernel_rfl) (by kernel_rfl) (fun _ _ _ h => h) (Or.inl ⟨by kernel_rfl, ?_⟩) hHeld ?_
      rotate_left 1
      · (intro w' hSw; (try dsimp only at hSw); go_simp) <;> with_reducible rfl
      simp only [Act.put]
      refine wpAnyG_take (i := 29) (v := ?_) rfl (by decide +kernel) (by kernel_rfl) (by decide) (by kernel_rfl) (by kernel_rfl) (fun _ _ _ h => h) (Or.inl ⟨by kernel_rfl, ?_⟩) hHeld ?_
      rotate_left 1
      · (intro w' hSw; (try dsimp only at hSw); go_simp) <;> with_reducible rfl
      simp only [Act.put]
      refine wpAnyG_oneG (i := 24) rfl (by kernel_rfl) (by kernel_rfl) (fun K hK => ?_)
      go_simp
      (with_reducible refine (endsUnder_any (HF.out.ext (EWR.out.trans' X3.out)) (HRWA.out.ext (EWR.out.trans' X3.out)) (by omega) hin.out).mono ?_)
      rintro e w4 ⟨nb, rfl, hx4, ho, -⟩
      have X4 := Lib.hid (X3.out.trans' hx4)
      have OU := Lib.hid ho.read
      clear hHeld hx4 ho
      refine hK.out _ _ (fun _ => mkS _ X4.out) (fun hHeld' => ?_)
      have hHeld := hHeld' (by decide)
      clear hK K hHeld'
      refine wpAnyG_oneG (i := 30) rfl (by kernel_rfl) (by kernel_rfl) (fun K hK => ?_)
      go_simp
      (with_reducible refine (endEq_any OU.out (HRWB.out.ext (EWR.out.trans' X4.out))).mono ?_)
      rintro e w5 ⟨rfl, hx5⟩
      have X5 := Lib.hid (X4.out.trans' hx5)
      clear hHeld hx5
      refine hK.out _ _ (fun h => absurd rfl h) (fun _ => ?_)
      clear hK K
      have hHeld := mkS _ X5.out
      by_cases hrow : under m (gr A.ends y) = gr B.ends z
      · rw [dec_true hrow]
        have MM := Lib.hid (HMK.out.2 ⟨HM2.out, hrow⟩)
        clear hrow
        refine wpAnyG_oneG (i := 31) rfl (by kernel_rfl) (by kernel_rfl) (fun K hK => ?_)
        go_simp
        refine hK.out _ _ (fun _ => hHeld) (fun _ => ?_)
        clear hK K
        refine wpAnyG_oneG (i := 32) rfl (by kernel_rfl) (by kernel_rfl) (fun K hK => ?_)
        go_simp
        refine hK.out _ _ (fun _ => hHeld) (fun _ => ?_)
        clear hK K
        refine wpAnyG_done (by kernel_rfl) ?_ _
        clear hHeld mkS
        go_wp2
        go_roundg (m.length - (y + 1))
        case measure => omega
        case rel =>
          refine ⟨y + 1, by omega, rfl, by go_num, Hr.out.1.trans' X5.out, fun t ht => ?_⟩
          by_cases e : t = y
          · subst e; exact MM.out
          · exact Hr.out.2 t (by omega)
      · rw [dec_false hrow]
        have E := Lib.hid (dec_false (p := PmAns A B m) fun h => hrow (HMK.out.1 (h.2.2 y hya)).2)
        clear hrow
        refine wpAnyG_oneG (i := 31) rfl (by kernel_rfl) (by kernel_rfl) (fun K hK => ?_)
        go_simp
        refine hK.out _ _ (fun _ => hHeld) (fun _ => ?_)
        clear hK K
        refine wpAnyG_oneG (i := 32) rfl (by kernel_rfl) (by kernel_rfl) (fun K hK => ?_)
        go_simp
        refine hK.out _ _ (fun _ => hHeld) (fun _ => ?_)
        clear hK K
        refine wpAnyG_done (by kernel_rfl) ?_ _
        clear hHeld mkS
        go_wp2
        go_ret2
        exact ⟨ret_bb E.out.symm D.out.symm, EWR.out.trans' X5.out⟩
    · obtain rfl : y = m.length := by omega
      have E := Lib.hid (dec_true (p := PmAns A B m) ⟨HGG.out, HLE.out, fun v hv => Hr.out.2 v (by have := HLE.out; omega)⟩)
      go_wp2
      go_ret2
      exact ⟨ret_bb E.out.symm D.out.symm, (EW.out.trans' K2.out).trans' Hr.out.1⟩

set_option maxHeartbeats 800000 in
set_option maxRecDepth 100000 in
theorem keepsPorts_any {w : World} {va vb vf : Value} {A B : Net} {m : List Int} (h : NetAt w va A) (k : NetAt w vb B) (hf : IntSl w vf m) :
    Calls Try.prog 182 #[va, vb, vf] w fun e w' => e = .returned (.bool (dec (PmAns A B m))) ∧ Ext w w' := by
  have HA := Lib.hid h
  have HB := Lib.hid k
  have HF := Lib.hid hf
  obtain ⟨v0, v1, v2, rfl, -, -, -⟩ := h
  obtain ⟨u0, u1, u2, rfl, -, -, -⟩ := k
  obtain ⟨W1, hW1⟩ : ∃ W1, W1 = (w.alloc (.cells #[v0, v1, v2] 34)).alloc (.cells #[u0, u1, u2] 34) := ⟨_, rfl⟩
  have EW := Lib.hid (show Ext w W1 by rw [hW1]; exact (boxed_ext _ _ _ _ _).trans' (boxed_ext _ _ _ _ _))
  have RA := Lib.hid (show W1.rowIs w.heap.size 34 3 (tri v0 v1 v2) by rw [hW1]; exact (boxed_row _ _ _ _ _).alloc _)
  have RB := Lib.hid (show W1.rowIs (w.heap.size + 1) 34 3 (tri u0 u1 u2) by rw [hW1]; simpa using boxed_row (boxed w v0 v1 v2 34) u0 u1 u2 34)
  obtain ⟨p0, p1, p2, -, -, -⟩ := row3_facts RA.out
  obtain ⟨q0, q1, q2, -, -, -⟩ := row3_facts RB.out
  rw [hW1] at p0 p1 p2 q0 q1 q2
  go_enter Try.func182, Try.ntmps182
  go_wp2_with fail
  rw [← hW1]
  clear hW1 p0 p1 p2 q0 q1 q2
  (with_reducible refine (isPortMap_any (HA.out.ext EW.out) (HB.out.ext EW.out) (HF.out.ext EW.out)).mono ?_)
  rintro e w1 ⟨rfl, hx1⟩
  have K1 := Lib.hid (EW.out.trans' hx1)
  clear hx1
  go_wp2
  go_ret
  exact ⟨rfl, K1.out⟩
end Go.Proofs.Ytkpdbceglejbnaa
