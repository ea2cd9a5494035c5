/- The contract of the model's RefusalOf. -/
import Derived.Test.YtkpdbceglejbnaaTko
namespace Go.Proofs.Ytkpdbceglejbnaa
open Go.RowKit

theorem row4_set2 {w : World} {b t : Nat} {x0 x1 x2 x3 : Value} (h : w.rowIs b t 4 (quad x0 x1 x2 x3)) (y : Value) : (w.setCell ⟨b, 2, none⟩ y).rowIs b t 4 (quad x0 x1 y x3) :=
  (h.set 2 y).congr fun i hi => by match i, hi with | 0, _ => rfl | 1, _ => rfl | 2, _ => rfl | 3, _ => rfl
theorem row4_set3 {w : World} {b t : Nat} {x0 x1 x2 x3 : Value} (h : w.rowIs b t 4 (quad x0 x1 x2 x3)) (y : Value) : (w.setCell ⟨b, 3, none⟩ y).rowIs b t 4 (quad x0 x1 x2 y) :=
  (h.set 3 y).congr fun i hi => by match i, hi with | 0, _ => rfl | 1, _ => rfl | 2, _ => rfl | 3, _ => rfl

set_option maxHeartbeats 1600000 in
set_option maxRecDepth 100000 in
theorem specRefusalOf_any {w : World} {v : Value} {N : Net} (t : Int) (h : NetAt w v N) :
    Calls Try.prog 35 #[v, .int .i64 t] w fun e w' => ∃ v' bs, e = .returned (.tuple #[rfV (roT N t) (roU N t) (roV N t) v', .bool (dec (RoB N t))]) ∧ Ext w w' ∧ OwnI w' v' (roL N t) bs ∧ Fresh w bs := by
  have HN := Lib.hid h
  obtain ⟨v0, v1, v2, rfl, -, -, -⟩ := h
  obtain ⟨W1, hW1⟩ : ∃ W1, W1 = (w.alloc (.cells #[v0, v1, v2] 34)).alloc (.cells #[.int .i64 0, .slice none 0 0, .int .i64 0, .int .i64 0] 52) := ⟨_, rfl⟩
  have HX := Lib.hid (show Ext w W1 by rw [hW1]; exact (boxed_ext _ _ _ _ _).alloc' _)
  have HR := Lib.hid (show W1.rowIs w.heap.size 34 3 (tri v0 v1 v2) by rw [hW1]; exact (boxed_row _ _ _ _ _).alloc _)
  have R4 := Lib.hid (show W1.rowIs (w.heap.size + 1) 52 4 (quad (.int .i64 0) (.slice none 0 0) (.int .i64 0) (.int .i64 0)) by rw [hW1]; simpa using row4_made (w.alloc (.cells #[v0, v1, v2] 34)) (.int .i64 0) (.slice none 0 0) (.int .i64 0) (.int .i64 0) 52)
  have HWS := Lib.hid (show W1.heap.size = w.heap.size + 2 by rw [hW1]; simp)
  obtain ⟨p0, p1, p2, -, -, -⟩ := row3_facts HR.out
  by_cases hg : Good N
  case neg =>
    have G := Lib.hid (dec_false hg)
    have D := Lib.hid (ro_f (N := N) fun k : RoB N t => hg k.1.1)
    clear hg
    have P0 : ∀ x' : Wx W1, x'.w.cell? ⟨w.heap.size, 0, none⟩ = some v0 := fun x' => x'.ok.cell' p0
    have P1 : ∀ x' : Wx W1, x'.w.cell? ⟨w.heap.size, 1, none⟩ = some v1 := fun x' => x'.ok.cell' p1
    have P2 : ∀ x' : Wx W1, x'.w.cell? ⟨w.heap.size, 2, none⟩ = some v2 := fun x' => x'.ok.cell' p2
    go_enter Try.func35, Try.ntmps35
    go_wp2_with fail
    rw [← hW1]
    clear hW1 p0 p1 p2
    refine wp_region_ext (by kernel_rfl) (by kernel_rfl) ?_
    repeat (go_big_quiet_step ((go_at_call 62; exact in_ext_bool (neGood_any (HN.out.ext (HX.out.trans' (Wx.ok _)))) G.out)))
    refine wpQuiet_nil ?_
    rintro wq ⟨⟨_, hq⟩, rfl⟩
    have K1 := Lib.hid (HX.out.trans' hq)
    have R1 := Lib.hid (row_ext R4.out hq)
    obtain ⟨c0, c1, c2, c3, d0, d1, d2, d3⟩ := row4_facts R1.out
    clear hq P0 P1 P2
    go_wp2
    have KS := Lib.hid (K1.out.store4 (p := w.heap.size + 1) (by omega) (.int .i64 0) (.slice none 0 0) (.int .i64 0) (.int .i64 0))
    obtain ⟨z0, z1, z2, z3, -, -, -, -⟩ := row4_facts (row4_put R1.out (.int .i64 0) (.slice none 0 0) (.int .i64 0) (.int .i64 0))
    refine bodyPost_ret (v := .tuple #[.agg #[.int .i64 0, .slice none 0 0, .int .i64 0, .int .i64 0], .bool false]) (by simp [results, Try.results35, go_sem, z0, z1, z2, z3]) rfl ⟨_, [], ret_rf D.out.1.symm D.out.2.2.1.symm D.out.2.2.2.1.symm D.out.2.2.2.2.symm, KS.out, by rw [D.out.2.1]; exact own_nil0 _, Fresh.nil _⟩
  have G := Lib.hid (dec_true hg)
  by_cases ht : InB t 1 3
  case neg =>
    have T := Lib.hid (dec_false ht)
    have D := Lib.hid (ro_f (N := N) fun k : RoB N t => ht k.1.2)
    clear hg ht
    have P0 : ∀ x' : Wx W1, x'.w.cell? ⟨w.heap.size, 0, none⟩ = some v0 := fun x' => x'.ok.cell' p0
    have P1 : ∀ x' : Wx W1, x'.w.cell? ⟨w.heap.size, 1, none⟩ = some v1 := fun x' => x'.ok.cell' p1
    have P2 : ∀ x' : Wx W1, x'.w.cell? ⟨w.heap.size, 2, none⟩ = some v2 := fun x' => x'.ok.cell' p2
    go_enter Try.func35, Try.ntmps35
    go_wp2_with fail
    rw [← hW1]
    clear hW1 p0 p1 p2
    refine wp_region_ext (by kernel_rfl) (by kernel_rfl) ?_
    repeat (go_big_quiet_step (first | (go_at_call 62; exact in_ext_bool (neGood_any (HN.out.ext (HX.out.trans' (Wx.ok _)))) G.out) | (go_at_call 53; exact in_same_bool (imTask_any _ _) T.out)))
    refine wpQuiet_nil ?_
    rintro wq ⟨⟨_, hq⟩, rfl⟩
    have K1 := Lib.hid (HX.out.trans' hq)
    have R1 := Lib.hid (row_ext R4.out hq)
    obtain ⟨c0, c1, c2, c3, d0, d1, d2, d3⟩ := row4_facts R1.out
    clear hq P0 P1 P2
    go_wp2
    have KS := Lib.hid (K1.out.store4 (p := w.heap.size + 1) (by omega) (.int .i64 0) (.slice none 0 0) (.int .i64 0) (.int .i64 0))
    obtain ⟨z0, z1, z2, z3, -, -, -, -⟩ := row4_facts (row4_put R1.out (.int .i64 0) (.slice none 0 0) (.int .i64 0) (.int .i64 0))
    refine bodyPost_ret (v := .tuple #[.agg #[.int .i64 0, .slice none 0 0, .int .i64 0, .int .i64 0], .bool false]) (by simp [results, Try.results35, go_sem, z0, z1, z2, z3]) rfl ⟨_, [], ret_rf D.out.1.symm D.out.2.2.1.symm D.out.2.2.2.1.symm D.out.2.2.2.2.symm, KS.out, by rw [D.out.2.1]; exact own_nil0 _, Fresh.nil _⟩
  have T := Lib.hid (dec_true ht)
  have NI := Lib.hid (good_nodes hg)
  have hn : 0 < N.ends.length := hg.1.1
  have h40 : N.ends.length ≤ 40 := hg.1.2
  have HG := Lib.hid hg
  have HL := Lib.hid (twC_len N)
  have HRG := Lib.hid (show ∀ i, i < (twC N).length → 0 ≤ gi (twC N) i ∧ inI64 (gi (twC N) i) from seq_range N hg _)
  have mkS : ∀ w' : World, Ext W1 w' → w'.cell? ⟨w.heap.size, 0, none⟩ = some v0 ∧ w'.cell? ⟨w.heap.size, 1, none⟩ = some v1 ∧ w'.cell? ⟨w.heap.size, 2, none⟩ = some v2 ∧ Hid (Ext W1 w') := fun w' h => ⟨h.cell' p0, h.cell' p1, h.cell' p2, h⟩
  by_cases hc : Can N t (twC N)
  case pos =>
    have CC := Lib.hid (dec_true hc)
    have D := Lib.hid (ro_f (N := N) fun k : RoB N t => (can_has.2 k.2) hc)
    clear hg hc p0 p1 p2
    go_enter Try.func35, Try.ntmps35
    go_wp2_with fail
    rw [← hW1]
    clear hW1
    go_region_held3 (fun w' => w'.cell? ⟨w.heap.size, 0, none⟩ = some v0 ∧ w'.cell? ⟨w.heap.size, 1, none⟩ = some v1 ∧ w'.cell? ⟨w.heap.size, 2, none⟩ = some v2 ∧ Hid (Ext W1 w')) (first | exact mkS _ (Ext.rfl' W1).drew' | exact mkS _ XG.out | exact mkS _ XA.out | exact mkS _ XB.out | fail)
    (first | (go_at_call 62; (with_reducible refine (neGood_any (HN.out.ext (HX.out.trans' (‹_ ∧ _ ∧ _ ∧ Hid (Ext W1 _)›).2.2.2.out))).mono ?_); rintro e wG ⟨rfl, hx⟩; rw [G.out]; have XG := Lib.hid (Ext.trans' (‹_ ∧ _ ∧ _ ∧ Hid (Ext W1 _)›).2.2.2.out hx); clear hx) | (go_at_call 53; (with_reducible refine (imTask_any _ _).mono ?_); rintro e _ ⟨rfl, rfl⟩; rw [T.out]) | (go_at_call 68; (with_reducible refine (viTwins_any (HN.out.ext (HX.out.trans' XG.out)) NI.out hn (by omega)).mono ?_); rintro e wA ⟨b, rfl, hx, ho, -⟩; have XA := Lib.hid (Ext.trans' XG.out hx); have OA := Lib.hid (show IntSl wA _ (twC N) from ho.read); clear hx ho) | (go_at_call 64; (with_reducible refine (imCan_any ht (HN.out.ext (HX.out.trans' XA.out)) OA.out HL.out HG.out HRG.out).mono ?_); rintro e wB ⟨rfl, hx⟩; rw [CC.out]; have XB := Lib.hid (Ext.trans' XA.out hx); clear hx))
    have K1 := Lib.hid (HX.out.trans' XB.out)
    have R1 := Lib.hid (row_ext R4.out XB.out)
    obtain ⟨c0, c1, c2, c3, d0, d1, d2, d3⟩ := row4_facts R1.out
    go_wp2
    have KS := Lib.hid (K1.out.store4 (p := w.heap.size + 1) (by omega) (.int .i64 0) (.slice none 0 0) (.int .i64 0) (.int .i64 0))
    obtain ⟨z0, z1, z2, z3, -, -, -, -⟩ := row4_facts (row4_put R1.out (.int .i64 0) (.slice none 0 0) (.int .i64 0) (.int .i64 0))
    refine bodyPost_ret (v := .tuple #[.agg #[.int .i64 0, .slice none 0 0, .int .i64 0, .int .i64 0], .bool false]) (by simp [results, Try.results35, go_sem, z0, z1, z2, z3]) rfl ⟨_, [], ret_rf D.out.1.symm D.out.2.2.1.symm D.out.2.2.2.1.symm D.out.2.2.2.2.symm, KS.out, by rw [D.out.2.1]; exact own_nil0 _, Fresh.nil _⟩
  have CC := Lib.hid (dec_false hc)
  have HCN := Lib.hid (can_has.1 hc)
  have HC1 := Lib.hid (show t = 1 → ¬ HasA (twC N) from fun e k => hc (by subst e; exact (can_1 (by rw [HL.out]; exact hn)).2 k))
  have D := Lib.hid (ro_t (N := N) (t := t) ⟨⟨hg, ht⟩, HCN.out⟩)
  clear hg hc p0 p1 p2
  go_enter Try.func35, Try.ntmps35
  go_wp2_with fail
  rw [← hW1]
  clear hW1
  go_region_held3 (fun w' => w'.cell? ⟨w.heap.size, 0, none⟩ = some v0 ∧ w'.cell? ⟨w.heap.size, 1, none⟩ = some v1 ∧ w'.cell? ⟨w.heap.size, 2, none⟩ = some v2 ∧ Hid (Ext W1 w')) (first | exact mkS _ (Ext.rfl' W1).drew' | exact mkS _ XG.out | exact mkS _ XA.out | exact mkS _ XB.out | fail)
    (first | (go_at_call 62; (with_reducible refine (neGood_any (HN.out.ext (HX.out.trans' (‹_ ∧ _ ∧ _ ∧ Hid (Ext W1 _)›).2.2.2.out))).mono ?_); rintro e wG ⟨rfl, hx⟩; rw [G.out]; have XG := Lib.hid (Ext.trans' (‹_ ∧ _ ∧ _ ∧ Hid (Ext W1 _)›).2.2.2.out hx); clear hx) | (go_at_call 53; (with_reducible refine (imTask_any _ _).mono ?_); rintro e _ ⟨rfl, rfl⟩; rw [T.out]) | (go_at_call 68; (with_reducible refine (viTwins_any (HN.out.ext (HX.out.trans' XG.out)) NI.out hn (by omega)).mono ?_); rintro e wA ⟨b, rfl, hx, ho, -⟩; have XA := Lib.hid (Ext.trans' XG.out hx); have OA := Lib.hid (show IntSl wA _ (twC N) from ho.read); clear hx ho) | (go_at_call 64; (with_reducible refine (imCan_any ht (HN.out.ext (HX.out.trans' XA.out)) OA.out HL.out HG.out HRG.out).mono ?_); rintro e wB ⟨rfl, hx⟩; rw [CC.out]; have XB := Lib.hid (Ext.trans' XA.out hx); clear hx))
  have KB := Lib.hid (HX.out.trans' XB.out)
  have RB := Lib.hid (row_ext HR.out XB.out)
  have R4B := Lib.hid (row_ext R4.out XB.out)
  obtain ⟨q0, q1, q2, -, -, -⟩ := row3_facts RB.out
  clear mkS
  go_wp2_with fail
  (with_reducible refine (viTwins_any (HN.out.ext KB.out) NI.out hn (by omega)).mono ?_)
  rintro e w5 ⟨b5, rfl, hx, ho, hb⟩
  have K5 := Lib.hid (KB.out.trans' hx)
  have O5 := Lib.hid (show OwnI w5 _ (twC N) [b5] from ho)
  have B5 := Lib.hid (show w.heap.size + 2 ≤ b5 by have := XB.out.size; have := HWS.out; omega)
  have S5 := Lib.hid (show b5 < w5.heap.size from ho.1.lt b5 (by simp))
  have R5 := Lib.hid (row_ext RB.out hx)
  have R45 := Lib.hid (row_ext R4B.out hx)
  have Z5 := Lib.hid (show w.heap.size + 2 ≤ w5.heap.size by have := B5.out; have := S5.out; omega)
  clear hx ho hb q0 q1 q2
  obtain ⟨W6, hW6⟩ : ∃ W6, W6 = w5.alloc (.cells #[.int .i64 t, .slice (some ⟨b5, 0, none⟩) N.ends.length N.ends.length, .int .i64 0, .int .i64 0] 52) := ⟨_, rfl⟩
  have X6 := Lib.hid (show Ext w5 W6 by rw [hW6]; exact (Ext.rfl' _).alloc' _)
  have Q6 := Lib.hid (show W6.rowIs w5.heap.size 52 4 (quad (.int .i64 t) (.slice (some ⟨b5, 0, none⟩) N.ends.length N.ends.length) (.int .i64 0) (.int .i64 0)) by rw [hW6]; exact row4_made _ _ _ _ _ _)
  have K6 := Lib.hid (K5.out.trans' X6.out)
  have O6 := Lib.hid (O5.out.ext X6.out)
  have R46 := Lib.hid (row_ext R45.out X6.out)
  obtain ⟨q0, q1, q2, -, -, -⟩ := row3_facts (row_ext R5.out X6.out)
  obtain ⟨c0, c1, c2, c3, d0, d1, d2, d3⟩ := row4_facts R46.out
  obtain ⟨e0, e1, e2, e3, -, -, -, -⟩ := row4_facts Q6.out
  rw [hW6] at q0 q1 q2 c0 c1 c2 c3 d0 d1 d2 d3 e0 e1 e2 e3
  rcases three_cases ht with rfl | rfl | rfl
  · have A := Lib.hid (fp_t (rf_1 (N := N) (c := twC N) (by rw [HL.out]; exact hn) (HC1.out rfl)))
    go_wp2
    rw [← hW6]
    have KS := Lib.hid (K6.out.store4 (p := w.heap.size + 1) (by omega) (.int .i64 1) (.slice (some ⟨b5, 0, none⟩) N.ends.length N.ends.length) (.int .i64 0) (.int .i64 0))
    obtain ⟨z0, z1, z2, z3, -, -, -, -⟩ := row4_facts (row4_put R46.out (.int .i64 1) (.slice (some ⟨b5, 0, none⟩) N.ends.length N.ends.length) (.int .i64 0) (.int .i64 0))
    refine bodyPost_ret (v := .tuple #[.agg #[.int .i64 1, .slice (some ⟨b5, 0, none⟩) N.ends.length N.ends.length, .int .i64 0, .int .i64 0], .bool true]) (by simp [results, Try.results35, go_sem, z0, z1, z2, z3]) rfl ⟨_, [b5], ret_rf D.out.1.symm (by rw [D.out.2.2.1]; exact A.out.1.symm) (by rw [D.out.2.2.2.1]; exact A.out.2.1.symm) D.out.2.2.2.2.symm, KS.out, by rw [D.out.2.1]; exact own_store4 (q := w.heap.size + 2) O6.out (fun b hb => by simp at hb; have := B5.out; omega) (by omega) _ _ _ _, by simp, fun b hb => by simp at hb; have := B5.out; omega⟩
  · obtain ⟨U, hU⟩ : ∃ U, U = fpU (Rf N 2 (twC N)) := ⟨_, rfl⟩
    obtain ⟨V, hV⟩ : ∃ V, V = fpV (Rf N 2 (twC N)) := ⟨_, rfl⟩
    have HU := Lib.hid hU
    have HV := Lib.hid hV
    have A := Lib.hid (show Calls Try.prog 80 #[.agg #[v0, v1, v2], .slice (some ⟨b5, 0, none⟩) N.ends.length N.ends.length] W6 fun e w' => e = .returned (.tuple #[.int .i64 U, .int .i64 V, .bool (dec (HasP (Rf N 2 (twC N))))]) ∧ Ext W6 w' from by first | exact (imEdge_any (HN.out.ext K6.out) O6.out.read (by rw [HL.out]; omega) HL.out HG.out).mono fun e w' h => by rw [hU, hV]; exact h)
    clear hU hV
    go_wp2_with fail
    rw [← hW6]
    clear hW6 q0 q1 q2 c0 c1 c2 c3 d0 d1 d2 d3 e0 e1 e2 e3
    (with_reducible refine A.out.mono ?_)
    rintro e w7 ⟨rfl, hx⟩
    have K7 := Lib.hid (K6.out.trans' hx)
    have O7 := Lib.hid (O6.out.ext hx)
    have R7 := Lib.hid (row_ext R46.out hx)
    have Q7 := Lib.hid (row_ext Q6.out hx)
    have Q8 := Lib.hid (row4_set2 Q7.out (.int .i64 U))
    have Q9 := Lib.hid (row4_set3 Q8.out (.int .i64 V))
    have R9 := Lib.hid ((R7.out.setOther (a := ⟨w5.heap.size, 2, none⟩) (by have := Z5.out; simp; omega) (.int .i64 U)).setOther (a := ⟨w5.heap.size, 3, none⟩) (by have := Z5.out; simp; omega) (.int .i64 V))
    have K9 := Lib.hid ((K7.out.store (p := ⟨w5.heap.size, 2, none⟩) (by have := Z5.out; simp; omega) (.int .i64 U)).store (p := ⟨w5.heap.size, 3, none⟩) (by have := Z5.out; simp; omega) (.int .i64 V))
    have O9 := Lib.hid (own_off4 (own_off4 O7.out (b := w5.heap.size) (i := 2) (u := .int .i64 U) (by have := S5.out; simp; omega)) (b := w5.heap.size) (i := 3) (u := .int .i64 V) (by have := S5.out; simp; omega))
    obtain ⟨c0, c1, c2, c3, d0, d1, d2, d3⟩ := row4_facts R9.out
    obtain ⟨e0, e1, e2, e3, -, -, -, -⟩ := row4_facts Q9.out
    obtain ⟨g0, g1, g2, g3, f0, f1, f2, f3⟩ := row4_facts Q7.out
    obtain ⟨i0, i1, i2, i3, j0, j1, j2, j3⟩ := row4_facts Q8.out
    clear hx
    go_wp2
    have KS := Lib.hid (K9.out.store4 (p := w.heap.size + 1) (by omega) (.int .i64 2) (.slice (some ⟨b5, 0, none⟩) N.ends.length N.ends.length) (.int .i64 U) (.int .i64 V))
    obtain ⟨z0, z1, z2, z3, -, -, -, -⟩ := row4_facts (row4_put R9.out (.int .i64 2) (.slice (some ⟨b5, 0, none⟩) N.ends.length N.ends.length) (.int .i64 U) (.int .i64 V))
    refine bodyPost_ret (v := .tuple #[.agg #[.int .i64 2, .slice (some ⟨b5, 0, none⟩) N.ends.length N.ends.length, .int .i64 U, .int .i64 V], .bool true]) (by simp [results, Try.results35, go_sem, z0, z1, z2, z3]) rfl ⟨_, [b5], ret_rf D.out.1.symm (by rw [D.out.2.2.1]; exact HU.out) (by rw [D.out.2.2.2.1]; exact HV.out) D.out.2.2.2.2.symm, KS.out, by rw [D.out.2.1]; exact own_store4 (q := w.heap.size + 2) O9.out (fun b hb => by simp at hb; have := B5.out; omega) (by omega) _ _ _ _, by simp, fun b hb => by simp at hb; have := B5.out; omega⟩
  · obtain ⟨U, hU⟩ : ∃ U, U = fpU (Rf N 3 (twC N)) := ⟨_, rfl⟩
    obtain ⟨V, hV⟩ : ∃ V, V = fpV (Rf N 3 (twC N)) := ⟨_, rfl⟩
    have HU := Lib.hid hU
    have HV := Lib.hid hV
    have A := Lib.hid (show Calls Try.prog 81 #[.slice (some ⟨b5, 0, none⟩) N.ends.length N.ends.length] W6 fun e w' => e = .returned (.tuple #[.int .i64 U, .int .i64 V, .bool (dec (HasP (Rf N 3 (twC N))))]) ∧ Ext W6 w' from by first | exact (imPair_any (N := N) O6.out.read (by rw [HL.out]; omega)).mono fun e w' h => by rw [hU, hV]; exact h)
    clear hU hV
    go_wp2_with fail
    rw [← hW6]
    clear hW6 q0 q1 q2 c0 c1 c2 c3 d0 d1 d2 d3 e0 e1 e2 e3
    (with_reducible refine A.out.mono ?_)
    rintro e w7 ⟨rfl, hx⟩
    have K7 := Lib.hid (K6.out.trans' hx)
    have O7 := Lib.hid (O6.out.ext hx)
    have R7 := Lib.hid (row_ext R46.out hx)
    have Q7 := Lib.hid (row_ext Q6.out hx)
    have Q8 := Lib.hid (row4_set2 Q7.out (.int .i64 U))
    have Q9 := Lib.hid (row4_set3 Q8.out (.int .i64 V))
    have R9 := Lib.hid ((R7.out.setOther (a := ⟨w5.heap.size, 2, none⟩) (by have := Z5.out; simp; omega) (.int .i64 U)).setOther (a := ⟨w5.heap.size, 3, none⟩) (by have := Z5.out; simp; omega) (.int .i64 V))
    have K9 := Lib.hid ((K7.out.store (p := ⟨w5.heap.size, 2, none⟩) (by have := Z5.out; simp; omega) (.int .i64 U)).store (p := ⟨w5.heap.size, 3, none⟩) (by have := Z5.out; simp; omega) (.int .i64 V))
    have O9 := Lib.hid (own_off4 (own_off4 O7.out (b := w5.heap.size) (i := 2) (u := .int .i64 U) (by have := S5.out; simp; omega)) (b := w5.heap.size) (i := 3) (u := .int .i64 V) (by have := S5.out; simp; omega))
    obtain ⟨c0, c1, c2, c3, d0, d1, d2, d3⟩ := row4_facts R9.out
    obtain ⟨e0, e1, e2, e3, -, -, -, -⟩ := row4_facts Q9.out
    obtain ⟨g0, g1, g2, g3, f0, f1, f2, f3⟩ := row4_facts Q7.out
    obtain ⟨i0, i1, i2, i3, j0, j1, j2, j3⟩ := row4_facts Q8.out
    clear hx
    go_wp2
    have KS := Lib.hid (K9.out.store4 (p := w.heap.size + 1) (by omega) (.int .i64 3) (.slice (some ⟨b5, 0, none⟩) N.ends.length N.ends.length) (.int .i64 U) (.int .i64 V))
    obtain ⟨z0, z1, z2, z3, -, -, -, -⟩ := row4_facts (row4_put R9.out (.int .i64 3) (.slice (some ⟨b5, 0, none⟩) N.ends.length N.ends.length) (.int .i64 U) (.int .i64 V))
    refine bodyPost_ret (v := .tuple #[.agg #[.int .i64 3, .slice (some ⟨b5, 0, none⟩) N.ends.length N.ends.length, .int .i64 U, .int .i64 V], .bool true]) (by simp [results, Try.results35, go_sem, z0, z1, z2, z3]) rfl ⟨_, [b5], ret_rf D.out.1.symm (by rw [D.out.2.2.1]; exact HU.out) (by rw [D.out.2.2.2.1]; exact HV.out) D.out.2.2.2.2.symm, KS.out, by rw [D.out.2.1]; exact own_store4 (q := w.heap.size + 2) O9.out (fun b hb => by simp at hb; have := B5.out; omega) (by omega) _ _ _ _, by simp, fun b hb => by simp at hb; have := B5.out; omega⟩
end Go.Proofs.Ytkpdbceglejbnaa
