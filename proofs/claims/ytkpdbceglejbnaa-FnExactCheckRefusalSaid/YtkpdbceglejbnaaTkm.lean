/- The contracts of both sides' MeetTask. -/
import Derived.Test.YtkpdbceglejbnaaTkl
namespace Go.Proofs.Ytkpdbceglejbnaa
open Go.RowKit

/-- The classes of twins. -/
noncomputable def twC (N : Net) : List Int := seqC N (stOf N)
theorem twC_len (N : Net) : (twC N).length = N.ends.length := seqC_len N _
def MtB (N : Net) (t : Int) : Prop := (Good N ∧ InB t 1 3) ∧ Can N t (twC N)
noncomputable def mtAns (N : Net) (t : Int) : List Int := if dec (MtB N t) = true then meetL t (twC N) else []
theorem mt_f {N : Net} {t : Int} (h : ¬ MtB N t) : mtAns N t = [] ∧ dec (MtB N t) = false := ⟨by unfold mtAns; rw [dec_false h]; rfl, dec_false h⟩
theorem mt_t {N : Net} {t : Int} (h : MtB N t) : mtAns N t = meetL t (twC N) ∧ dec (MtB N t) = true := ⟨by unfold mtAns; rw [dec_true h]; rfl, dec_true h⟩
theorem mtAns_len (N : Net) (t : Int) : (mtAns N t).length ≤ 1048576 := by
  by_cases h : MtB N t
  · rw [(mt_t h).1, meetL_len, twC_len]; have := h.1.1.1.2; omega
  · rw [(mt_f h).1]; simp
theorem meetL_1 (c : List Int) : meetL 1 c = ldr c := rfl
theorem meetL_2 (c : List Int) : meetL 2 c = c := rfl
theorem meetL_3 (c : List Int) : meetL 3 c = c := rfl

set_option maxHeartbeats 1600000 in
set_option maxRecDepth 100000 in
theorem meetTask_any {w : World} {v : Value} {N : Net} (t : Int) (h : NetAt w v N) :
    Calls Try.prog 27 #[v, .int .i64 t] w fun e w' => ∃ v' bs, e = .returned (.tuple #[v', .bool (dec (MtB N t))]) ∧ Ext w w' ∧ OwnI w' v' (mtAns N t) bs ∧ Fresh w bs := by
  have HN := Lib.hid h
  obtain ⟨v0, v1, v2, rfl, -, -, -⟩ := h
  have HX := Lib.hid (boxed_ext w v0 v1 v2 34)
  have HR := Lib.hid (row3_made w v0 v1 v2 34)
  obtain ⟨p0, p1, p2, -, -, -⟩ := row3_facts HR.out
  by_cases ht : InB t 1 3
  case neg =>
    have D := Lib.hid (mt_f (N := N) fun k : MtB N t => ht k.1.2)
    obtain ⟨b, hb⟩ : ∃ b, b = dec (Good N) := ⟨_, rfl⟩
    have G := Lib.hid hb.symm
    clear hb
    go_enter Try.func27, Try.ntmps27
    go_wp2_with (first | (go_at_call 54; (with_reducible refine (taskKind_f ht _).mono ?_); rintro e _ ⟨rfl, rfl⟩) | (go_at_call 70; (with_reducible refine (twinClasses_any (HN.out.ext HX.out)).mono ?_); rintro e w1 ⟨v', bs, rfl, hx, hw, hf⟩; rw [G.out]; have K1 := Lib.hid (HX.out.trans' hx); have W1 := Lib.hid hw; have F1 := Lib.hid (hf.of HX.out.size); obtain ⟨q0, q1, q2, -, -, -⟩ := row3_facts (row_ext HR.out hx); clear hx hw hf p0 p1 p2))
    go_ret2
    exact ⟨_, [], ret_l D.out.2.symm, K1.out, by rw [D.out.1]; exact own_nil0 _, Fresh.nil _⟩
  by_cases hg : Good N
  case neg =>
    have G := Lib.hid (dec_false hg)
    have D := Lib.hid (mt_f (N := N) fun k : MtB N t => hg k.1.1)
    clear hg
    go_enter Try.func27, Try.ntmps27
    go_wp2_with (first | (go_at_call 54; (with_reducible refine (taskKind_t ht _).mono ?_); rintro e _ ⟨rfl, rfl⟩) | (go_at_call 70; (with_reducible refine (twinClasses_any (HN.out.ext HX.out)).mono ?_); rintro e w1 ⟨v', bs, rfl, hx, hw, hf⟩; rw [G.out]; have K1 := Lib.hid (HX.out.trans' hx); have W1 := Lib.hid hw; have F1 := Lib.hid (hf.of HX.out.size); obtain ⟨q0, q1, q2, -, -, -⟩ := row3_facts (row_ext HR.out hx); clear hx hw hf p0 p1 p2))
    go_ret2
    exact ⟨_, [], ret_l D.out.2.symm, K1.out, by rw [D.out.1]; exact own_nil0 _, Fresh.nil _⟩
  have G := Lib.hid (dec_true hg)
  have HG := Lib.hid hg
  have HL := Lib.hid (twC_len N)
  have TWA := Lib.hid (show twAns N = twC N from twAns_t hg)
  by_cases hc : Can N t (twC N)
  case neg =>
    have CC := Lib.hid (dec_false hc)
    have D := Lib.hid (mt_f (N := N) fun k : MtB N t => hc k.2)
    clear hg hc
    go_enter Try.func27, Try.ntmps27
    go_wp2_with (first | (go_at_call 54; (with_reducible refine (taskKind_t ht _).mono ?_); rintro e _ ⟨rfl, rfl⟩) | (go_at_call 70; (with_reducible refine (twinClasses_any (HN.out.ext HX.out)).mono ?_); rintro e w1 ⟨v', bs, rfl, hx, hw, hf⟩; rw [G.out]; have K1 := Lib.hid (HX.out.trans' hx); have W1 := Lib.hid hw; have F1 := Lib.hid (hf.of HX.out.size); obtain ⟨q0, q1, q2, -, -, -⟩ := row3_facts (row_ext HR.out hx); clear hx hw hf p0 p1 p2) | (go_at_call 67; rw [TWA.out] at W1; (with_reducible refine (canWith_any ht (HN.out.ext K1.out) W1.out.read HL.out HG.out).mono ?_); rintro e w3 ⟨rfl, hx⟩; rw [CC.out]; have K3 := Lib.hid (K1.out.trans' hx); have W3 := Lib.hid (W1.out.ext hx); clear hx))
    go_ret2
    exact ⟨_, [], ret_l D.out.2.symm, K3.out, by rw [D.out.1]; exact own_nil0 _, Fresh.nil _⟩
  have CC := Lib.hid (dec_true hc)
  have D := Lib.hid (mt_t (N := N) (t := t) ⟨⟨hg, ht⟩, hc⟩)
  have h6 : (twC N).length ≤ 1048576 := by rw [twC_len]; have := hg.1.2; omega
  clear hg hc
  go_enter Try.func27, Try.ntmps27
  go_wp2_with (first | (go_at_call 54; (with_reducible refine (taskKind_t ht _).mono ?_); rintro e _ ⟨rfl, rfl⟩) | (go_at_call 70; (with_reducible refine (twinClasses_any (HN.out.ext HX.out)).mono ?_); rintro e w1 ⟨v', bs, rfl, hx, hw, hf⟩; rw [G.out]; have K1 := Lib.hid (HX.out.trans' hx); have W1 := Lib.hid hw; have F1 := Lib.hid (hf.of HX.out.size); obtain ⟨q0, q1, q2, -, -, -⟩ := row3_facts (row_ext HR.out hx); clear hx hw hf p0 p1 p2) | (go_at_call 67; rw [TWA.out] at W1; (with_reducible refine (canWith_any ht (HN.out.ext K1.out) W1.out.read HL.out HG.out).mono ?_); rintro e w3 ⟨rfl, hx⟩; rw [CC.out]; have K3 := Lib.hid (K1.out.trans' hx); have W3 := Lib.hid (W1.out.ext hx); clear hx))
  rcases three_cases ht with rfl | rfl | rfl
  · rw [kindV_1]
    (with_reducible refine (outputs_1 W3.out.read h6).mono ?_)
    rintro e w4 ⟨b, rfl, hx, ho, hb⟩
    have K4 := Lib.hid (K3.out.trans' hx)
    have O := Lib.hid ho
    have HB := Lib.hid (Nat.le_trans K3.out.size hb)
    clear hx ho hb
    go_wp2
    go_ret2
    exact ⟨_, [b], ret_l D.out.2.symm, K4.out, by rw [D.out.1, meetL_1]; rw [HL.out] at O ⊢; exact O.out, by simp, fun c hc => by simp at hc; have := HB.out; omega⟩
  · rw [kindV_2]
    (with_reducible refine outputs_2.mono ?_)
    rintro e _ ⟨rfl, rfl⟩
    go_wp2
    go_ret2
    exact ⟨_, bs, ret_l D.out.2.symm, K3.out, by rw [D.out.1, meetL_2]; exact W3.out, F1.out⟩
  · rw [kindV_3]
    (with_reducible refine outputs_3.mono ?_)
    rintro e _ ⟨rfl, rfl⟩
    go_wp2
    go_ret2
    exact ⟨_, bs, ret_l D.out.2.symm, K3.out, by rw [D.out.1, meetL_3]; exact W3.out, F1.out⟩

set_option maxHeartbeats 1600000 in
set_option maxRecDepth 100000 in
theorem specMeetTask_any {w : World} {v : Value} {N : Net} (t : Int) (h : NetAt w v N) :
    Calls Try.prog 26 #[v, .int .i64 t] w fun e w' => ∃ v' bs, e = .returned (.tuple #[v', .bool (dec (MtB N t))]) ∧ Ext w w' ∧ OwnI w' v' (mtAns N t) bs ∧ Fresh w bs := by
  have HN := Lib.hid h
  obtain ⟨v0, v1, v2, rfl, -, -, -⟩ := h
  obtain ⟨W1, hW1⟩ : ∃ W1, W1 = w.alloc (.cells #[v0, v1, v2] 34) := ⟨_, rfl⟩
  have HX := Lib.hid (show Ext w W1 by rw [hW1]; exact boxed_ext _ _ _ _ _)
  have HR := Lib.hid (show W1.rowIs w.heap.size 34 3 (tri v0 v1 v2) by rw [hW1]; exact boxed_row _ _ _ _ _)
  obtain ⟨p0, p1, p2, -, -, -⟩ := row3_facts HR.out
  by_cases hg : Good N
  case neg =>
    have G := Lib.hid (dec_false hg)
    have D := Lib.hid (mt_f (N := N) fun k : MtB N t => hg k.1.1)
    clear hg
    have P0 : ∀ x' : Wx W1, x'.w.cell? ⟨w.heap.size, 0, none⟩ = some v0 := fun x' => x'.ok.cell' p0
    have P1 : ∀ x' : Wx W1, x'.w.cell? ⟨w.heap.size, 1, none⟩ = some v1 := fun x' => x'.ok.cell' p1
    have P2 : ∀ x' : Wx W1, x'.w.cell? ⟨w.heap.size, 2, none⟩ = some v2 := fun x' => x'.ok.cell' p2
    go_enter Try.func26, Try.ntmps26
    go_wp2_with fail
    rw [← hW1]
    clear hW1 p0 p1 p2
    refine wp_region_ext (by kernel_rfl) (by kernel_rfl) ?_
    repeat (go_big_quiet_step ((go_at_call 62; exact in_ext_bool (neGood_any (HN.out.ext (HX.out.trans' (Wx.ok _)))) G.out)))
    refine wpQuiet_nil ?_
    rintro wq ⟨⟨_, hq⟩, rfl⟩
    have K1 := Lib.hid (HX.out.trans' hq)
    clear hq P0 P1 P2
    go_wp2
    go_ret2
    exact ⟨_, [], ret_l D.out.2.symm, K1.out, by rw [D.out.1]; exact own_nil0 _, Fresh.nil _⟩
  have G := Lib.hid (dec_true hg)
  by_cases ht : InB t 1 3
  case neg =>
    have T := Lib.hid (dec_false ht)
    have D := Lib.hid (mt_f (N := N) fun k : MtB N t => ht k.1.2)
    clear hg ht
    have P0 : ∀ x' : Wx W1, x'.w.cell? ⟨w.heap.size, 0, none⟩ = some v0 := fun x' => x'.ok.cell' p0
    have P1 : ∀ x' : Wx W1, x'.w.cell? ⟨w.heap.size, 1, none⟩ = some v1 := fun x' => x'.ok.cell' p1
    have P2 : ∀ x' : Wx W1, x'.w.cell? ⟨w.heap.size, 2, none⟩ = some v2 := fun x' => x'.ok.cell' p2
    go_enter Try.func26, Try.ntmps26
    go_wp2_with fail
    rw [← hW1]
    clear hW1 p0 p1 p2
    refine wp_region_ext (by kernel_rfl) (by kernel_rfl) ?_
    repeat (go_big_quiet_step (first | (go_at_call 62; exact in_ext_bool (neGood_any (HN.out.ext (HX.out.trans' (Wx.ok _)))) G.out) | (go_at_call 53; exact in_same_bool (imTask_any _ _) T.out)))
    refine wpQuiet_nil ?_
    rintro wq ⟨⟨_, hq⟩, rfl⟩
    have K1 := Lib.hid (HX.out.trans' hq)
    clear hq P0 P1 P2
    go_wp2
    go_ret2
    exact ⟨_, [], ret_l D.out.2.symm, K1.out, by rw [D.out.1]; exact own_nil0 _, Fresh.nil _⟩
  have T := Lib.hid (dec_true ht)
  have NI := Lib.hid (good_nodes hg)
  have hn : 0 < N.ends.length := hg.1.1
  have h40 : N.ends.length ≤ 40 := hg.1.2
  have HG := Lib.hid hg
  have HL := Lib.hid (twC_len N)
  have HRG := Lib.hid (show ∀ i, i < (twC N).length → 0 ≤ gi (twC N) i ∧ inI64 (gi (twC N) i) from seq_range N hg _)
  have mkS : ∀ w' : World, Ext W1 w' → w'.cell? ⟨w.heap.size, 0, none⟩ = some v0 ∧ w'.cell? ⟨w.heap.size, 1, none⟩ = some v1 ∧ w'.cell? ⟨w.heap.size, 2, none⟩ = some v2 ∧ Hid (Ext W1 w') := fun w' h => ⟨h.cell' p0, h.cell' p1, h.cell' p2, h⟩
  by_cases hc : Can N t (twC N)
  case neg =>
    have CC := Lib.hid (dec_false hc)
    have D := Lib.hid (mt_f (N := N) fun k : MtB N t => hc k.2)
    clear hg hc p0 p1 p2
    go_enter Try.func26, Try.ntmps26
    go_wp2_with fail
    rw [← hW1]
    clear hW1
    go_region_held3 (fun w' => w'.cell? ⟨w.heap.size, 0, none⟩ = some v0 ∧ w'.cell? ⟨w.heap.size, 1, none⟩ = some v1 ∧ w'.cell? ⟨w.heap.size, 2, none⟩ = some v2 ∧ Hid (Ext W1 w')) (first | exact mkS _ (Ext.rfl' W1).drew' | exact mkS _ XG.out | exact mkS _ XA.out | exact mkS _ XB.out | fail)
    (first | (go_at_call 62; (with_reducible refine (neGood_any (HN.out.ext (HX.out.trans' (‹_ ∧ _ ∧ _ ∧ Hid (Ext W1 _)›).2.2.2.out))).mono ?_); rintro e wG ⟨rfl, hx⟩; rw [G.out]; have XG := Lib.hid (Ext.trans' (‹_ ∧ _ ∧ _ ∧ Hid (Ext W1 _)›).2.2.2.out hx); clear hx) | (go_at_call 53; (with_reducible refine (imTask_any _ _).mono ?_); rintro e _ ⟨rfl, rfl⟩; rw [T.out]) | (go_at_call 68; (with_reducible refine (viTwins_any (HN.out.ext (HX.out.trans' XG.out)) NI.out hn (by omega)).mono ?_); rintro e wA ⟨b, rfl, hx, ho, -⟩; have XA := Lib.hid (Ext.trans' XG.out hx); have OA := Lib.hid (show IntSl wA _ (twC N) from ho.read); clear hx ho) | (go_at_call 64; (with_reducible refine (imCan_any ht (HN.out.ext (HX.out.trans' XA.out)) OA.out HL.out HG.out HRG.out).mono ?_); rintro e wB ⟨rfl, hx⟩; rw [CC.out]; have XB := Lib.hid (Ext.trans' XA.out hx); clear hx))
    all_goals go_wp2
    all_goals go_ret2
    all_goals exact ⟨_, [], ret_l D.out.2.symm, (HX.out.trans' XB.out), by rw [D.out.1]; exact own_nil0 _, Fresh.nil _⟩
  have CC := Lib.hid (dec_true hc)
  have D := Lib.hid (mt_t (N := N) (t := t) ⟨⟨hg, ht⟩, hc⟩)
  have HCN := Lib.hid hc
  clear hc
  clear hg p0 p1 p2
  go_enter Try.func26, Try.ntmps26
  go_wp2_with fail
  rw [← hW1]
  clear hW1
  go_region_held3 (fun w' => w'.cell? ⟨w.heap.size, 0, none⟩ = some v0 ∧ w'.cell? ⟨w.heap.size, 1, none⟩ = some v1 ∧ w'.cell? ⟨w.heap.size, 2, none⟩ = some v2 ∧ Hid (Ext W1 w')) (first | exact mkS _ (Ext.rfl' W1).drew' | exact mkS _ XG.out | exact mkS _ XA.out | exact mkS _ XB.out | fail)
    (first | (go_at_call 62; (with_reducible refine (neGood_any (HN.out.ext (HX.out.trans' (‹_ ∧ _ ∧ _ ∧ Hid (Ext W1 _)›).2.2.2.out))).mono ?_); rintro e wG ⟨rfl, hx⟩; rw [G.out]; have XG := Lib.hid (Ext.trans' (‹_ ∧ _ ∧ _ ∧ Hid (Ext W1 _)›).2.2.2.out hx); clear hx) | (go_at_call 53; (with_reducible refine (imTask_any _ _).mono ?_); rintro e _ ⟨rfl, rfl⟩; rw [T.out]) | (go_at_call 68; (with_reducible refine (viTwins_any (HN.out.ext (HX.out.trans' XG.out)) NI.out hn (by omega)).mono ?_); rintro e wA ⟨b, rfl, hx, ho, -⟩; have XA := Lib.hid (Ext.trans' XG.out hx); have OA := Lib.hid (show IntSl wA _ (twC N) from ho.read); clear hx ho) | (go_at_call 64; (with_reducible refine (imCan_any ht (HN.out.ext (HX.out.trans' XA.out)) OA.out HL.out HG.out HRG.out).mono ?_); rintro e wB ⟨rfl, hx⟩; rw [CC.out]; have XB := Lib.hid (Ext.trans' XA.out hx); clear hx))
  have KB := Lib.hid (HX.out.trans' XB.out)
  obtain ⟨q0, q1, q2, -, -, -⟩ := row3_facts (row_ext HR.out XB.out)
  go_wp2_with fail
  (with_reducible refine (viTwins_any (HN.out.ext KB.out) NI.out hn (by omega)).mono ?_)
  rintro e w5 ⟨b5, rfl, hx, ho, hb⟩
  have K5 := Lib.hid (KB.out.trans' hx)
  have O5 := Lib.hid (show OwnI w5 _ (twC N) [b5] from ho)
  have B5 := Lib.hid (Nat.le_trans KB.out.size hb)
  clear hx ho hb q0 q1 q2
  go_wp2_with fail
  rcases three_cases ht with rfl | rfl | rfl
  · have HRI := Lib.hid (show RisA (twC N) from ris_seq N _)
    have HA := Lib.hid ((can_1 (N := N) (by rw [HL.out]; exact hn)).1 HCN.out)
    (with_reducible refine (imMeet_1 (c := twC N) O5.out.read (by rw [HL.out]; omega) HRG.out HRI.out HA.out).mono ?_)
    rintro e w6 ⟨v6, bs, rfl, hx, ho, hf⟩
    have K6 := Lib.hid (K5.out.trans' hx)
    have O := Lib.hid ho
    have F := Lib.hid (hf.of K5.out.size)
    clear hx ho hf
    go_wp2
    go_ret2
    exact ⟨_, bs, ret_l D.out.2.symm, K6.out, by rw [D.out.1, meetL_1]; exact O.out, F.out⟩
  · (with_reducible refine (imMeet_o 2 (by omega)).mono ?_)
    rintro e _ ⟨rfl, rfl⟩
    go_wp2
    go_ret2
    exact ⟨_, [b5], ret_l D.out.2.symm, K5.out, by rw [D.out.1, meetL_2]; exact O5.out, by simp, fun c hc => by simp at hc; have := B5.out; omega⟩
  · (with_reducible refine (imMeet_o 3 (by omega)).mono ?_)
    rintro e _ ⟨rfl, rfl⟩
    go_wp2
    go_ret2
    exact ⟨_, [b5], ret_l D.out.2.symm, K5.out, by rw [D.out.1, meetL_3]; exact O5.out, by simp, fun c hc => by simp at hc; have := B5.out; omega⟩
end Go.Proofs.Ytkpdbceglejbnaa
