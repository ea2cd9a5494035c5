/- The contracts of both sides' CanMeetAt. -/
import Derived.Test.YtkpdbceglejbnaaTkj
namespace Go.Proofs.Ytkpdbceglejbnaa
open Go.RowKit

def CmB (N : Net) (t d : Int) : Prop := VOK N d ∧ InB t 1 3
def CmA (N : Net) (t d : Int) : Prop := CmB N t d ∧ Can N t (seqC N d.toNat)
theorem cm_f {N : Net} {t d : Int} (h : ¬ CmB N t d) : dec (CmA N t d) = false ∧ dec (CmB N t d) = false := ⟨dec_false fun k => h k.1, dec_false h⟩
theorem cm_t {N : Net} {t d : Int} (h : CmB N t d) : dec (Can N t (seqC N d.toNat)) = dec (CmA N t d) ∧ dec (CmB N t d) = true := ⟨dec_congr ⟨fun k => ⟨h, k⟩, fun k => k.2⟩, dec_true h⟩

set_option maxHeartbeats 1600000 in
set_option maxRecDepth 100000 in
theorem canMeetAt_any {w : World} {v : Value} {N : Net} (t d : Int) (h : NetAt w v N) :
    Calls Try.prog 25 #[v, .int .i64 t, .int .i64 d] w fun e w' => e = .returned (.tuple #[.bool (dec (CmA N t d)), .bool (dec (CmB N t d))]) ∧ Ext w w' := by
  have HN := Lib.hid h
  obtain ⟨v0, v1, v2, rfl, -, -, -⟩ := h
  have HX := Lib.hid (boxed_ext w v0 v1 v2 34)
  have HR := Lib.hid (row3_made w v0 v1 v2 34)
  obtain ⟨p0, p1, p2, -, -, -⟩ := row3_facts HR.out
  by_cases ht : InB t 1 3
  case neg =>
    have D := Lib.hid (cm_f (N := N) (d := d) fun k : CmB N t d => ht k.2)
    obtain ⟨b, hb⟩ : ∃ b, b = dec (VOK N d) := ⟨_, rfl⟩
    have V := Lib.hid hb.symm
    clear hb
    go_enter Try.func25, Try.ntmps25
    go_wp2_with (first | (go_at_call 54; (with_reducible refine (taskKind_f ht _).mono ?_); rintro e _ ⟨rfl, rfl⟩) | (go_at_call 66; (with_reducible refine (viewClasses_any d (HN.out.ext HX.out)).mono ?_); rintro e w1 ⟨v', bs, rfl, hx, hw, -⟩; rw [V.out]; have K1 := Lib.hid (HX.out.trans' hx); have W1 := Lib.hid hw.read; obtain ⟨q0, q1, q2, -, -, -⟩ := row3_facts (row_ext HR.out hx); clear hx hw p0 p1 p2))
    go_ret2
    exact ⟨ret_bbT D.out.1.symm D.out.2.symm, K1.out⟩
  by_cases hv : VOK N d
  case neg =>
    have V := Lib.hid (dec_false hv)
    have D := Lib.hid (cm_f (N := N) (d := d) fun k : CmB N t d => hv k.1)
    clear hv
    go_enter Try.func25, Try.ntmps25
    go_wp2_with (first | (go_at_call 54; (with_reducible refine (taskKind_t ht _).mono ?_); rintro e _ ⟨rfl, rfl⟩) | (go_at_call 66; (with_reducible refine (viewClasses_any d (HN.out.ext HX.out)).mono ?_); rintro e w1 ⟨v', bs, rfl, hx, hw, -⟩; rw [V.out]; have K1 := Lib.hid (HX.out.trans' hx); have W1 := Lib.hid hw.read; obtain ⟨q0, q1, q2, -, -, -⟩ := row3_facts (row_ext HR.out hx); clear hx hw p0 p1 p2))
    go_ret2
    exact ⟨ret_bbT D.out.1.symm D.out.2.symm, K1.out⟩
  have V := Lib.hid (dec_true hv)
  have D := Lib.hid (cm_t (N := N) (t := t) (d := d) ⟨hv, ht⟩)
  have C := Lib.hid (vcAns_t hv)
  have HG := Lib.hid hv.1
  have HL := Lib.hid (seqC_len N d.toNat)
  clear hv
  go_enter Try.func25, Try.ntmps25
  go_wp2_with (first | (go_at_call 54; (with_reducible refine (taskKind_t ht _).mono ?_); rintro e _ ⟨rfl, rfl⟩) | (go_at_call 66; (with_reducible refine (viewClasses_any d (HN.out.ext HX.out)).mono ?_); rintro e w1 ⟨v', bs, rfl, hx, hw, -⟩; rw [V.out]; have K1 := Lib.hid (HX.out.trans' hx); have W1 := Lib.hid hw.read; obtain ⟨q0, q1, q2, -, -, -⟩ := row3_facts (row_ext HR.out hx); clear hx hw p0 p1 p2) | (go_at_call 67; rw [C.out] at W1; (with_reducible refine (canWith_any ht (HN.out.ext K1.out) W1.out HL.out HG.out).mono ?_); rintro e w3 ⟨rfl, hx⟩; have K3 := Lib.hid (K1.out.trans' hx); clear hx))
  go_ret2
  exact ⟨ret_bbT D.out.1 D.out.2.symm, K3.out⟩

set_option maxHeartbeats 1600000 in
set_option maxRecDepth 100000 in
theorem specCanMeetAt_any {w : World} {v : Value} {N : Net} (t d : Int) (h : NetAt w v N) :
    Calls Try.prog 24 #[v, .int .i64 t, .int .i64 d] w fun e w' => e = .returned (.tuple #[.bool (dec (CmA N t d)), .bool (dec (CmB N t d))]) ∧ Ext w w' := by
  have HN := Lib.hid h
  obtain ⟨v0, v1, v2, rfl, -, -, -⟩ := h
  have HX := Lib.hid (boxed_ext w v0 v1 v2 34)
  have HR := Lib.hid (row3_made w v0 v1 v2 34)
  obtain ⟨p0, p1, p2, -, -, -⟩ := row3_facts HR.out
  by_cases hg : Good N
  case neg =>
    have G := Lib.hid (dec_false hg)
    have D := Lib.hid (cm_f (N := N) (d := d) fun k : CmB N t d => hg k.1.1)
    clear hg
    go_enter Try.func24, Try.ntmps24
    go_wp2_with (go_at_call 62; (with_reducible refine (neGood_any (HN.out.ext HX.out)).mono ?_); rintro e w1 ⟨rfl, hw⟩; rw [G.out]; have K1 := Lib.hid (HX.out.trans' hw); obtain ⟨q0, q1, q2, -, -, -⟩ := row3_facts (row_ext HR.out hw); clear hw p0 p1 p2)
    go_ret2
    exact ⟨ret_bbT D.out.1.symm D.out.2.symm, K1.out⟩
  have G := Lib.hid (dec_true hg)
  by_cases ht : InB t 1 3
  case neg =>
    have T := Lib.hid (dec_false ht)
    have D := Lib.hid (cm_f (N := N) (d := d) fun k : CmB N t d => ht k.2)
    clear hg ht
    go_enter Try.func24, Try.ntmps24
    go_wp2_with (first | (go_at_call 62; (with_reducible refine (neGood_any (HN.out.ext HX.out)).mono ?_); rintro e w1 ⟨rfl, hw⟩; rw [G.out]; have K1 := Lib.hid (HX.out.trans' hw); obtain ⟨q0, q1, q2, -, -, -⟩ := row3_facts (row_ext HR.out hw); clear hw p0 p1 p2) | (go_at_call 53; (with_reducible refine (imTask_any _ _).mono ?_); rintro e _ ⟨rfl, rfl⟩; rw [T.out]))
    go_ret2
    exact ⟨ret_bbT D.out.1.symm D.out.2.symm, K1.out⟩
  have T := Lib.hid (dec_true ht)
  by_cases hd : InB d 0 80
  case neg =>
    have V := Lib.hid (dec_false hd)
    have D := Lib.hid (cm_f (N := N) (d := d) fun k : CmB N t d => hd k.1.2)
    clear hg ht hd
    go_enter Try.func24, Try.ntmps24
    go_wp2_with (first | (go_at_call 62; (with_reducible refine (neGood_any (HN.out.ext HX.out)).mono ?_); rintro e w1 ⟨rfl, hw⟩; rw [G.out]; have K1 := Lib.hid (HX.out.trans' hw); obtain ⟨q0, q1, q2, -, -, -⟩ := row3_facts (row_ext HR.out hw); clear hw p0 p1 p2) | (go_at_call 53; (with_reducible refine (imTask_any _ _).mono ?_); rintro e _ ⟨rfl, rfl⟩; rw [T.out]) | (go_at_call 63; (with_reducible refine (viDepth_any _ _).mono ?_); rintro e _ ⟨rfl, rfl⟩; rw [V.out]))
    go_ret2
    exact ⟨ret_bbT D.out.1.symm D.out.2.symm, K1.out⟩
  have V := Lib.hid (dec_true hd)
  have D := Lib.hid (cm_t (N := N) (t := t) (d := d) ⟨⟨hg, hd⟩, ht⟩)
  have NI := Lib.hid (good_nodes hg)
  have hn : 0 < N.ends.length := hg.1.1
  have h40 : N.ends.length ≤ 40 := hg.1.2
  have HG := Lib.hid hg
  obtain ⟨m, rfl⟩ := Int.eq_ofNat_of_zero_le hd.1
  have hm80 : m ≤ 80 := by have := hd.2; omega
  have HSL := Lib.hid (seqC_len N m)
  have TN := Lib.hid (Int.toNat_natCast m)
  rw [TN.out] at D
  clear hg hd
  go_enter Try.func24, Try.ntmps24
  go_wp2_with (first | (go_at_call 62; (with_reducible refine (neGood_any (HN.out.ext HX.out)).mono ?_); rintro e w1 ⟨rfl, hw⟩; rw [G.out]; have K1 := Lib.hid (HX.out.trans' hw); obtain ⟨q0, q1, q2, -, -, -⟩ := row3_facts (row_ext HR.out hw); clear hw p0 p1 p2) | (go_at_call 53; (with_reducible refine (imTask_any _ _).mono ?_); rintro e _ ⟨rfl, rfl⟩; rw [T.out]) | (go_at_call 63; (with_reducible refine (viDepth_any _ _).mono ?_); rintro e _ ⟨rfl, rfl⟩; rw [V.out]))
  have mkS : ∀ w' : World, Ext w1 w' → w'.cell? ⟨w.heap.size, 0, none⟩ = some v0 ∧ w'.cell? ⟨w.heap.size, 1, none⟩ = some v1 ∧ w'.cell? ⟨w.heap.size, 2, none⟩ = some v2 ∧ Hid (Ext w1 w') := fun w' h => ⟨h.cell' q0, h.cell' q1, h.cell' q2, h⟩
  clear q0 q1 q2
  go_region_held3 (fun w' => w'.cell? ⟨w.heap.size, 0, none⟩ = some v0 ∧ w'.cell? ⟨w.heap.size, 1, none⟩ = some v1 ∧ w'.cell? ⟨w.heap.size, 2, none⟩ = some v2 ∧ Hid (Ext w1 w')) (first | exact mkS _ (Ext.rfl' w1).drew' | exact mkS _ XA.out | exact mkS _ XB.out | fail)
    (first | (go_at_call 65; (with_reducible refine (viClasses_any m (by omega) (HN.out.ext (K1.out.trans' (‹_ ∧ _ ∧ _ ∧ Hid (Ext w1 _)›).2.2.2.out)) NI.out hn (by omega)).mono ?_); rintro e wA ⟨b, rfl, hx, ho, -⟩; have XA := Lib.hid (Ext.trans' (‹_ ∧ _ ∧ _ ∧ Hid (Ext w1 _)›).2.2.2.out hx); have OA := Lib.hid ho.read; clear hx ho) | (go_at_call 64; (with_reducible refine (imCan_any ht (HN.out.ext (K1.out.trans' XA.out)) OA.out HSL.out HG.out (seq_range N HG.out m)).mono ?_); rintro e wB ⟨rfl, hx⟩; have XB := Lib.hid (Ext.trans' XA.out hx); clear hx))
  all_goals go_wp2
  all_goals go_ret2
  all_goals exact ⟨ret_bbT D.out.1 D.out.2.symm, K1.out.trans' XB.out⟩
end Go.Proofs.Ytkpdbceglejbnaa
