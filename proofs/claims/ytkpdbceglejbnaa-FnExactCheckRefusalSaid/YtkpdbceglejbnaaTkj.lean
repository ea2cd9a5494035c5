/- The contracts of both sides' MeetsTask; the kinds of tasks by their numbers. -/
import Derived.Test.YtkpdbceglejbnaaTki
import Derived.Test.YtkpdbceglejbnaaVnq
namespace Go.Proofs.Ytkpdbceglejbnaa
open Go.RowKit

theorem ret_bbT {x y b c : Bool} (h0 : x = y) (h : b = c) : Ending.returned (.tuple #[.bool x, .bool b]) = .returned (.tuple #[.bool y, .bool c]) := by rw [h0, h]
def kindV (t : Int) : Value := if t = 1 then kL else if t = 2 then kC else kN
theorem kindV_1 : kindV 1 = kL := rfl
theorem kindV_2 : kindV 2 = kC := rfl
theorem kindV_3 : kindV 3 = kN := rfl
theorem taskKind_t {t : Int} (h : InB t 1 3) (w : World) : Calls Try.prog 54 #[.int .i64 t] w fun e w' => e = .returned (.tuple #[kindV t, .bool true]) ∧ w = w' := by
  rcases three_cases h with rfl | rfl | rfl
  · exact taskKind_1 w
  · exact taskKind_2 w
  · exact taskKind_3 w
theorem canWith_any {w : World} {v vc : Value} {N : Net} {c : List Int} {t : Int} (ht : InB t 1 3) (h : NetAt w v N) (k : IntSl w vc c) (hl : c.length = N.ends.length) (hG : Good N) :
    Calls Try.prog 67 #[kindV t, v, vc] w fun e w' => e = .returned (.bool (dec (Can N t c))) ∧ Ext w w' := by
  have h6 : c.length ≤ 1048576 := by have := hG.1.2; omega
  rcases three_cases ht with rfl | rfl | rfl
  · exact canWith_1 h k h6 (by have := hG.1.1; omega)
  · exact canWith_2 h k h6 hl hG
  · exact canWith_3 h k h6 hl hG
theorem imCan_any {w : World} {v vc : Value} {N : Net} {c : List Int} {t : Int} (ht : InB t 1 3) (h : NetAt w v N) (k : IntSl w vc c) (hl : c.length = N.ends.length) (hG : Good N) (hr : ∀ i, i < c.length → 0 ≤ gi c i ∧ inI64 (gi c i)) :
    Calls Try.prog 64 #[v, .int .i64 t, vc] w fun e w' => e = .returned (.bool (dec (Can N t c))) ∧ Ext w w' := by
  have h6 : c.length ≤ 1048576 := by have := hG.1.2; omega
  rcases three_cases ht with rfl | rfl | rfl
  · exact imCan_1 h k h6 (by have := hG.1.1; omega) hr
  · exact imCan_2 h k h6 hl hG
  · exact imCan_3 h k h6
theorem refPair_any {w : World} {v vc : Value} {N : Net} {c : List Int} {t : Int} (ht : InB t 1 3) (h : NetAt w v N) (k : IntSl w vc c) (hl : c.length = N.ends.length) (hG : Good N) :
    Calls Try.prog 82 #[kindV t, v, vc] w fun e w' => e = .returned (.tuple #[.int .i64 (fpU (Rf N t c)), .int .i64 (fpV (Rf N t c)), .bool (dec (HasP (Rf N t c)))]) ∧ Ext w w' := by
  have h6 : c.length ≤ 1048576 := by have := hG.1.2; omega
  rcases three_cases ht with rfl | rfl | rfl
  · exact refPair_1 h k h6 hl hG
  · exact refPair_2 h k h6 hl hG
  · exact refPair_3 h k h6 hl hG
theorem seq_range (N : Net) (hG : Good N) (s : Nat) : ∀ i, i < (seqC N s).length → 0 ≤ gi (seqC N s) i ∧ inI64 (gi (seqC N s) i) := fun i hi => by
  have := seqC_range (N := N) (by have := hG.1.2; omega) s i (by rw [seqC_len] at hi; exact hi)
  exact ⟨this.2, this.1⟩

/-- What MeetsTask asks, and its answer. -/
def MkB (N : Net) (t : Int) (l : List Int) : Prop := OutsOK N l ∧ InB t 1 3
def MkA (N : Net) (t : Int) (l : List Int) : Prop := MkB N t l ∧ Meets N t l
theorem mk_f {N : Net} {t : Int} {l : List Int} (h : ¬ MkB N t l) : dec (MkA N t l) = false ∧ dec (MkB N t l) = false := ⟨dec_false fun k => h k.1, dec_false h⟩
theorem mk_t {N : Net} {t : Int} {l : List Int} (h : MkB N t l) : dec (Meets N t l) = dec (MkA N t l) ∧ dec (MkB N t l) = true := ⟨dec_congr ⟨fun k => ⟨h, k⟩, fun k => k.2⟩, dec_true h⟩

set_option maxHeartbeats 1600000 in
set_option maxRecDepth 100000 in
theorem meetsTask_any {w : World} {v vl : Value} {N : Net} {l : List Int} (t : Int) (h : NetAt w v N) (k : IntSl w vl l) (_ : l.length ≤ 1048576) :
    Calls Try.prog 21 #[v, .int .i64 t, vl] w fun e w' => e = .returned (.tuple #[.bool (dec (MkA N t l)), .bool (dec (MkB N t l))]) ∧ Ext w w' := by
  have HN := Lib.hid h
  have HL := Lib.hid k
  obtain ⟨v0, v1, v2, rfl, -, -, -⟩ := h
  have HX := Lib.hid (boxed_ext w v0 v1 v2 34)
  have HR := Lib.hid (row3_made w v0 v1 v2 34)
  obtain ⟨p0, p1, p2, -, -, -⟩ := row3_facts HR.out
  by_cases ht : InB t 1 3
  case neg =>
    have D := Lib.hid (mk_f (N := N) (l := l) fun k : MkB N t l => ht k.2)
    clear p0 p1 p2
    go_enter Try.func21, Try.ntmps21
    go_wp2_with (go_at_call 54; (with_reducible refine (taskKind_f ht _).mono ?_); rintro e _ ⟨rfl, rfl⟩)
    go_ret2
    exact ⟨ret_bbT D.out.1.symm D.out.2.symm, HX.out⟩
  by_cases ho : OutsOK N l
  case neg =>
    have O := Lib.hid (dec_false ho)
    have D := Lib.hid (mk_f (N := N) (l := l) fun k : MkB N t l => ho k.1)
    clear ho
    go_enter Try.func21, Try.ntmps21
    go_wp2_with (first | (go_at_call 54; (with_reducible refine (taskKind_t ht _).mono ?_); rintro e _ ⟨rfl, rfl⟩) | (go_at_call 60; (with_reducible refine (hasOutputs_any (HN.out.ext HX.out) (HL.out.ext HX.out)).mono ?_); rintro e w2 ⟨rfl, hx⟩; rw [O.out]; have K2 := Lib.hid (HX.out.trans' hx); clear hx))
    go_ret2
    exact ⟨ret_bbT D.out.1.symm D.out.2.symm, K2.out⟩
  have O := Lib.hid (dec_true ho)
  have D := Lib.hid (mk_t (N := N) (l := l) (t := t) ⟨ho, ht⟩)
  have HG := Lib.hid ho.1
  have HLE := Lib.hid ho.2.1
  have h6 : l.length ≤ 1048576 := by have := ho.2.1; have := ho.1.1.2; omega
  clear ho
  rcases three_cases ht with rfl | rfl | rfl
  · clear ht
    go_enter Try.func21, Try.ntmps21
    go_wp2_with (first | (go_at_call 54; (with_reducible refine (taskKind_1 _).mono ?_); rintro e _ ⟨rfl, rfl⟩) | (go_at_call 60; (with_reducible refine (hasOutputs_any (HN.out.ext HX.out) (HL.out.ext HX.out)).mono ?_); rintro e w2 ⟨rfl, hx⟩; rw [O.out]; have K2 := Lib.hid (HX.out.trans' hx); obtain ⟨q0, q1, q2, -, -, -⟩ := row3_facts (row_ext HR.out hx); clear hx p0 p1 p2) | (go_at_call 229; (with_reducible refine (met_1 (HN.out.ext K2.out) (HL.out.ext K2.out) h6).mono ?_); rintro e w3 ⟨rfl, hx⟩; have K3 := Lib.hid (K2.out.trans' hx); clear hx))
    go_ret2
    exact ⟨ret_bbT D.out.1 D.out.2.symm, K3.out⟩
  · clear ht
    go_enter Try.func21, Try.ntmps21
    go_wp2_with (first | (go_at_call 54; (with_reducible refine (taskKind_2 _).mono ?_); rintro e _ ⟨rfl, rfl⟩) | (go_at_call 60; (with_reducible refine (hasOutputs_any (HN.out.ext HX.out) (HL.out.ext HX.out)).mono ?_); rintro e w2 ⟨rfl, hx⟩; rw [O.out]; have K2 := Lib.hid (HX.out.trans' hx); obtain ⟨q0, q1, q2, -, -, -⟩ := row3_facts (row_ext HR.out hx); clear hx p0 p1 p2) | (go_at_call 232; (with_reducible refine (met_2 (HN.out.ext K2.out) (HL.out.ext K2.out) h6 HLE.out HG.out).mono ?_); rintro e w3 ⟨rfl, hx⟩; have K3 := Lib.hid (K2.out.trans' hx); clear hx))
    go_ret2
    exact ⟨ret_bbT D.out.1 D.out.2.symm, K3.out⟩
  · clear ht
    go_enter Try.func21, Try.ntmps21
    go_wp2_with (first | (go_at_call 54; (with_reducible refine (taskKind_3 _).mono ?_); rintro e _ ⟨rfl, rfl⟩) | (go_at_call 60; (with_reducible refine (hasOutputs_any (HN.out.ext HX.out) (HL.out.ext HX.out)).mono ?_); rintro e w2 ⟨rfl, hx⟩; rw [O.out]; have K2 := Lib.hid (HX.out.trans' hx); obtain ⟨q0, q1, q2, -, -, -⟩ := row3_facts (row_ext HR.out hx); clear hx p0 p1 p2) | (go_at_call 237; (with_reducible refine (met_3 (HN.out.ext K2.out) (HL.out.ext K2.out) h6 HLE.out HG.out).mono ?_); rintro e w3 ⟨rfl, hx⟩; have K3 := Lib.hid (K2.out.trans' hx); clear hx))
    go_ret2
    exact ⟨ret_bbT D.out.1 D.out.2.symm, K3.out⟩

set_option maxHeartbeats 1600000 in
set_option maxRecDepth 100000 in
theorem specMeetsTask_any {w : World} {v vl : Value} {N : Net} {l : List Int} (t : Int) (h : NetAt w v N) (k : IntSl w vl l) (_ : l.length ≤ 1048576) :
    Calls Try.prog 18 #[v, .int .i64 t, vl] w fun e w' => e = .returned (.tuple #[.bool (dec (MkA N t l)), .bool (dec (MkB N t l))]) ∧ Ext w w' := by
  have HN := Lib.hid h
  have HL := Lib.hid k
  obtain ⟨v0, v1, v2, rfl, -, -, -⟩ := h
  have HX := Lib.hid (boxed_ext w v0 v1 v2 34)
  have HR := Lib.hid (row3_made w v0 v1 v2 34)
  obtain ⟨p0, p1, p2, -, -, -⟩ := row3_facts HR.out
  by_cases ho : OutsOK N l
  case neg =>
    have O := Lib.hid (dec_false ho)
    have D := Lib.hid (mk_f (N := N) (l := l) fun k : MkB N t l => ho k.1)
    clear ho
    go_enter Try.func18, Try.ntmps18
    go_wp2_with (go_at_call 57; (with_reducible refine (taOuts_any (HN.out.ext HX.out) (HL.out.ext HX.out)).mono ?_); rintro e w2 ⟨rfl, hx⟩; rw [O.out]; have K2 := Lib.hid (HX.out.trans' hx); clear hx)
    go_ret2
    exact ⟨ret_bbT D.out.1.symm D.out.2.symm, K2.out⟩
  have O := Lib.hid (dec_true ho)
  by_cases ht : InB t 1 3
  case neg =>
    have T := Lib.hid (dec_false ht)
    have D := Lib.hid (mk_f (N := N) (l := l) fun k : MkB N t l => ht k.2)
    clear ho ht
    go_enter Try.func18, Try.ntmps18
    go_wp2_with (first | (go_at_call 57; (with_reducible refine (taOuts_any (HN.out.ext HX.out) (HL.out.ext HX.out)).mono ?_); rintro e w2 ⟨rfl, hx⟩; rw [O.out]; have K2 := Lib.hid (HX.out.trans' hx); clear hx) | (go_at_call 53; (with_reducible refine (imTask_any _ _).mono ?_); rintro e _ ⟨rfl, rfl⟩; rw [T.out]))
    go_ret2
    exact ⟨ret_bbT D.out.1.symm D.out.2.symm, K2.out⟩
  have T := Lib.hid (dec_true ht)
  have D := Lib.hid (mk_t (N := N) (l := l) (t := t) ⟨ho, ht⟩)
  have HG := Lib.hid ho.1
  have HLE := Lib.hid ho.2.1
  have HAL := Lib.hid ho.2.2
  have h6 : l.length ≤ 1048576 := by have := ho.2.1; have := ho.1.1.2; omega
  clear ho
  rcases three_cases ht with rfl | rfl | rfl
  · clear ht
    go_enter Try.func18, Try.ntmps18
    go_wp2_with (first | (go_at_call 57; (with_reducible refine (taOuts_any (HN.out.ext HX.out) (HL.out.ext HX.out)).mono ?_); rintro e w2 ⟨rfl, hx⟩; rw [O.out]; have K2 := Lib.hid (HX.out.trans' hx); obtain ⟨q0, q1, q2, -, -, -⟩ := row3_facts (row_ext HR.out hx); clear hx p0 p1 p2) | (go_at_call 53; (with_reducible refine (imTask_any _ _).mono ?_); rintro e _ ⟨rfl, rfl⟩; rw [T.out]) | (go_at_call 58; (with_reducible refine (imMeets_1 (HN.out.ext K2.out) (HL.out.ext K2.out) h6 HAL.out).mono ?_); rintro e w3 ⟨rfl, hx⟩; have K3 := Lib.hid (K2.out.trans' hx); clear hx))
    go_ret2
    exact ⟨ret_bbT D.out.1 D.out.2.symm, K3.out⟩
  · clear ht
    go_enter Try.func18, Try.ntmps18
    go_wp2_with (first | (go_at_call 57; (with_reducible refine (taOuts_any (HN.out.ext HX.out) (HL.out.ext HX.out)).mono ?_); rintro e w2 ⟨rfl, hx⟩; rw [O.out]; have K2 := Lib.hid (HX.out.trans' hx); obtain ⟨q0, q1, q2, -, -, -⟩ := row3_facts (row_ext HR.out hx); clear hx p0 p1 p2) | (go_at_call 53; (with_reducible refine (imTask_any _ _).mono ?_); rintro e _ ⟨rfl, rfl⟩; rw [T.out]) | (go_at_call 58; (with_reducible refine (imMeets_2 (HN.out.ext K2.out) (HL.out.ext K2.out) h6 HLE.out HG.out).mono ?_); rintro e w3 ⟨rfl, hx⟩; have K3 := Lib.hid (K2.out.trans' hx); clear hx))
    go_ret2
    exact ⟨ret_bbT D.out.1 D.out.2.symm, K3.out⟩
  · clear ht
    go_enter Try.func18, Try.ntmps18
    go_wp2_with (first | (go_at_call 57; (with_reducible refine (taOuts_any (HN.out.ext HX.out) (HL.out.ext HX.out)).mono ?_); rintro e w2 ⟨rfl, hx⟩; rw [O.out]; have K2 := Lib.hid (HX.out.trans' hx); obtain ⟨q0, q1, q2, -, -, -⟩ := row3_facts (row_ext HR.out hx); clear hx p0 p1 p2) | (go_at_call 53; (with_reducible refine (imTask_any _ _).mono ?_); rintro e _ ⟨rfl, rfl⟩; rw [T.out]) | (go_at_call 58; (with_reducible refine (imMeets_3 (HN.out.ext K2.out) (HL.out.ext K2.out) h6).mono ?_); rintro e w3 ⟨rfl, hx⟩; have K3 := Lib.hid (K2.out.trans' hx); clear hx))
    go_ret2
    exact ⟨ret_bbT D.out.1 D.out.2.symm, K3.out⟩
end Go.Proofs.Ytkpdbceglejbnaa
