/- The contracts of both sides' ConflictOf. -/
import Derived.Test.YtdoaopeegcakiaaCfb
namespace Go.Proofs.Ytdoaopeegcakiaa
open Go.RowKit

theorem vok_good {N : Net} {t : Int} (h : VOK N t) : Good N := h.1

set_option maxHeartbeats 1600000 in
set_option maxRecDepth 100000 in
theorem conflictOf_any {w : World} {v vl : Value} {N : Net} {l : List Int} (t : Int) (h : NetAt w v N) (k : IntSl w vl l) (_ : l.length ≤ 1048576) :
    Calls Try.prog 14 #[v, .int .i64 t, vl] w fun e w' => e = .returned (.tuple #[.int .i64 (coU N t l), .int .i64 (coV N t l), .bool (dec (CoB N t l))]) ∧ Ext w w' := by
  have HN := Lib.hid h
  have HL := Lib.hid k
  obtain ⟨v0, v1, v2, rfl, -, -, -⟩ := h
  have HX := Lib.hid (boxed_ext w v0 v1 v2 31)
  have HR := Lib.hid (row3_made w v0 v1 v2 31)
  obtain ⟨p0, p1, p2, -, -, -⟩ := row3_facts HR.out
  by_cases hv : VOK N t
  case neg =>
    have V := Lib.hid (dec_false hv)
    have D := Lib.hid (co_f (N := N) (t := t) (l := l) fun h => hv ⟨h.1.1, h.2⟩)
    clear hv
    go_enter Try.func14, Try.ntmps14
    go_wp2_with fail
    (with_reducible refine (viewClasses_any t (HN.out.ext HX.out)).mono ?_)
    rintro e w1 ⟨v', bs, rfl, hx, -, -⟩
    rw [V.out]
    have K1 := Lib.hid (HX.out.trans' hx)
    clear hx p0 p1 p2
    go_wp2
    go_ret3
    exact ⟨ret_iib D.out.1.symm D.out.2.1.symm D.out.2.2.symm, K1.out⟩
  have V := Lib.hid (dec_true hv)
  by_cases ho : OutsOK N l
  case neg =>
    have O := Lib.hid (dec_false ho)
    have D := Lib.hid (co_f (N := N) (t := t) (l := l) fun h => ho h.1)
    clear hv ho
    go_enter Try.func14, Try.ntmps14
    go_wp2_with fail
    (with_reducible refine (viewClasses_any t (HN.out.ext HX.out)).mono ?_)
    rintro e w1 ⟨v', bs, rfl, hx, -, -⟩
    rw [V.out]
    have K1 := Lib.hid (HX.out.trans' hx)
    obtain ⟨q0, q1, q2, -, -, -⟩ := row3_facts (row_ext HR.out hx)
    clear hx p0 p1 p2
    go_wp2_with (first | (go_at_call 40; (with_reducible refine (hasOutputs_any (HN.out.ext K1.out) (HL.out.ext K1.out)).mono ?_); rintro e w2 ⟨rfl, hx⟩; rw [O.out]; have K2 := Lib.hid (K1.out.trans' hx); clear hx))
    go_ret3
    exact ⟨ret_iib D.out.1.symm D.out.2.1.symm D.out.2.2.symm, K2.out⟩
  have O := Lib.hid (dec_true ho)
  have D := Lib.hid (co_t (N := N) (t := t) (l := l) ⟨ho, hv.2⟩)
  have C := Lib.hid (vcAns_t hv)
  have LL := Lib.hid (show l.length = (seqC N t.toNat).length by rw [seqC_len]; exact ho.2.1)
  have L4 := Lib.hid (show (seqC N t.toNat).length ≤ 1048576 by rw [seqC_len]; have := ho.1.1.2; omega)
  clear hv ho
  go_enter Try.func14, Try.ntmps14
  go_wp2_with fail
  (with_reducible refine (viewClasses_any t (HN.out.ext HX.out)).mono ?_)
  rintro e w1 ⟨v', bs, rfl, hx, hw, -⟩
  rw [V.out]
  rw [C.out] at hw
  have K1 := Lib.hid (HX.out.trans' hx)
  have W := Lib.hid hw.read
  obtain ⟨q0, q1, q2, -, -, -⟩ := row3_facts (row_ext HR.out hx)
  clear hx p0 p1 p2 hw
  go_wp2_with (first | (go_at_call 40; (with_reducible refine (hasOutputs_any (HN.out.ext K1.out) (HL.out.ext K1.out)).mono ?_); rintro e w2 ⟨rfl, hx⟩; rw [O.out]; have K2 := Lib.hid (K1.out.trans' hx); have W2 := Lib.hid (W.out.ext hx); clear hx) | (go_at_call 41; (with_reducible refine (conflictWithin_any W2.out (HL.out.ext K2.out) LL.out L4.out).mono ?_); rintro e w3 ⟨rfl, hx⟩; have K3 := Lib.hid (K2.out.trans' hx); clear hx))
  go_ret3
  exact ⟨ret_iib D.out.1 D.out.2.1 D.out.2.2, K3.out⟩

set_option maxHeartbeats 1600000 in
set_option maxRecDepth 100000 in
theorem specConflictOf_any {w : World} {v vl : Value} {N : Net} {l : List Int} (t : Int) (h : NetAt w v N) (k : IntSl w vl l) (_ : l.length ≤ 1048576) :
    Calls Try.prog 11 #[v, .int .i64 t, vl] w fun e w' => e = .returned (.tuple #[.int .i64 (coU N t l), .int .i64 (coV N t l), .bool (dec (CoB N t l))]) ∧ Ext w w' := by
  have HN := Lib.hid h
  have HL := Lib.hid k
  obtain ⟨v0, v1, v2, rfl, -, -, -⟩ := h
  have HX := Lib.hid (boxed_ext w v0 v1 v2 31)
  have HR := Lib.hid (row3_made w v0 v1 v2 31)
  obtain ⟨p0, p1, p2, -, -, -⟩ := row3_facts HR.out
  by_cases ho : OutsOK N l
  case neg =>
    have O := Lib.hid (dec_false ho)
    have D := Lib.hid (co_f (N := N) (t := t) (l := l) fun h => ho h.1)
    clear ho
    go_enter Try.func11, Try.ntmps11
    go_wp2_with (first | (go_at_call 35; (with_reducible refine (taOuts_any (HN.out.ext HX.out) (HL.out.ext HX.out)).mono ?_); rintro e w2 ⟨rfl, hx⟩; rw [O.out]; have K2 := Lib.hid (HX.out.trans' hx); clear hx))
    go_ret3
    exact ⟨ret_iib D.out.1.symm D.out.2.1.symm D.out.2.2.symm, K2.out⟩
  have O := Lib.hid (dec_true ho)
  by_cases ht : InB t 0 80
  case neg =>
    have T := Lib.hid (dec_false ht)
    have D := Lib.hid (co_f (N := N) (t := t) (l := l) fun h => ht h.2)
    clear ho ht
    go_enter Try.func11, Try.ntmps11
    go_wp2_with (first | (go_at_call 35; (with_reducible refine (taOuts_any (HN.out.ext HX.out) (HL.out.ext HX.out)).mono ?_); rintro e w2 ⟨rfl, hx⟩; rw [O.out]; have K2 := Lib.hid (HX.out.trans' hx); clear hx) | (go_at_call 36; (with_reducible refine (viDepth_any _ _).mono ?_); rintro e w1 ⟨rfl, rfl⟩; rw [T.out]))
    go_ret3
    exact ⟨ret_iib D.out.1.symm D.out.2.1.symm D.out.2.2.symm, K2.out⟩
  have T := Lib.hid (dec_true ht)
  have D := Lib.hid (co_t (N := N) (t := t) (l := l) ⟨ho, ht⟩)
  have G := Lib.hid ho.1
  have LL := Lib.hid ho.2.1
  obtain ⟨m, rfl⟩ := Int.eq_ofNat_of_zero_le ht.1
  have hm80 : m ≤ 80 := by have := ht.2; omega
  have TN := Lib.hid (Int.toNat_natCast m)
  clear ho ht
  go_enter Try.func11, Try.ntmps11
  go_wp2_with fail
  (with_reducible refine (taOuts_any (HN.out.ext HX.out) (HL.out.ext HX.out)).mono ?_)
  rintro e w2 ⟨rfl, hx⟩
  rw [O.out]
  have K2 := Lib.hid (HX.out.trans' hx)
  obtain ⟨q0, q1, q2, -, -, -⟩ := row3_facts (row_ext HR.out hx)
  clear hx p0 p1 p2
  go_wp2_with (first | (go_at_call 36; (with_reducible refine (viDepth_any _ _).mono ?_); rintro e w1 ⟨rfl, rfl⟩; rw [T.out]) | (go_at_call 37; (with_reducible refine (taConflict_any m hm80 (HN.out.ext K2.out) (HL.out.ext K2.out) G.out LL.out).mono ?_); rintro e w3 ⟨rfl, hx⟩; have K3 := Lib.hid (K2.out.trans' hx); clear hx))
  go_ret3
  exact ⟨ret_iib (by rw [← D.out.1, TN.out]) (by rw [← D.out.2.1, TN.out]) (by rw [← D.out.2.2, TN.out]), K3.out⟩
end Go.Proofs.Ytdoaopeegcakiaa
