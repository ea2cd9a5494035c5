/- The law of LabelingText. -/
import Derived.Test.YtecgajpjcaemmaaDoorSn
import Derived.Test.YtecgajpjcaemmaaDoorSo
namespace Go.Proofs.YtecgajpjcaemmaaDoor
open Go.RowKit

set_option maxHeartbeats 400000 in
set_option maxRecDepth 100000 in
theorem specLabeling_any {w : World} {v : Value} {l : List (List Int)} (h : IntSS w v l) : Calls Tryd.prog 31 #[v] w fun e w' => e = lbAns l ∧ Ext w w' := by
  have H := Lib.hid h
  clear h
  by_cases hok : LbOK l
  · have Hb := Lib.hid (dec_true hok)
    have Ha := Lib.hid (lbAns_t hok)
    have Hok := Lib.hid hok
    clear hok
    go_enter Tryd.func31, Tryd.ntmps31
    go_wp2_with (first | (go_at_call 75; (with_reducible refine (txLabels_any H.out).mono ?_); rintro e w' ⟨rfl, rfl⟩; rw [Hb.out]) | (go_at_call 76; (with_reducible refine (txLabeling_any H.out Hok.out).mono ?_); rintro e w1 ⟨rfl, hx⟩; have K := Lib.hid hx; clear hx))
    go_ret2
    exact ⟨Ha.out.symm, K.out⟩
  · have Hb := Lib.hid (dec_false hok)
    have Ha := Lib.hid (lbAns_f hok)
    clear hok
    go_enter Tryd.func31, Tryd.ntmps31
    go_wp2_with (go_at_call 75; (with_reducible refine (txLabels_any H.out).mono ?_); rintro e w' ⟨rfl, rfl⟩; rw [Hb.out])
    go_ret2
    exact ⟨Ha.out.symm, Ext.rfl' _⟩

set_option maxHeartbeats 800000 in
set_option maxRecDepth 100000 in
theorem law_LabelingText {w : World} {v : Value} {l : List (List Int)} (X : Bs) (b : Bool) (hX : lbAns l = .returned (.tuple #[.string (bs X), .bool b])) (h : IntSS w v l) (hL : Pw w) :
    Calls Tryd.prog 9 #[v] w fun e w' => e = .returned (.bool true) ∧ Ext w w' := by
  have H := Lib.hid h
  have HP := Lib.hid hL
  have Ha := Lib.hid hX
  clear h hL hX
  go_enter Tryd.func9, Tryd.ntmps9
  go_wp2_with (go_at_call 30; (with_reducible refine (szIntSS_any _ H.out (by omega) (by omega)).mono ?_); rintro e w' ⟨r, rfl, rfl, hr1, hr2, hr3⟩; have Hr3 := Lib.hid hr3; clear hr3; by_cases hneg : r < 0)
  · go_wp2
    go_ret
    exact ⟨rfl, Ext.rfl' _⟩
  · obtain ⟨s1, s2⟩ := Hr3.out (by omega)
    have S1 : l.length ≤ 1048576 := by omega
    have S2 := Lib.hid (show ∀ i, (gr l i).length ≤ 1048576 from fun i => by
      by_cases hi : i < l.length
      · have := s2 i hi; omega
      · have e : gr l i = [] := by unfold gr; rw [List.getD, List.getElem?_eq_none (by omega)]; rfl
        rw [e]; simp)
    clear s1 s2
    go_wp2_with (go_at_call 32; (with_reducible refine (toIntSS_own H.out S1 S2.out).mono ?_); rintro e w1 ⟨a1, c1, bs1, rfl, hx, ho, _⟩; have K1 := Lib.hid hx; have O1 := Lib.hid ho.read; clear hx ho)
    go_wp2_with (go_at_call 31; (with_reducible refine (specLabeling_any O1.out).mono ?_); rintro e w2 ⟨he, hx⟩; rw [Ha.out] at he; subst he; have K2 := Lib.hid (K1.out.trans' hx); clear hx)
    go_wp2_with (go_at_call 32; (with_reducible refine (toIntSS_own (H.out.ext K2.out) S1 S2.out).mono ?_); rintro e w3 ⟨a2, c2, bs2, rfl, hx, ho, _⟩; have K3 := Lib.hid (K2.out.trans' hx); have O2 := Lib.hid ho.read; clear hx ho)
    go_wp2_with (go_at_call 33; (with_reducible refine (implLabeling_any O2.out (HP.out.ext K3.out)).mono ?_); rintro e w4 ⟨he, hx⟩; rw [Ha.out] at he; subst he; have K4 := Lib.hid (K3.out.trans' hx); have O3 := Lib.hid (O2.out.ext hx); clear hx)
    go_wp2_with (go_at_call 32; (with_reducible refine (toIntSS_own (H.out.ext K4.out) S1 S2.out).mono ?_); rintro e w5 ⟨a3, c3, bs3, rfl, hx, ho, _⟩; have K5 := Lib.hid (K4.out.trans' hx); have O4 := Lib.hid (O3.out.ext hx); have O5 := Lib.hid ho.read; clear hx ho)
    go_wp2_with (go_at_call 34; (with_reducible refine (eqIntSS_same O4.out O5.out).mono ?_); rintro e w6 ⟨rfl, hx⟩; have K6 := Lib.hid (K5.out.trans' hx); clear hx)
    go_ret
    exact ⟨rfl, K6.out⟩
theorem walk_LabelingText {v : Value} {l : List (List Int)} (w : World) (h : IntSS w v l) (hL : Pw w) : Calls Tryd.prog 9 #[v] w fun e w' => e = .returned (.bool true) ∧ Ext w w' := by
  by_cases hok : LbOK l
  · exact law_LabelingText _ _ (lbAns_t hok) h hL
  · exact law_LabelingText _ _ (lbAns_f hok) h hL
end Go.Proofs.YtecgajpjcaemmaaDoor
