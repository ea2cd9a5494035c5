/- The walk of FnExactPolynomialAt: whatever the arguments, the law answers true and changes nothing that was there. No condition. -/
import Derived.Test.YtcjiejbndmnjaaaDoorD5
namespace Go.Proofs.YtcjiejbndmnjaaaDoor
open Go.RowKit

set_option maxHeartbeats 1600000 in
set_option maxRecDepth 100000 in
theorem walk_PolynomialAt {w : World} {v1 : Value} {l1 : List Int} (n0 : Int) (n2 : Int) (h1 : IntSl w v1 l1) (hT : Tp w) : Calls Tryd.prog 6 #[.int .i64 n0, v1, .int .i64 n2] w fun e w' => e = .returned (.bool true) ∧ Ext w w' := by
  have HT := Lib.hid hT
  have HN1 := Lib.hid h1
  obtain ⟨la1, _, _, lc1, rfl, -, -, lm1, -⟩ := h1
  unfold maxLen at lm1
  have ha : ((paAns n0 l1 n2) != (paAns n0 l1 n2)) = false := by simp
  have hb : (dec (PaOK n0 l1 n2) != dec (PaOK n0 l1 n2)) = false := by simp
  by_cases hg1 : l1.length ≤ 1048576
  case neg =>
    go_enter Tryd.func6, Tryd.ntmps6
    go_wp2
    go_ret
    exact ⟨rfl, Ext.rfl' w⟩
  case pos =>
    have K0 := Lib.hid (Ext.rfl' w)
    go_enter Tryd.func6, Tryd.ntmps6
    go_wp2_with fail
    (with_reducible refine (toIntS_own (HN1.out.ext K0.out) hg1).mono ?_)
    rintro e w1 ⟨ya1, yc1, yb1, rfl, hw, ho, -⟩
    have K1 := Lib.hid (K0.out.trans' hw)
    have y1_1 := Lib.hid ho.read
    clear hw ho
    go_wp2_with fail
    (with_reducible refine (specPolynomialAt_any _ _ y1_1.out hg1).mono ?_)
    rintro e w2 ⟨rfl, hw⟩
    have K2 := Lib.hid (K1.out.trans' hw)
    have y1_2 := Lib.hid (y1_1.out.ext hw)
    clear hw
    go_wp2_with fail
    (with_reducible refine (toIntS_own (HN1.out.ext K2.out) hg1).mono ?_)
    rintro e w3 ⟨xa1, xc1, xb1, rfl, hw, ho, -⟩
    have K3 := Lib.hid (K2.out.trans' hw)
    have x1_3 := Lib.hid ho.read
    clear hw ho
    go_wp2_with fail
    (with_reducible refine (polynomialAt_any _ _ x1_3.out hg1 (HT.out.ext K3.out)).mono ?_)
    rintro e w4 ⟨rfl, hw⟩
    have K4 := Lib.hid (K3.out.trans' hw)
    have x1_4 := Lib.hid (x1_3.out.ext hw)
    clear hw
    go_wp2_with fail
    (with_reducible refine (toIntS_own (HN1.out.ext K4.out) hg1).mono ?_)
    rintro e w5 ⟨za1, zc1, zb1, rfl, hw, ho, -⟩
    have K5 := Lib.hid (K4.out.trans' hw)
    have x1_5 := Lib.hid (x1_4.out.ext hw)
    have z1_5 := Lib.hid ho.read
    clear hw ho
    go_wp2_with fail
    (with_reducible refine (eqIntS_same x1_5.out z1_5.out).mono ?_)
    rintro e w6 ⟨rfl, hw⟩
    have K6 := Lib.hid (K5.out.trans' hw)
    have x1_6 := Lib.hid (x1_5.out.ext hw)
    clear hw
    go_wp2
    go_ret
    exact ⟨rfl, K6.out⟩
end Go.Proofs.YtcjiejbndmnjaaaDoor
