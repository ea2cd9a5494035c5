/- The walk of FnExactConductorOf: whatever the arguments, the law answers true and changes nothing that was there. No condition. -/
import Derived.Test.YtcjiejbndmnjaaaI18
namespace Go.Proofs.Ytcjiejbndmnjaaa
open Go.RowKit

set_option maxHeartbeats 1600000 in
set_option maxRecDepth 100000 in
theorem walk_ConductorOf {w : World} {v0 : Value} {l0 : List Int} (h0 : IntSl w v0 l0) : Calls Try.prog 14 #[v0] w fun e w' => e = .returned (.bool true) ∧ Ext w w' := by
  have HN0 := Lib.hid h0
  obtain ⟨la0, _, _, lc0, rfl, -, -, lm0, -⟩ := h0
  unfold maxLen at lm0
  have ha : ((coAns l0) != (coAns l0)) = false := by simp
  have hb : (dec (LenOK l0) != dec (LenOK l0)) = false := by simp
  by_cases hg0 : l0.length ≤ 1048576
  case neg =>
    go_enter Try.func14, Try.ntmps14
    go_wp2
    go_ret
    exact ⟨rfl, Ext.rfl' w⟩
  case pos =>
    have K0 := Lib.hid (Ext.rfl' w)
    go_enter Try.func14, Try.ntmps14
    go_wp2_with fail
    (with_reducible refine (toIntS_own (HN0.out.ext K0.out) hg0).mono ?_)
    rintro e w1 ⟨ya0, yc0, yb0, rfl, hw, ho, -⟩
    have K1 := Lib.hid (K0.out.trans' hw)
    have y0_1 := Lib.hid ho.read
    clear hw ho
    go_wp2_with fail
    (with_reducible refine (specConductorOf_any y0_1.out hg0).mono ?_)
    rintro e w2 ⟨rfl, hw⟩
    have K2 := Lib.hid (K1.out.trans' hw)
    have y0_2 := Lib.hid (y0_1.out.ext hw)
    clear hw
    go_wp2_with fail
    (with_reducible refine (toIntS_own (HN0.out.ext K2.out) hg0).mono ?_)
    rintro e w3 ⟨xa0, xc0, xb0, rfl, hw, ho, -⟩
    have K3 := Lib.hid (K2.out.trans' hw)
    have x0_3 := Lib.hid ho.read
    clear hw ho
    go_wp2_with fail
    (with_reducible refine (conductorOf_any x0_3.out hg0).mono ?_)
    rintro e w4 ⟨rfl, hw⟩
    have K4 := Lib.hid (K3.out.trans' hw)
    have x0_4 := Lib.hid (x0_3.out.ext hw)
    clear hw
    go_wp2_with fail
    (with_reducible refine (toIntS_own (HN0.out.ext K4.out) hg0).mono ?_)
    rintro e w5 ⟨za0, zc0, zb0, rfl, hw, ho, -⟩
    have K5 := Lib.hid (K4.out.trans' hw)
    have x0_5 := Lib.hid (x0_4.out.ext hw)
    have z0_5 := Lib.hid ho.read
    clear hw ho
    go_wp2_with fail
    (with_reducible refine (eqIntS_same x0_5.out z0_5.out).mono ?_)
    rintro e w6 ⟨rfl, hw⟩
    have K6 := Lib.hid (K5.out.trans' hw)
    have x0_6 := Lib.hid (x0_5.out.ext hw)
    clear hw
    go_wp2
    go_ret
    exact ⟨rfl, K6.out⟩
end Go.Proofs.Ytcjiejbndmnjaaa
