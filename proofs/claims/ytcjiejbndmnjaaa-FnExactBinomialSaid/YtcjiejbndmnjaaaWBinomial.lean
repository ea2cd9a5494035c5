/- The walk of FnExactBinomial: whatever the arguments, the law answers true and changes nothing that was there. No condition. -/
import Derived.Test.YtcjiejbndmnjaaaI5
namespace Go.Proofs.Ytcjiejbndmnjaaa
open Go.RowKit

set_option maxHeartbeats 1600000 in
set_option maxRecDepth 100000 in
theorem walk_Binomial {w : World} (n0 : Int) (n1 : Int) : Calls Try.prog 8 #[.int .i64 n0, .int .i64 n1] w fun e w' => e = .returned (.bool true) ∧ Ext w w' := by
  have ha : ((biAns n0 n1) != (biAns n0 n1)) = false := by simp
  have hb : (dec (SxOK n0 n1) != dec (SxOK n0 n1)) = false := by simp
  have K0 := Lib.hid (Ext.rfl' w)
  go_enter Try.func8, Try.ntmps8
  go_wp2_with fail
  (with_reducible refine (specBinomial_any _ _ _).mono ?_)
  rintro e w1 ⟨rfl, hw⟩
  have K1 := Lib.hid (K0.out.trans' hw)
  clear hw
  go_wp2_with fail
  (with_reducible refine (binomial_any _ _ _).mono ?_)
  rintro e w2 ⟨rfl, hw⟩
  have K2 := Lib.hid (K1.out.trans' hw)
  clear hw
  go_wp2
  go_ret
  exact ⟨rfl, K2.out⟩
end Go.Proofs.Ytcjiejbndmnjaaa
