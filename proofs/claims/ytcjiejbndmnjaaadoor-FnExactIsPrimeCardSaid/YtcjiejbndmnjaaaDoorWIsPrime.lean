/- The walk of FnExactIsPrime: whatever the arguments, the law answers true and changes nothing that was there. No condition. -/
import Derived.Test.YtcjiejbndmnjaaaDoorD4
namespace Go.Proofs.YtcjiejbndmnjaaaDoor
open Go.RowKit

set_option maxHeartbeats 1600000 in
set_option maxRecDepth 100000 in
theorem walk_IsPrime {w : World} (n0 : Int) (hT : Tp w) : Calls Tryd.prog 4 #[.int .i64 n0] w fun e w' => e = .returned (.bool true) ∧ Ext w w' := by
  have HT := Lib.hid hT
  have hb : (dec (IpOK n0) != dec (IpOK n0)) = false := by simp
  have K0 := Lib.hid (Ext.rfl' w)
  go_enter Tryd.func4, Tryd.ntmps4
  go_wp2_with fail
  (with_reducible refine (specIsPrime_any _ _).mono ?_)
  rintro e w1 ⟨rfl, hw⟩
  have K1 := Lib.hid (K0.out.trans' hw)
  clear hw
  go_wp2_with fail
  (with_reducible refine (isPrime_any _ _ (HT.out.ext K1.out)).mono ?_)
  rintro e w2 ⟨rfl, hw⟩
  have K2 := Lib.hid (K1.out.trans' hw)
  clear hw
  go_wp2
  go_ret
  exact ⟨rfl, K2.out⟩
end Go.Proofs.YtcjiejbndmnjaaaDoor
