/- The walk of FnExactBitAt: whatever the arguments, the law answers true and changes nothing. -/
import Derived.Test.YtcjiejbndmnjaaaI2
namespace Go.Proofs.Ytcjiejbndmnjaaa
open Go.RowKit

set_option maxRecDepth 100000 in
theorem walk_BitAt {w : World} (n0 n1 : Int) : Calls Try.prog 4 #[.int .i64 n0, .int .i64 n1] w fun e w' => e = .returned (.bool true) ∧ Ext w w' := by
  have ha : ((baAns n0 n1) != (baAns n0 n1)) = false := by simp
  have hb : (dec (BaOK n0 n1) != dec (BaOK n0 n1)) = false := by simp
  go_enter Try.func4, Try.ntmps4
  go_wp2_with (first | (go_at_call 17; (with_reducible refine (specBitAt_any _ _ _).mono ?_); rintro e w' ⟨rfl, rfl⟩) | (go_at_call 18; (with_reducible refine (bitAt_any _ _ _).mono ?_); rintro e w' ⟨rfl, rfl⟩))
  go_ret
  exact ⟨rfl, Ext.rfl' w⟩
end Go.Proofs.Ytcjiejbndmnjaaa
