/- The walk of FnExactBitLength: whatever the arguments, the law answers true and changes nothing. -/
import Derived.Test.YtcjiejbndmnjaaaI2
namespace Go.Proofs.Ytcjiejbndmnjaaa
open Go.RowKit

set_option maxRecDepth 100000 in
theorem walk_BitLength {w : World} (n0 : Int) : Calls Try.prog 3 #[.int .i64 n0] w fun e w' => e = .returned (.bool true) ∧ Ext w w' := by
  have ha : ((blAns n0) != (blAns n0)) = false := by simp
  have hb : (dec (Wh n0) != dec (Wh n0)) = false := by simp
  go_enter Try.func3, Try.ntmps3
  go_wp2_with (first | (go_at_call 15; (with_reducible refine (specBitLength_any _ _).mono ?_); rintro e w' ⟨rfl, rfl⟩) | (go_at_call 16; (with_reducible refine (bitLength_any _ _).mono ?_); rintro e w' ⟨rfl, rfl⟩))
  go_ret
  exact ⟨rfl, Ext.rfl' w⟩
end Go.Proofs.Ytcjiejbndmnjaaa
