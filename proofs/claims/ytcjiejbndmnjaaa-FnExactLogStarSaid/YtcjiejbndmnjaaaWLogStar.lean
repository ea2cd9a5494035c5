/- The walk of FnExactLogStar: whatever the arguments, the law answers true and changes nothing. -/
import Derived.Test.YtcjiejbndmnjaaaI3
namespace Go.Proofs.Ytcjiejbndmnjaaa
open Go.RowKit

set_option maxRecDepth 100000 in
theorem walk_LogStar {w : World} (n0 : Int) : Calls Try.prog 5 #[.int .i64 n0] w fun e w' => e = .returned (.bool true) ∧ Ext w w' := by
  have ha : ((lsAns n0) != (lsAns n0)) = false := by simp
  have hb : (dec (LsOK n0) != dec (LsOK n0)) = false := by simp
  go_enter Try.func5, Try.ntmps5
  go_wp2_with (first | (go_at_call 19; (with_reducible refine (specLogStar_any _ _).mono ?_); rintro e w' ⟨rfl, rfl⟩) | (go_at_call 20; (with_reducible refine (logStar_any _ _).mono ?_); rintro e w' ⟨rfl, rfl⟩))
  go_ret
  exact ⟨rfl, Ext.rfl' w⟩
end Go.Proofs.Ytcjiejbndmnjaaa
