/- The checks of lists of values. -/
import Derived.Test.YtbddjejpacaglaaGreatDoorVra
namespace Go.Proofs.YtbddjejpacaglaaGreatDoor
open Go.RowKit

theorem areValues_any {w : World} {v : Value} {l : List Int} (h : IntSl w v l) :
    Calls Tryz.prog 62 #[v] w fun e w' => e = .returned (.bool (dec (AllIn l (-1000000) 1000000))) ∧ w = w' := by
  go_enter Tryz.func62, Tryz.ntmps62
  go_wp2_with (go_at_call 84; (with_reducible refine (areBetween_any _ _ h).mono ?_); rintro e _ ⟨rfl, rfl⟩)
  go_ret
  exact ⟨rfl, rfl⟩
theorem vaValues_any {w : World} {v : Value} {l : List Int} (h : IntSl w v l) :
    Calls Tryz.prog 55 #[v] w fun e w' => e = .returned (.bool (dec (AllIn l (-1000000) 1000000))) ∧ w = w' := by
  go_enter Tryz.func55, Tryz.ntmps55
  go_wp2_with (go_at_call 73; (with_reducible refine (l1All_any _ _ h).mono ?_); rintro e _ ⟨rfl, rfl⟩)
  go_ret
  exact ⟨rfl, rfl⟩

end Go.Proofs.YtbddjejpacaglaaGreatDoor
