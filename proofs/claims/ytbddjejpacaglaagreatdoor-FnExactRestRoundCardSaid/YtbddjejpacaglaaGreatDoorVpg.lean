/- The program's IsValueProgram, NeedsIds, NeedsRound. -/
import Derived.Test.YtbddjejpacaglaaGreatDoorVpf
namespace Go.Proofs.YtbddjejpacaglaaGreatDoor
open Go.RowKit
end Go.Proofs.YtbddjejpacaglaaGreatDoor
