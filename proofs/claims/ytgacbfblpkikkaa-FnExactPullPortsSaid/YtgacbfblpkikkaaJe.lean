/- The contracts of the model's isWalk, isCode and isFrom. -/
import Derived.Test.YtgacbfblpkikkaaJd
import Derived.Test.YtgacbfblpkikkaaIc
import Derived.Deep.RegionHeld3
import Derived.Deep.RegionHeldLaw
namespace Go.Proofs.Ytgacbfblpkikkaa
open Go.RowKit

theorem has_iff (l : List Int) (x : Int) : Has l x ↔ x ∈ l := ⟨fun ⟨_, hj, e⟩ => e ▸ gi_in hj, fun h => let ⟨i, hi, e⟩ := in_gi h; ⟨i, hi, e⟩⟩

end Go.Proofs.Ytgacbfblpkikkaa
