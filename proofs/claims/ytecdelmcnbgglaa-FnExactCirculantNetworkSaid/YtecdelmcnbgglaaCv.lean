/- The contract of the program's CirculantNetwork in the form that the law's walk wants. -/
import Derived.Test.YtecdelmcnbgglaaCu
namespace Go.Proofs.Ytecdelmcnbgglaa
open Go.RowKit

theorem circ_law {w : World} {vl : Value} {l : List Int} (n : Int) (hsl : IntSl w vl l) (_ : l.length ≤ 1048576) :
    Calls Try.prog 36 #[.int .i64 n, vl] w fun e w' => ∃ v' bs, e = .returned (.tuple #[v', .bool (dec (CiOK n l))]) ∧ Ext w w' ∧ OwnNet w' v' (ciAns n l) bs ∧ Fresh w bs := circ_any n hsl
end Go.Proofs.Ytecdelmcnbgglaa
