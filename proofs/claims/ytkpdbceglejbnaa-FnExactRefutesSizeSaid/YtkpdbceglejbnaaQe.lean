/- The contracts of the model's IsPortMap and coAsked. -/
import Derived.Test.YtkpdbceglejbnaaQc
import Derived.Test.YtkpdbceglejbnaaQd
namespace Go.Proofs.Ytkpdbceglejbnaa
open Go.RowKit
theorem isPortMapL_any {w : World} {va vb vf : Value} {A B : Net} {m : List Int} (h : NetAt w va A) (k : NetAt w vb B) (hf : IntSl w vf m) (_ : m.length ≤ 1048576) :
    Calls Try.prog 192 #[va, vb, vf] w fun e w' => e = .returned (.tuple #[.bool (dec (PmAns A B m)), .bool (dec (TwoG A B))]) ∧ Ext w w' := isPortMap_any h k hf
end Go.Proofs.Ytkpdbceglejbnaa
