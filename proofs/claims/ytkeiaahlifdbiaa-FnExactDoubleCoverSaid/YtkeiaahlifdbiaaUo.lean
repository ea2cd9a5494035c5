/- The contract of the program's UnionOf. -/
import Derived.Test.YtkeiaahlifdbiaaSs
namespace Go.Proofs.Ytkeiaahlifdbiaa
open Go.RowKit
end Go.Proofs.Ytkeiaahlifdbiaa
