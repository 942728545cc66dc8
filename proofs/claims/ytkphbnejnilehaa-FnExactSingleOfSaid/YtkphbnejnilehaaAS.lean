/- The model's adders. -/
import Derived.Test.YtkphbnejnilehaaAMath2
import Derived.Test.YtkphbnejnilehaaWS4
namespace Go.Proofs.Ytkphbnejnilehaa
open Go.RowKit
end Go.Proofs.Ytkphbnejnilehaa
