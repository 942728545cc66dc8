/- The model's adders. -/
import Derived.Test.YtehdmecehpacgaaAMath2
import Derived.Test.YtehdmecehpacgaaWS4
namespace Go.Proofs.Ytehdmecehpacgaa
open Go.RowKit
end Go.Proofs.Ytehdmecehpacgaa
