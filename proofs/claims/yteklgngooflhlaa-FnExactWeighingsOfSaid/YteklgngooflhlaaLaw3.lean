/- What the laws draw, on: redundant numbers. -/
import Derived.Test.YteklgngooflhlaaLaw2
import Derived.Test.YteklgngooflhlaaAMath
namespace Go.Proofs.Yteklgngooflhlaa
set_option maxRecDepth 20000
open Go.RowKit
end Go.Proofs.Yteklgngooflhlaa
