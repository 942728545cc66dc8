/- What the laws draw, on: words of a length, further bytes. -/
import Derived.Test.YteklgngooflhlaaLaw
namespace Go.Proofs.Yteklgngooflhlaa
set_option maxRecDepth 20000
open Go.RowKit
end Go.Proofs.Yteklgngooflhlaa
