/- What the laws draw, on: words of a length, further bytes. -/
import Derived.Test.YtfgmlmfbfedmmaaDoorLaw
namespace Go.Proofs.YtfgmlmfbfedmmaaDoor
set_option maxRecDepth 20000
open Go.RowKit
end Go.Proofs.YtfgmlmfbfedmmaaDoor
