/- What the laws draw, on: words of a length, further bytes. -/
import Derived.Test.YtpmdkifnejkofaaDoorLaw
namespace Go.Proofs.YtpmdkifnejkofaaDoor
set_option maxRecDepth 20000
open Go.RowKit
end Go.Proofs.YtpmdkifnejkofaaDoor
