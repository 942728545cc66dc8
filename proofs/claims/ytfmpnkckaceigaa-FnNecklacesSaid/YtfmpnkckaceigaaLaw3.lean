/- What the laws draw, on: redundant numbers. -/
import Derived.Test.YtfmpnkckaceigaaLaw2
import Derived.Test.YtfmpnkckaceigaaAMath
namespace Go.Proofs.Ytfmpnkckaceigaa
set_option maxRecDepth 20000
open Go.RowKit
end Go.Proofs.Ytfmpnkckaceigaa
