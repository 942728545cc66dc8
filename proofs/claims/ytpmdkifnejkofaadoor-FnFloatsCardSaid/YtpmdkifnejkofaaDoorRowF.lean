/- Floats as arguments and results: the contracts of the laws' own functions on them. -/
import Derived.Test.YtpmdkifnejkofaaDoorFS
import Derived.Test.YtpmdkifnejkofaaDoorTurn
import Derived.Test.YtpmdkifnejkofaaDoorOwn2
import Derived.Test.YtpmdkifnejkofaaDoorRowL
namespace Go.Proofs.YtpmdkifnejkofaaDoor
set_option maxRecDepth 20000
open Go.RowKit
end Go.Proofs.YtpmdkifnejkofaaDoor
