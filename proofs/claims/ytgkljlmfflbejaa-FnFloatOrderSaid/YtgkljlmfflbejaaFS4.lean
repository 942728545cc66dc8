/- The model's floating numbers: the nearest whole number, numbers of single precision. -/
import Derived.Test.YtgkljlmfflbejaaFS2
import Derived.Test.YtgkljlmfflbejaaFSing
namespace Go.Proofs.Ytgkljlmfflbejaa
set_option maxRecDepth 20000
open Go.RowKit
end Go.Proofs.Ytgkljlmfflbejaa
