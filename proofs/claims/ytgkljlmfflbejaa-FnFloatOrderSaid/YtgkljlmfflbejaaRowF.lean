/- Floats as arguments and results: the contracts of the laws' own functions on them. -/
import Derived.Test.YtgkljlmfflbejaaFS
import Derived.Test.YtgkljlmfflbejaaTurn
import Derived.Test.YtgkljlmfflbejaaOwn2
import Derived.Test.YtgkljlmfflbejaaRowL
namespace Go.Proofs.Ytgkljlmfflbejaa
set_option maxRecDepth 20000
open Go.RowKit
end Go.Proofs.Ytgkljlmfflbejaa
