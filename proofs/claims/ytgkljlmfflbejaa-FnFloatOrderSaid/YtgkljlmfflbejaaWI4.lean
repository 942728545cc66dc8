/- Contracts of the program's functions of words, on: rounded and joined words, sums, reversed words. -/
import Derived.Test.YtgkljlmfflbejaaWI2
import Derived.Deep.RegionLaw
namespace Go.Proofs.Ytgkljlmfflbejaa
set_option maxRecDepth 20000
open Go.RowKit
end Go.Proofs.Ytgkljlmfflbejaa
