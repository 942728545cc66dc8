/- Contracts of the program's functions of words, on: rounded and joined words, sums, reversed words. -/
import Derived.Test.YtfgmlmfbfedmmaaWI2
import Derived.Deep.RegionLaw
namespace Go.Proofs.Ytfgmlmfbfedmmaa
open Go.RowKit
end Go.Proofs.Ytfgmlmfbfedmmaa
