/- Contracts of the program's functions of words, on: rounded and joined words, sums, reversed words. -/
import Derived.Test.YtpmdkifnejkofaaDoorWI2
import Derived.Deep.RegionLaw
namespace Go.Proofs.YtpmdkifnejkofaaDoor
set_option maxRecDepth 20000
open Go.RowKit
end Go.Proofs.YtpmdkifnejkofaaDoor
