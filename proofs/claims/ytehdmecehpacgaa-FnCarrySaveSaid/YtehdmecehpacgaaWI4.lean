/- Contracts of the program's functions of words, on: rounded and joined words, sums, reversed words. -/
import Derived.Test.YtehdmecehpacgaaWI2
import Derived.Deep.RegionLaw
namespace Go.Proofs.Ytehdmecehpacgaa
open Go.RowKit
end Go.Proofs.Ytehdmecehpacgaa
