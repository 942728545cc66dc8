/- Contracts of the program's functions of words, on: rounded and joined words, sums, reversed words. -/
import Derived.Test.YtkphbnejnilehaaWI2
import Derived.Deep.RegionLaw
namespace Go.Proofs.Ytkphbnejnilehaa
open Go.RowKit
end Go.Proofs.Ytkphbnejnilehaa
