/- Contracts of the program's functions of words, on: rounded and joined words, sums, reversed words. -/
import Derived.Test.YteonnaagpjmgeaaWI2
import Derived.Deep.RegionLaw
namespace Go.Proofs.Yteonnaagpjmgeaa
open Go.RowKit
end Go.Proofs.Yteonnaagpjmgeaa
