/- Contracts of the program's functions of words, on: rounded and joined words, sums, reversed words. -/
import Derived.Test.YteonnaagpjmgeabWI2
import Derived.Deep.RegionLaw
namespace Go.Proofs.Yteonnaagpjmgeab
open Go.RowKit
end Go.Proofs.Yteonnaagpjmgeab
