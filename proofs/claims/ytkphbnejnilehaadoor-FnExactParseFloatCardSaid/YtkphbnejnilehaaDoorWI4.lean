/- Contracts of the program's functions of words, on: rounded and joined words, sums, reversed words. -/
import Derived.Test.YtkphbnejnilehaaDoorWI2
import Derived.Deep.RegionLaw
namespace Go.Proofs.YtkphbnejnilehaaDoor
open Go.RowKit
end Go.Proofs.YtkphbnejnilehaaDoor
