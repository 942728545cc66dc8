/- A copy of a slice of integers, by the library. -/
import Derived.Test.YtjbmgppgkgacpaaRow
import Derived.Maps.AppendAt
namespace Go.Proofs.Ytjbmgppgkgacpaa
set_option maxRecDepth 20000
open Go.RowKit
end Go.Proofs.Ytjbmgppgkgacpaa
