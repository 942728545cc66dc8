/- The model's floating numbers: the nearest whole number, numbers of single precision. -/
import Derived.Test.YtfgmlmfbfedmmaaFS2
import Derived.Test.YtfgmlmfbfedmmaaFSing
namespace Go.Proofs.Ytfgmlmfbfedmmaa
open Go.RowKit
end Go.Proofs.Ytfgmlmfbfedmmaa
