/- Contracts of the functions of single trits, of the program and of the model: both are the same plain functions. -/
import Derived.Test.YtmpcmbagegfobaaChecked
import Derived.Test.YtmpcmbagegfobaaBase
namespace Go.Proofs.Ytmpcmbagegfobaa
set_option maxRecDepth 20000
open Go.RowKit


end Go.Proofs.Ytmpcmbagegfobaa
