/- Contracts of the functions of tables. -/
import Derived.Test.YtfnhoiomdjmjhaaDoorTr

namespace Go.Proofs.YtfnhoiomdjmjhaaDoor
set_option maxRecDepth 20000
open Go.RowKit

abbrev tabV (f : Nat → Int) : Value := .agg #[.int .i64 (f 0), .int .i64 (f 1), .int .i64 (f 2), .int .i64 (f 3), .int .i64 (f 4), .int .i64 (f 5), .int .i64 (f 6), .int .i64 (f 7), .int .i64 (f 8)]
namespace Tm
def isTab (f : Nat → Int) : Bool := isT (f 0) && isT (f 1) && isT (f 2) && isT (f 3) && isT (f 4) && isT (f 5) && isT (f 6) && isT (f 7) && isT (f 8)
end Tm

end Go.Proofs.YtfnhoiomdjmjhaaDoor
