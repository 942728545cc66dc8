/- The model's adders. -/
import Derived.Test.YtbdgkipakjmidaaAMath2
import Derived.Test.YtbdgkipakjmidaaWS4
namespace Go.Proofs.Ytbdgkipakjmidaa
open Go.RowKit
end Go.Proofs.Ytbdgkipakjmidaa
