/- The program's circuits, on: lines, outputs, depths. -/
import Derived.Test.YtjbmgppgkgacpaaGI1
import Derived.Test.YtjbmgppgkgacpaaClone
import Derived.Deep.RegionHeldLaw
import Derived.Test.YtjbmgppgkgacpaaStep
namespace Go.Proofs.Ytjbmgppgkgacpaa
set_option maxRecDepth 20000
open Go.RowKit
theorem store_func (fn : Fn) (a : Addr) (w : World) : (store a (.func fn #[] #[])).run Try.prog w = match w.cell? a with
      | some _ => if w.frozen? a then .halt (.unsupported (.unsafePointer "a write to bytes that a string shares")) w else .ok () (w.setCell a (.func fn #[] #[]))
      | none => match w.farStore Try.prog a (.func fn #[] #[]) false with
        | .ok (w', _) => .ok () w'
        | .error h => .halt h w := run_store Try.prog w a _ .plain rfl
end Go.Proofs.Ytjbmgppgkgacpaa
