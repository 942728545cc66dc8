/- The program reads a trit off a byte. -/
import Derived.Test.YtlpdeeaebgclpaaDoorChecked
import Derived.Test.YtlpdeeaebgclpaaDoorBase
import Derived.Test.YtlpdeeaebgclpaaDoorShelf
namespace Go.Proofs.YtlpdeeaebgclpaaDoor
set_option maxRecDepth 20000
open Go.RowKit
theorem byte_le (b : UInt8) : (b.toNat : Int) ≤ 255 := by have := b.toNat_lt; omega
theorem byte_ge (b : UInt8) : (0 : Int) ≤ (b.toNat : Int) := by omega
theorem ret_str {a b : List UInt8} (h : a = b) : Ending.returned (.string ⟨a.toArray⟩) = .returned (.string ⟨b.toArray⟩) := by rw [h]
end Go.Proofs.YtlpdeeaebgclpaaDoor
