/- The program reads a trit off a byte. -/
import Derived.Test.YtfnhoiomdjmjhaaDoorChecked
import Derived.Test.YtfnhoiomdjmjhaaDoorBase
import Derived.Test.YtfnhoiomdjmjhaaDoorShelf
namespace Go.Proofs.YtfnhoiomdjmjhaaDoor
set_option maxRecDepth 20000
open Go.RowKit
theorem byte_le (b : UInt8) : (b.toNat : Int) ≤ 255 := by have := b.toNat_lt; omega
theorem byte_ge (b : UInt8) : (0 : Int) ≤ (b.toNat : Int) := by omega
theorem ret_str {a b : List UInt8} (h : a = b) : Ending.returned (.string ⟨a.toArray⟩) = .returned (.string ⟨b.toArray⟩) := by rw [h]
theorem infoByte : (Tryd.prog.info? 5).map (fun i => (i.zero, i.size, i.bytes)) = some (some (.int .u8 0), 1, 1) := by kernel_rfl
theorem idxSign (a : Int) (h : Tm.isT a = true) (w : World) : (Instr.index 9 (.string ⟨#[45, 48, 43]⟩) (.int .i64 (a + 1))).run Tryd.prog w = .ok (.int .u8 ((Tm.sg a).toNat : Int)) w := by
  rcases Tm.isT_cases h with rfl | rfl | rfl <;> kernel_rfl
end Go.Proofs.YtfnhoiomdjmjhaaDoor
