/- Contracts of the functions of single trits, of the program and of the model: both are the same plain functions. -/
import Derived.Test.YtkphbnejnilehaaDoorChecked
import Derived.Test.YtkphbnejnilehaaDoorBase
namespace Go.Proofs.YtkphbnejnilehaaDoor
open Go.RowKit


theorem iIsTrit (a : Int) (w : World) : Calls Tryd.prog 44 #[.int .i64 a] w fun e w' => e = .returned (.bool (Tm.isT a)) ∧ w = w' := by
  go_enter Tryd.func44, Tryd.ntmps44
  go_wp2
  all_goals (go_ret; exact ⟨ret_bool (by grind [Tm.isT]), rfl⟩)
theorem sIsTrit (a : Int) (w : World) : Calls Tryd.prog 43 #[.int .i64 a] w fun e w' => e = .returned (.bool (Tm.isT a)) ∧ w = w' := by
  go_enter Tryd.func43, Tryd.ntmps43
  go_wp2
  all_goals (go_ret; exact ⟨ret_bool (by grind [Tm.isT]), rfl⟩)
theorem sIn (x a b : Int) (w : World) : Calls Tryd.prog 31 #[.int .i64 x, .int .i64 a, .int .i64 b] w fun e w' => e = .returned (.bool (Tm.inB x a b)) ∧ w = w' := by
  go_enter Tryd.func31, Tryd.ntmps31
  go_wp2
  all_goals (go_ret; exact ⟨ret_bool (by grind [Tm.inB]), rfl⟩)
theorem sTritOf (c : Int) (w : World) : Calls Tryd.prog 37 #[.int .u8 c] w fun e w' => e = .returned (.int .i64 (Tm.rd c)) ∧ w = w' := by
  go_enter Tryd.func37, Tryd.ntmps37
  go_wp2
  all_goals (go_ret; exact ⟨ret_int (by simp_all [Tm.rd]), rfl⟩)
end Go.Proofs.YtkphbnejnilehaaDoor
