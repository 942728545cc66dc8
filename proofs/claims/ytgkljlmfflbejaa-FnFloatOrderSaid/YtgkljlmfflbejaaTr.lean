/- Contracts of the functions of single trits, of the program and of the model: both are the same plain functions. -/
import Derived.Test.YtgkljlmfflbejaaChecked
import Derived.Test.YtgkljlmfflbejaaBase
namespace Go.Proofs.Ytgkljlmfflbejaa
set_option maxRecDepth 20000
open Go.RowKit


theorem iIsTrit (a : Int) (w : World) : Calls Try.prog 44 #[.int .i64 a] w fun e w' => e = .returned (.bool (Tm.isT a)) ∧ w = w' := by
  go_enter Try.func44, Try.ntmps44
  go_wp2
  all_goals (go_ret; exact ⟨ret_bool (by grind [Tm.isT]), rfl⟩)
theorem iSignOf (a : Int) (w : World) : Calls Try.prog 10 #[.int .i64 a] w fun e w' => e = .returned (.int .i64 (Tm.sgn a)) ∧ w = w' := by
  go_enter Try.func10, Try.ntmps10
  go_wp2
  all_goals (go_ret; exact ⟨ret_int (by grind [Tm.sgn]), rfl⟩)
theorem iNotTrit (a : Int) (w : World) : Calls Try.prog 42 #[.int .i64 a] w fun e w' => e = .returned (.int .i64 (Tm.neg a)) ∧ w = w' := by
  by_cases h : (-1 ≤ a ∧ a ≤ 1)
  · obtain ⟨h1, h2⟩ := h
    go_enter Try.func42, Try.ntmps42
    go_wp2
    all_goals (go_ret; exact ⟨ret_int (by grind [Tm.neg, Tm.isT]), rfl⟩)
  · go_enter Try.func42, Try.ntmps42
    go_wp2
    all_goals (go_ret; exact ⟨ret_int (by grind [Tm.neg, Tm.isT]), rfl⟩)
theorem iSplit (n : Int) (w : World) (h1 : -4 ≤ n) (h2 : n ≤ 4) : Calls Try.prog 34 #[.int .i64 n] w fun e w' => e = .returned (.tuple #[.int .i64 (Tm.sp1 n), .int .i64 (Tm.sp2 n)]) ∧ w = w' := by
  have : n = -4 ∨ n = -3 ∨ n = -2 ∨ n = -1 ∨ n = 0 ∨ n = 1 ∨ n = 2 ∨ n = 3 ∨ n = 4 := by omega
  clear h1 h2
  rcases this with rfl | rfl | rfl | rfl | rfl | rfl | rfl | rfl | rfl
  all_goals
    go_enter Try.func34, Try.ntmps34
    go_wp2
    go_ret2
    exact ⟨by simp [Tm.sp1, Tm.sp2], rfl⟩
end Go.Proofs.Ytgkljlmfflbejaa
