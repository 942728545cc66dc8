/- Contracts of the functions of single trits, of the program and of the model: both are the same plain functions. -/
import Derived.Test.YteklgngooflhlaaChecked
import Derived.Test.YteklgngooflhlaaBase
namespace Go.Proofs.Yteklgngooflhlaa
set_option maxRecDepth 20000
open Go.RowKit


theorem iIsTrit (a : Int) (w : World) : Calls Try.prog 83 #[.int .i64 a] w fun e w' => e = .returned (.bool (Tm.isT a)) ∧ w = w' := by
  go_enter Try.func83, Try.ntmps83
  go_wp2
  all_goals (go_ret; exact ⟨ret_bool (by grind [Tm.isT]), rfl⟩)
theorem iAreTrits (a b : Int) (w : World) : Calls Try.prog 108 #[.int .i64 a, .int .i64 b] w fun e w' => e = .returned (.bool (Tm.isT a && Tm.isT b)) ∧ w = w' := by
  go_enter Try.func108, Try.ntmps108
  go_wp2
  all_goals (go_ret; exact ⟨ret_bool (by grind [Tm.isT]), rfl⟩)
theorem iSignOf (a : Int) (w : World) : Calls Try.prog 70 #[.int .i64 a] w fun e w' => e = .returned (.int .i64 (Tm.sgn a)) ∧ w = w' := by
  go_enter Try.func70, Try.ntmps70
  go_wp2
  all_goals (go_ret; exact ⟨ret_int (by grind [Tm.sgn]), rfl⟩)
theorem iNotTrit (a : Int) (w : World) : Calls Try.prog 89 #[.int .i64 a] w fun e w' => e = .returned (.int .i64 (Tm.neg a)) ∧ w = w' := by
  by_cases h : (-1 ≤ a ∧ a ≤ 1)
  · obtain ⟨h1, h2⟩ := h
    go_enter Try.func89, Try.ntmps89
    go_wp2
    all_goals (go_ret; exact ⟨ret_int (by grind [Tm.neg, Tm.isT]), rfl⟩)
  · go_enter Try.func89, Try.ntmps89
    go_wp2
    all_goals (go_ret; exact ⟨ret_int (by grind [Tm.neg, Tm.isT]), rfl⟩)
theorem iTurnTrit (a : Int) (w : World) : Calls Try.prog 32 #[.int .i64 a] w fun e w' => e = .returned (.int .i64 (Tm.turn a)) ∧ w = w' := by
  go_enter Try.func32, Try.ntmps32
  go_wp2
  all_goals (go_ret; exact ⟨ret_int (by grind [Tm.turn, Tm.isT]), rfl⟩)
theorem iTimesTrits (a b : Int) (w : World) : Calls Try.prog 103 #[.int .i64 a, .int .i64 b] w fun e w' => e = .returned (.int .i64 (Tm.times a b)) ∧ w = w' := by
  by_cases h : (-1 ≤ a ∧ a ≤ 1) ∧ (-1 ≤ b ∧ b ≤ 1)
  · obtain ⟨⟨h1, h2⟩, h3, h4⟩ := h
    obtain ⟨h5, h6⟩ := Tm.times_tt a b h1 h2 h3 h4
    go_enter Try.func103, Try.ntmps103
    go_wp2
    all_goals (go_ret; exact ⟨ret_int (by grind [Tm.times, Tm.isT]), rfl⟩)
  · go_enter Try.func103, Try.ntmps103
    go_wp2
    all_goals (go_ret; exact ⟨ret_int (by grind [Tm.times, Tm.isT]), rfl⟩)
theorem sIsTrit (a : Int) (w : World) : Calls Try.prog 97 #[.int .i64 a] w fun e w' => e = .returned (.bool (Tm.isT a)) ∧ w = w' := by
  go_enter Try.func97, Try.ntmps97
  go_wp2
  all_goals (go_ret; exact ⟨ret_bool (by grind [Tm.isT]), rfl⟩)
theorem sSignOf (a : Int) (w : World) : Calls Try.prog 92 #[.int .i64 a] w fun e w' => e = .returned (.int .i64 (Tm.sgn a)) ∧ w = w' := by
  go_enter Try.func92, Try.ntmps92
  go_wp2
  all_goals (go_ret; exact ⟨ret_int (by grind [Tm.sgn]), rfl⟩)
theorem sTurnTrit (a : Int) (w : World) : Calls Try.prog 105 #[.int .i64 a] w fun e w' => e = .returned (.int .i64 (Tm.turn a)) ∧ w = w' := by
  by_cases h : (-1 ≤ a ∧ a ≤ 1)
  · obtain ⟨h1, h2⟩ := h
    go_enter Try.func105, Try.ntmps105
    go_wp2
    all_goals (go_ret; exact ⟨ret_int (by grind [Tm.turn, Tm.isT]), rfl⟩)
  · go_enter Try.func105, Try.ntmps105
    go_wp2
    all_goals (go_ret; exact ⟨ret_int (by grind [Tm.turn, Tm.isT]), rfl⟩)
theorem iSplit (n : Int) (w : World) (h1 : -4 ≤ n) (h2 : n ≤ 4) : Calls Try.prog 100 #[.int .i64 n] w fun e w' => e = .returned (.tuple #[.int .i64 (Tm.sp1 n), .int .i64 (Tm.sp2 n)]) ∧ w = w' := by
  have : n = -4 ∨ n = -3 ∨ n = -2 ∨ n = -1 ∨ n = 0 ∨ n = 1 ∨ n = 2 ∨ n = 3 ∨ n = 4 := by omega
  clear h1 h2
  rcases this with rfl | rfl | rfl | rfl | rfl | rfl | rfl | rfl | rfl
  all_goals
    go_enter Try.func100, Try.ntmps100
    go_wp2
    go_ret2
    exact ⟨by simp [Tm.sp1, Tm.sp2], rfl⟩
theorem sIn (x a b : Int) (w : World) : Calls Try.prog 73 #[.int .i64 x, .int .i64 a, .int .i64 b] w fun e w' => e = .returned (.bool (Tm.inB x a b)) ∧ w = w' := by
  go_enter Try.func73, Try.ntmps73
  go_wp2
  all_goals (go_ret; exact ⟨ret_bool (by grind [Tm.inB]), rfl⟩)
end Go.Proofs.Yteklgngooflhlaa
