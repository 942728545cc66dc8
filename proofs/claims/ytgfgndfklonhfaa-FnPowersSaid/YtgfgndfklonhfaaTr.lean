/- Contracts of the functions of single trits, of the program and of the model: both are the same plain functions. -/
import Derived.Test.YtgfgndfklonhfaaChecked
import Derived.Test.YtgfgndfklonhfaaBase
namespace Go.Proofs.Ytgfgndfklonhfaa
set_option maxRecDepth 20000
open Go.RowKit


theorem iIsTrit (a : Int) (w : World) : Calls Try.prog 56 #[.int .i64 a] w fun e w' => e = .returned (.bool (Tm.isT a)) ∧ w = w' := by
  go_enter Try.func56, Try.ntmps56
  go_wp2
  all_goals (go_ret; exact ⟨ret_bool (by grind [Tm.isT]), rfl⟩)
theorem iAreTrits (a b : Int) (w : World) : Calls Try.prog 66 #[.int .i64 a, .int .i64 b] w fun e w' => e = .returned (.bool (Tm.isT a && Tm.isT b)) ∧ w = w' := by
  go_enter Try.func66, Try.ntmps66
  go_wp2
  all_goals (go_ret; exact ⟨ret_bool (by grind [Tm.isT]), rfl⟩)
theorem iNotTrit (a : Int) (w : World) : Calls Try.prog 38 #[.int .i64 a] w fun e w' => e = .returned (.int .i64 (Tm.neg a)) ∧ w = w' := by
  by_cases h : (-1 ≤ a ∧ a ≤ 1)
  · obtain ⟨h1, h2⟩ := h
    go_enter Try.func38, Try.ntmps38
    go_wp2
    all_goals (go_ret; exact ⟨ret_int (by grind [Tm.neg, Tm.isT]), rfl⟩)
  · go_enter Try.func38, Try.ntmps38
    go_wp2
    all_goals (go_ret; exact ⟨ret_int (by grind [Tm.neg, Tm.isT]), rfl⟩)
theorem iTimesTrits (a b : Int) (w : World) : Calls Try.prog 52 #[.int .i64 a, .int .i64 b] w fun e w' => e = .returned (.int .i64 (Tm.times a b)) ∧ w = w' := by
  by_cases h : (-1 ≤ a ∧ a ≤ 1) ∧ (-1 ≤ b ∧ b ≤ 1)
  · obtain ⟨⟨h1, h2⟩, h3, h4⟩ := h
    obtain ⟨h5, h6⟩ := Tm.times_tt a b h1 h2 h3 h4
    go_enter Try.func52, Try.ntmps52
    go_wp2
    all_goals (go_ret; exact ⟨ret_int (by grind [Tm.times, Tm.isT]), rfl⟩)
  · go_enter Try.func52, Try.ntmps52
    go_wp2
    all_goals (go_ret; exact ⟨ret_int (by grind [Tm.times, Tm.isT]), rfl⟩)
theorem sIsTrit (a : Int) (w : World) : Calls Try.prog 59 #[.int .i64 a] w fun e w' => e = .returned (.bool (Tm.isT a)) ∧ w = w' := by
  go_enter Try.func59, Try.ntmps59
  go_wp2
  all_goals (go_ret; exact ⟨ret_bool (by grind [Tm.isT]), rfl⟩)
theorem iSplit (n : Int) (w : World) (h1 : -4 ≤ n) (h2 : n ≤ 4) : Calls Try.prog 51 #[.int .i64 n] w fun e w' => e = .returned (.tuple #[.int .i64 (Tm.sp1 n), .int .i64 (Tm.sp2 n)]) ∧ w = w' := by
  have : n = -4 ∨ n = -3 ∨ n = -2 ∨ n = -1 ∨ n = 0 ∨ n = 1 ∨ n = 2 ∨ n = 3 ∨ n = 4 := by omega
  clear h1 h2
  rcases this with rfl | rfl | rfl | rfl | rfl | rfl | rfl | rfl | rfl
  all_goals
    go_enter Try.func51, Try.ntmps51
    go_wp2
    go_ret2
    exact ⟨by simp [Tm.sp1, Tm.sp2], rfl⟩
theorem iFullAdd (a b c : Int) (w : World) : Calls Try.prog 57 #[.int .i64 a, .int .i64 b, .int .i64 c] w fun e w' => e = .returned (.tuple #[.int .i64 (Tm.full1 a b c), .int .i64 (Tm.full2 a b c)]) ∧ w = w' := by
  by_cases h : (-1 ≤ a ∧ a ≤ 1) ∧ (-1 ≤ b ∧ b ≤ 1) ∧ (-1 ≤ c ∧ c ≤ 1)
  · obtain ⟨⟨h1, h2⟩, ⟨h3, h4⟩, h5, h6⟩ := h
    go_enter Try.func57, Try.ntmps57
    go_wp2_with (first | (go_at_call 51; refine (iSplit _ _ (by omega) (by omega)).mono ?_; rintro e w' ⟨rfl, rfl⟩) | (go_at_call 66; go_in) | (go_at_call 56; go_in))
    all_goals (go_ret2; exact ⟨ret_int2 (by grind [Tm.full1, Tm.isT]) (by grind [Tm.full2, Tm.isT]), rfl⟩)
  · go_enter Try.func57, Try.ntmps57
    go_wp2_with (first | (go_at_call 51; exfalso; grind) | (go_at_call 66; go_in) | (go_at_call 56; go_in))
    all_goals (go_ret2; exact ⟨ret_int2 (by grind [Tm.full1, Tm.isT]) (by grind [Tm.full2, Tm.isT]), rfl⟩)
theorem sIn (x a b : Int) (w : World) : Calls Try.prog 60 #[.int .i64 x, .int .i64 a, .int .i64 b] w fun e w' => e = .returned (.bool (Tm.inB x a b)) ∧ w = w' := by
  go_enter Try.func60, Try.ntmps60
  go_wp2
  all_goals (go_ret; exact ⟨ret_bool (by grind [Tm.inB]), rfl⟩)
end Go.Proofs.Ytgfgndfklonhfaa
