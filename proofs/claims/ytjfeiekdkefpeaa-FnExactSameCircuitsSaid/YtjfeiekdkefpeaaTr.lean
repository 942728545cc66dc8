/- Contracts of the functions of single trits, of the program and of the model: both are the same plain functions. -/
import Derived.Test.YtjfeiekdkefpeaaChecked
import Derived.Test.YtjfeiekdkefpeaaBase
namespace Go.Proofs.Ytjfeiekdkefpeaa
set_option maxRecDepth 20000
open Go.RowKit


theorem iIsTrit (a : Int) (w : World) : Calls Try.prog 75 #[.int .i64 a] w fun e w' => e = .returned (.bool (Tm.isT a)) ∧ w = w' := by
  go_enter Try.func75, Try.ntmps75
  go_wp2
  all_goals (go_ret; exact ⟨ret_bool (by grind [Tm.isT]), rfl⟩)
theorem iAreTrits (a b : Int) (w : World) : Calls Try.prog 101 #[.int .i64 a, .int .i64 b] w fun e w' => e = .returned (.bool (Tm.isT a && Tm.isT b)) ∧ w = w' := by
  go_enter Try.func101, Try.ntmps101
  go_wp2
  all_goals (go_ret; exact ⟨ret_bool (by grind [Tm.isT]), rfl⟩)
theorem iSignOf (a : Int) (w : World) : Calls Try.prog 127 #[.int .i64 a] w fun e w' => e = .returned (.int .i64 (Tm.sgn a)) ∧ w = w' := by
  go_enter Try.func127, Try.ntmps127
  go_wp2
  all_goals (go_ret; exact ⟨ret_int (by grind [Tm.sgn]), rfl⟩)
theorem iNotTrit (a : Int) (w : World) : Calls Try.prog 134 #[.int .i64 a] w fun e w' => e = .returned (.int .i64 (Tm.neg a)) ∧ w = w' := by
  by_cases h : (-1 ≤ a ∧ a ≤ 1)
  · obtain ⟨h1, h2⟩ := h
    go_enter Try.func134, Try.ntmps134
    go_wp2
    all_goals (go_ret; exact ⟨ret_int (by grind [Tm.neg, Tm.isT]), rfl⟩)
  · go_enter Try.func134, Try.ntmps134
    go_wp2
    all_goals (go_ret; exact ⟨ret_int (by grind [Tm.neg, Tm.isT]), rfl⟩)
theorem iMinTrits (a b : Int) (w : World) : Calls Try.prog 108 #[.int .i64 a, .int .i64 b] w fun e w' => e = .returned (.int .i64 (Tm.mn a b)) ∧ w = w' := by
  go_enter Try.func108, Try.ntmps108
  go_wp2
  all_goals (go_ret; exact ⟨ret_int (by grind [Tm.mn, Tm.isT]), rfl⟩)
theorem iMaxTrits (a b : Int) (w : World) : Calls Try.prog 109 #[.int .i64 a, .int .i64 b] w fun e w' => e = .returned (.int .i64 (Tm.mx a b)) ∧ w = w' := by
  go_enter Try.func109, Try.ntmps109
  go_wp2
  all_goals (go_ret; exact ⟨ret_int (by grind [Tm.mx, Tm.isT]), rfl⟩)
theorem iAgreeTrits (a b : Int) (w : World) : Calls Try.prog 110 #[.int .i64 a, .int .i64 b] w fun e w' => e = .returned (.int .i64 (Tm.agree a b)) ∧ w = w' := by
  go_enter Try.func110, Try.ntmps110
  go_wp2
  all_goals (go_ret; exact ⟨ret_int (by grind [Tm.agree, Tm.isT]), rfl⟩)
theorem iAnyTrits (a b : Int) (w : World) : Calls Try.prog 111 #[.int .i64 a, .int .i64 b] w fun e w' => e = .returned (.int .i64 (Tm.anyT a b)) ∧ w = w' := by
  by_cases h : (-1 ≤ a ∧ a ≤ 1) ∧ (-1 ≤ b ∧ b ≤ 1)
  · obtain ⟨⟨h1, h2⟩, h3, h4⟩ := h
    go_enter Try.func111, Try.ntmps111
    go_wp2
    all_goals (go_ret; exact ⟨ret_int (by grind [Tm.anyT, Tm.isT, Tm.sgn]), rfl⟩)
  · go_enter Try.func111, Try.ntmps111
    go_wp2
    all_goals (go_ret; exact ⟨ret_int (by grind [Tm.anyT, Tm.isT, Tm.sgn]), rfl⟩)
theorem iTimesTrits (a b : Int) (w : World) : Calls Try.prog 112 #[.int .i64 a, .int .i64 b] w fun e w' => e = .returned (.int .i64 (Tm.times a b)) ∧ w = w' := by
  by_cases h : (-1 ≤ a ∧ a ≤ 1) ∧ (-1 ≤ b ∧ b ≤ 1)
  · obtain ⟨⟨h1, h2⟩, h3, h4⟩ := h
    obtain ⟨h5, h6⟩ := Tm.times_tt a b h1 h2 h3 h4
    go_enter Try.func112, Try.ntmps112
    go_wp2
    all_goals (go_ret; exact ⟨ret_int (by grind [Tm.times, Tm.isT]), rfl⟩)
  · go_enter Try.func112, Try.ntmps112
    go_wp2
    all_goals (go_ret; exact ⟨ret_int (by grind [Tm.times, Tm.isT]), rfl⟩)
theorem sIsTrit (a : Int) (w : World) : Calls Try.prog 66 #[.int .i64 a] w fun e w' => e = .returned (.bool (Tm.isT a)) ∧ w = w' := by
  go_enter Try.func66, Try.ntmps66
  go_wp2
  all_goals (go_ret; exact ⟨ret_bool (by grind [Tm.isT]), rfl⟩)
theorem sTwo (a b : Int) (w : World) : Calls Try.prog 132 #[.int .i64 a, .int .i64 b] w fun e w' => e = .returned (.bool (Tm.isT a && Tm.isT b)) ∧ w = w' := by
  go_enter Try.func132, Try.ntmps132
  go_wp2
  all_goals (go_ret; exact ⟨ret_bool (by grind [Tm.isT]), rfl⟩)
theorem sSignOf (a : Int) (w : World) : Calls Try.prog 136 #[.int .i64 a] w fun e w' => e = .returned (.int .i64 (Tm.sgn a)) ∧ w = w' := by
  go_enter Try.func136, Try.ntmps136
  go_wp2
  all_goals (go_ret; exact ⟨ret_int (by grind [Tm.sgn]), rfl⟩)
theorem sAgreeTrits (a b : Int) (w : World) : Calls Try.prog 129 #[.int .i64 a, .int .i64 b] w fun e w' => e = .returned (.int .i64 (Tm.agree a b)) ∧ w = w' := by
  go_enter Try.func129, Try.ntmps129
  go_wp2
  all_goals (go_ret; exact ⟨ret_int (by grind [Tm.agree, Tm.isT]), rfl⟩)
theorem sAnyTrits (a b : Int) (w : World) : Calls Try.prog 130 #[.int .i64 a, .int .i64 b] w fun e w' => e = .returned (.int .i64 (Tm.anyT a b)) ∧ w = w' := by
  by_cases h : (-1 ≤ a ∧ a ≤ 1) ∧ (-1 ≤ b ∧ b ≤ 1)
  · obtain ⟨⟨h1, h2⟩, h3, h4⟩ := h
    go_enter Try.func130, Try.ntmps130
    go_wp2
    all_goals (go_ret; exact ⟨ret_int (by grind [Tm.anyT, Tm.isT, Tm.sgn]), rfl⟩)
  · go_enter Try.func130, Try.ntmps130
    go_wp2
    all_goals (go_ret; exact ⟨ret_int (by grind [Tm.anyT, Tm.isT, Tm.sgn]), rfl⟩)
theorem iSplit (n : Int) (w : World) (h1 : -4 ≤ n) (h2 : n ≤ 4) : Calls Try.prog 120 #[.int .i64 n] w fun e w' => e = .returned (.tuple #[.int .i64 (Tm.sp1 n), .int .i64 (Tm.sp2 n)]) ∧ w = w' := by
  have : n = -4 ∨ n = -3 ∨ n = -2 ∨ n = -1 ∨ n = 0 ∨ n = 1 ∨ n = 2 ∨ n = 3 ∨ n = 4 := by omega
  clear h1 h2
  rcases this with rfl | rfl | rfl | rfl | rfl | rfl | rfl | rfl | rfl
  all_goals
    go_enter Try.func120, Try.ntmps120
    go_wp2
    go_ret2
    exact ⟨by simp [Tm.sp1, Tm.sp2], rfl⟩
theorem sParts (n : Int) (w : World) (h1 : -4 ≤ n) (h2 : n ≤ 4) : Calls Try.prog 135 #[.int .i64 n] w fun e w' => e = .returned (.tuple #[.int .i64 (Tm.sp1 n), .int .i64 (Tm.sp2 n)]) ∧ w = w' := by
  have : n = -4 ∨ n = -3 ∨ n = -2 ∨ n = -1 ∨ n = 0 ∨ n = 1 ∨ n = 2 ∨ n = 3 ∨ n = 4 := by omega
  clear h1 h2
  rcases this with rfl | rfl | rfl | rfl | rfl | rfl | rfl | rfl | rfl
  all_goals
    go_enter Try.func135, Try.ntmps135
    go_wp2
    go_rounds 2
    go_rounds 2
    go_ret2
    exact ⟨by simp [Tm.sp1, Tm.sp2], rfl⟩
theorem iHalfAdd (a b : Int) (w : World) : Calls Try.prog 131 #[.int .i64 a, .int .i64 b] w fun e w' => e = .returned (.tuple #[.int .i64 (Tm.half1 a b), .int .i64 (Tm.half2 a b)]) ∧ w = w' := by
  by_cases h : (-1 ≤ a ∧ a ≤ 1) ∧ (-1 ≤ b ∧ b ≤ 1)
  · obtain ⟨⟨h1, h2⟩, h3, h4⟩ := h
    go_enter Try.func131, Try.ntmps131
    go_wp2_with (first | (go_at_call 120; refine (iSplit _ _ (by omega) (by omega)).mono ?_; rintro e w' ⟨rfl, rfl⟩) | (go_at_call 101; go_in) | (go_at_call 75; go_in))
    all_goals (go_ret2; exact ⟨ret_int2 (by grind [Tm.half1, Tm.isT]) (by grind [Tm.half2, Tm.isT]), rfl⟩)
  · go_enter Try.func131, Try.ntmps131
    go_wp2_with (first | (go_at_call 120; exfalso; grind) | (go_at_call 101; go_in) | (go_at_call 75; go_in))
    all_goals (go_ret2; exact ⟨ret_int2 (by grind [Tm.half1, Tm.isT]) (by grind [Tm.half2, Tm.isT]), rfl⟩)
theorem sHalfAdd (a b : Int) (w : World) : Calls Try.prog 128 #[.int .i64 a, .int .i64 b] w fun e w' => e = .returned (.tuple #[.int .i64 (Tm.half1 a b), .int .i64 (Tm.half2 a b)]) ∧ w = w' := by
  by_cases h : (-1 ≤ a ∧ a ≤ 1) ∧ (-1 ≤ b ∧ b ≤ 1)
  · obtain ⟨⟨h1, h2⟩, h3, h4⟩ := h
    go_enter Try.func128, Try.ntmps128
    go_wp2_with (first | (go_at_call 135; refine (sParts _ _ (by omega) (by omega)).mono ?_; rintro e w' ⟨rfl, rfl⟩) | (go_at_call 132; go_in) | (go_at_call 66; go_in) | (go_at_call 58; go_in))
    all_goals (go_ret2; exact ⟨ret_int2 (by grind [Tm.half1, Tm.isT]) (by grind [Tm.half2, Tm.isT]), rfl⟩)
  · go_enter Try.func128, Try.ntmps128
    go_wp2_with (first | (go_at_call 135; exfalso; grind) | (go_at_call 132; go_in) | (go_at_call 66; go_in) | (go_at_call 58; go_in))
    all_goals (go_ret2; exact ⟨ret_int2 (by grind [Tm.half1, Tm.isT]) (by grind [Tm.half2, Tm.isT]), rfl⟩)
theorem sFullAdd (a b c : Int) (w : World) : Calls Try.prog 123 #[.int .i64 a, .int .i64 b, .int .i64 c] w fun e w' => e = .returned (.tuple #[.int .i64 (Tm.full1 a b c), .int .i64 (Tm.full2 a b c)]) ∧ w = w' := by
  by_cases h : (-1 ≤ a ∧ a ≤ 1) ∧ (-1 ≤ b ∧ b ≤ 1) ∧ (-1 ≤ c ∧ c ≤ 1)
  · obtain ⟨⟨h1, h2⟩, ⟨h3, h4⟩, h5, h6⟩ := h
    go_enter Try.func123, Try.ntmps123
    go_wp2_with (first | (go_at_call 135; refine (sParts _ _ (by omega) (by omega)).mono ?_; rintro e w' ⟨rfl, rfl⟩) | (go_at_call 132; go_in) | (go_at_call 66; go_in) | (go_at_call 58; go_in))
    all_goals (go_ret2; exact ⟨ret_int2 (by grind [Tm.full1, Tm.isT]) (by grind [Tm.full2, Tm.isT]), rfl⟩)
  · go_enter Try.func123, Try.ntmps123
    go_wp2_with (first | (go_at_call 135; exfalso; grind) | (go_at_call 132; go_in) | (go_at_call 66; go_in) | (go_at_call 58; go_in))
    all_goals (go_ret2; exact ⟨ret_int2 (by grind [Tm.full1, Tm.isT]) (by grind [Tm.full2, Tm.isT]), rfl⟩)
theorem sIn (x a b : Int) (w : World) : Calls Try.prog 58 #[.int .i64 x, .int .i64 a, .int .i64 b] w fun e w' => e = .returned (.bool (Tm.inB x a b)) ∧ w = w' := by
  go_enter Try.func58, Try.ntmps58
  go_wp2
  all_goals (go_ret; exact ⟨ret_bool (by grind [Tm.inB]), rfl⟩)
end Go.Proofs.Ytjfeiekdkefpeaa
